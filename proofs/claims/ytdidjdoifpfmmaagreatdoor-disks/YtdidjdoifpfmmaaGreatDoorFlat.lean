import Derived.Test.YtdidjdoifpfmmaaGreatDoorGA1
/- Rows of things of m cells each, as lists. -/
namespace Go.Proofs.YtdidjdoifpfmmaaGreatDoor
theorem flat_length {α β : Type} (f : α → List β) (m : Nat) (l : List α) (hf : ∀ x ∈ l, (f x).length = m) : (l.flatMap f).length = l.length * m := by
  induction l with
  | nil => simp
  | cons x l ih =>
    rw [List.flatMap_cons, List.length_append, ih (fun y hy => hf y (List.mem_cons_of_mem _ hy)), hf x List.mem_cons_self, List.length_cons, Nat.add_mul]
    omega
theorem flat_get {α β : Type} (f : α → List β) (m : Nat) (l : List α) (hf : ∀ x ∈ l, (f x).length = m) (k : Nat) (hk : k < l.length) (j : Nat) (hj : j < m) : (l.flatMap f)[k * m + j]? = (f l[k])[j]? := by
  induction l generalizing k with
  | nil => simp at hk
  | cons x l ih =>
    have hx := hf x List.mem_cons_self
    rw [List.flatMap_cons]
    cases k with
    | zero => rw [List.getElem?_append_left (by omega)]; simp
    | succ k =>
      rw [List.getElem?_append_right (by rw [hx, Nat.add_mul]; omega), hx, show (k + 1) * m + j - m = k * m + j by rw [Nat.add_mul]; omega,
        ih (fun y hy => hf y (List.mem_cons_of_mem _ hy)) k (by simpa using hk)]
      simp
theorem flat_set {α β : Type} (f : α → List β) (m : Nat) (l : List α) (hf : ∀ x ∈ l, (f x).length = m) (k : Nat) (hk : k < l.length) (y : α) (hy : (f y).length = m) (i : Nat) :
    ((l.set k y).flatMap f)[i]? = if k * m ≤ i ∧ i < k * m + m then (f y)[i - k * m]? else (l.flatMap f)[i]? := by
  induction l generalizing k i with
  | nil => simp at hk
  | cons x l ih =>
    have hx := hf x List.mem_cons_self
    cases k with
    | zero =>
      simp only [List.set_cons_zero, List.flatMap_cons, Nat.zero_mul, Nat.zero_le, true_and, Nat.zero_add, Nat.sub_zero]
      by_cases h : i < m
      · rw [if_pos h, List.getElem?_append_left (by omega)]
      · rw [if_neg h, List.getElem?_append_right (by omega), List.getElem?_append_right (by omega), hx, hy]
    | succ k =>
      simp only [List.set_cons_succ, List.flatMap_cons]
      have e : (k + 1) * m = k * m + m := by rw [Nat.add_mul]; omega
      by_cases h : i < m
      · rw [List.getElem?_append_left (by omega), List.getElem?_append_left (by omega), if_neg (by omega)]
      · rw [List.getElem?_append_right (by omega), List.getElem?_append_right (by omega), hx, ih (fun y hy => hf y (List.mem_cons_of_mem _ hy)) k (by simpa using hk), e]
        by_cases h2 : k * m ≤ i - m ∧ i - m < k * m + m
        · rw [if_pos h2, if_pos (by omega), show i - m - k * m = i - (k * m + m) by omega]
        · rw [if_neg h2, if_neg (by omega)]

end Go.Proofs.YtdidjdoifpfmmaaGreatDoor
