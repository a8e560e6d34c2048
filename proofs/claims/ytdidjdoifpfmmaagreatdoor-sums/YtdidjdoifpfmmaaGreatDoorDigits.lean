/- Numbers as digits to the base 2^16; whole parts of roots, by bits; the first primes: plain mathematics, no program. -/
namespace Go.Proofs.YtdidjdoifpfmmaaGreatDoor.Digits

/-- The number that digits say, the lowest first. -/
def val : List Nat → Nat
  | [] => 0
  | d :: l => d + 65536 * val l

theorem val_lt : ∀ (l : List Nat), (∀ d ∈ l, d < 65536) → val l < 65536 ^ l.length
  | [], _ => by simp [val]
  | d :: l, h => by
    have h1 := val_lt l (fun x hx => h x (List.mem_cons_of_mem _ hx))
    have h2 := h d List.mem_cons_self
    simp only [val, List.length_cons, Nat.pow_succ]
    omega

theorem val_ge : ∀ (l : List Nat) (k : Nat), l.getD k 0 * 65536 ^ k ≤ val l
  | [], k => by simp [val]
  | d :: l, 0 => by simp [val]
  | d :: l, k + 1 => by
    have h := val_ge l k
    simp only [List.getD_cons_succ, val, Nat.pow_succ]
    have e : l.getD k 0 * (65536 ^ k * 65536) = 65536 * (l.getD k 0 * 65536 ^ k) := by
      rw [← Nat.mul_assoc, Nat.mul_comm]
    omega

theorem val_set : ∀ (l : List Nat) (k x : Nat), k < l.length → val (l.set k x) + l.getD k 0 * 65536 ^ k = val l + x * 65536 ^ k
  | [], k, x, h => by simp at h
  | d :: l, 0, x, h => by simp [val]; omega
  | d :: l, k + 1, x, h => by
    have ih := val_set l k x (by simpa using h)
    simp only [List.set_cons_succ, List.getD_cons_succ, val, Nat.pow_succ]
    have e1 : l.getD k 0 * (65536 ^ k * 65536) = 65536 * (l.getD k 0 * 65536 ^ k) := by rw [← Nat.mul_assoc, Nat.mul_comm]
    have e2 : x * (65536 ^ k * 65536) = 65536 * (x * 65536 ^ k) := by rw [← Nat.mul_assoc, Nat.mul_comm]
    omega

theorem getD_mem (l : List Nat) (k : Nat) (h : k < l.length) : l.getD k 0 ∈ l := by
  rw [List.getD_eq_getElem?_getD, List.getElem?_eq_getElem h]; exact List.getElem_mem h
theorem getD_set_self (l : List Nat) (k x : Nat) (h : k < l.length) : (l.set k x).getD k 0 = x := by
  simp [List.getD_eq_getElem?_getD, h]
theorem getD_set_ne (l : List Nat) (k j x : Nat) (h : k ≠ j) : (l.set k x).getD j 0 = l.getD j 0 := by
  simp [List.getD_eq_getElem?_getD, List.getElem?_set_ne h]

/-- The state of the carrying: all digits are digits, but for the one at k, which is no more than a product and a digit. -/
structure Carry (C : List Nat) (n k V : Nat) : Prop where
  len : C.length = n
  lt : k < n
  dig : ∀ j, j ≠ k → C.getD j 0 < 65536
  top : C.getD k 0 ≤ 4294967295
  says : val C = V
  bound : V < 65536 ^ n

/-- There is room for the carry. -/
theorem Carry.room {C : List Nat} {n k V : Nat} (h : Carry C n k V) (hc : 65536 ≤ C.getD k 0) : k + 1 < n := by
  rcases Nat.lt_or_ge (k + 1) n with h1 | h1
  · exact h1
  · exfalso
    have h2 := h.lt
    have e : n = k + 1 := by omega
    have h3 := val_ge C k
    have h4 := h.bound
    rw [e, Nat.pow_succ] at h4
    rw [h.says] at h3
    have h5 : 65536 * 65536 ^ k ≤ C.getD k 0 * 65536 ^ k := Nat.mul_le_mul_right _ hc
    omega

/-- One carry. -/
theorem Carry.step {C : List Nat} {n k V : Nat} (h : Carry C n k V) (hc : 65536 ≤ C.getD k 0) :
    Carry ((C.set (k + 1) (C.getD (k + 1) 0 + C.getD k 0 / 65536)).set k (C.getD k 0 % 65536)) n (k + 1) V := by
  have hr := h.room hc
  have hl := h.len
  have hk : k < C.length := by omega
  have hk1 : k + 1 < C.length := by omega
  have e1 : (C.set (k + 1) (C.getD (k + 1) 0 + C.getD k 0 / 65536)).getD k 0 = C.getD k 0 := getD_set_ne _ _ _ _ (by omega)
  refine ⟨by simp [hl], hr, ?_, ?_, ?_, h.bound⟩
  · intro j hj
    by_cases hjk : j = k
    · subst hjk
      rw [getD_set_self _ _ _ (by simpa using hk)]
      omega
    · rw [getD_set_ne _ _ _ _ (Ne.symm hjk), getD_set_ne _ _ _ _ (Ne.symm hj)]
      exact h.dig j hjk
  · rw [getD_set_ne _ _ _ _ (by omega), getD_set_self _ _ _ hk1]
    have := h.dig (k + 1) (by omega)
    have := h.top
    omega
  · have s1 := val_set C (k + 1) (C.getD (k + 1) 0 + C.getD k 0 / 65536) hk1
    have s2 := val_set (C.set (k + 1) (C.getD (k + 1) 0 + C.getD k 0 / 65536)) k (C.getD k 0 % 65536) (by simpa using hk)
    rw [e1] at s2
    rw [Nat.add_mul] at s1
    have e2 : 65536 ^ (k + 1) = 65536 * 65536 ^ k := by rw [Nat.pow_succ, Nat.mul_comm]
    have e3 : C.getD k 0 / 65536 * 65536 ^ (k + 1) = 65536 * (C.getD k 0 / 65536) * 65536 ^ k := by
      rw [e2, ← Nat.mul_assoc, Nat.mul_comm (C.getD k 0 / 65536) 65536]
    have e4 : C.getD k 0 * 65536 ^ k = 65536 * (C.getD k 0 / 65536) * 65536 ^ k + C.getD k 0 % 65536 * 65536 ^ k := by
      rw [← Nat.add_mul, Nat.div_add_mod]
    have := h.says
    omega

theorem Carry.done {C : List Nat} {n k V : Nat} (h : Carry C n k V) (hc : C.getD k 0 < 65536) : ∀ j, C.getD j 0 < 65536 := fun j => by
  by_cases hj : j = k
  · rw [hj]; exact hc
  · exact h.dig j hj

/-- What has been multiplied: of a the first i digits with all of b, of the digit i those below j. -/
def prodTo (a b : List Nat) (i j : Nat) : Nat := val (a.take i) * val b + a.getD i 0 * 65536 ^ i * val (b.take j)

theorem val_take_succ : ∀ (l : List Nat) (k : Nat), k < l.length → val (l.take (k + 1)) = val (l.take k) + l.getD k 0 * 65536 ^ k
  | [], k, h => by simp at h
  | d :: l, 0, h => by simp [val]
  | d :: l, k + 1, h => by
    have ih := val_take_succ l k (by simpa using h)
    simp only [List.take_succ_cons, val, ih, List.getD_cons_succ, Nat.pow_succ]
    have e : l.getD k 0 * (65536 ^ k * 65536) = 65536 * (l.getD k 0 * 65536 ^ k) := by rw [← Nat.mul_assoc, Nat.mul_comm]
    omega

theorem prodTo_j (a b : List Nat) (i j : Nat) (hj : j < b.length) : prodTo a b i (j + 1) = prodTo a b i j + a.getD i 0 * b.getD j 0 * 65536 ^ (i + j) := by
  unfold prodTo
  rw [val_take_succ b j hj, Nat.mul_add, Nat.pow_add]
  have e : a.getD i 0 * 65536 ^ i * (b.getD j 0 * 65536 ^ j) = a.getD i 0 * b.getD j 0 * (65536 ^ i * 65536 ^ j) := by
    rw [Nat.mul_assoc, Nat.mul_assoc]
    congr 1
    rw [← Nat.mul_assoc, ← Nat.mul_assoc, Nat.mul_comm (65536 ^ i)]
  omega

theorem prodTo_i (a b : List Nat) (i : Nat) (hi : i < a.length) : prodTo a b i b.length = prodTo a b (i + 1) 0 := by
  unfold prodTo
  rw [List.take_length, val_take_succ a i hi, Nat.add_mul]
  simp [val]

theorem prodTo_end (a b : List Nat) : prodTo a b a.length 0 = val a * val b := by
  unfold prodTo
  simp [val]

theorem val_take_le (l : List Nat) (k : Nat) : val (l.take k) ≤ val l := by
  induction l generalizing k with
  | nil => simp
  | cons d l ih =>
    cases k with
    | zero => simp [val]
    | succ k => simp only [List.take_succ_cons, val]; have := ih k; omega

theorem prodTo_le (a b : List Nat) (i j : Nat) (hi : i < a.length) : prodTo a b i j ≤ val a * val b := by
  have h1 : prodTo a b i j ≤ prodTo a b i b.length := by
    unfold prodTo
    rw [List.take_length]
    exact Nat.add_le_add_left (Nat.mul_le_mul_left _ (val_take_le b j)) _
  rw [prodTo_i a b i hi] at h1
  refine Nat.le_trans h1 ?_
  unfold prodTo
  simp only [List.take_zero, val, Nat.mul_zero, Nat.add_zero]
  exact Nat.mul_le_mul_right _ (val_take_le a _)

theorem prod_lt (a b : List Nat) (ha : ∀ d ∈ a, d < 65536) (hb : ∀ d ∈ b, d < 65536) : val a * val b < 65536 ^ (a.length + b.length) := by
  rw [Nat.pow_add]
  have h1 := val_lt a ha
  have h2 := val_lt b hb
  exact Nat.mul_lt_mul'' h1 h2

/-- A product is added at i + j: the carrying begins. -/
theorem Carry.begin {a b C : List Nat} {i j : Nat} (ha : ∀ d ∈ a, d < 65536) (hb : ∀ d ∈ b, d < 65536) (hi : i < a.length) (hj : j < b.length)
    (hl : C.length = a.length + b.length) (hd : ∀ x, C.getD x 0 < 65536) (hv : val C = prodTo a b i j) :
    Carry (C.set (i + j) (C.getD (i + j) 0 + a.getD i 0 * b.getD j 0)) (a.length + b.length) (i + j) (prodTo a b i (j + 1)) := by
  have hk : i + j < C.length := by omega
  have hai : a.getD i 0 ≤ 65535 := by
    have : a.getD i 0 ∈ a := by rw [List.getD_eq_getElem?_getD, List.getElem?_eq_getElem hi]; exact List.getElem_mem hi
    have := ha _ this
    omega
  have hbj : b.getD j 0 ≤ 65535 := by
    have : b.getD j 0 ∈ b := by rw [List.getD_eq_getElem?_getD, List.getElem?_eq_getElem hj]; exact List.getElem_mem hj
    have := hb _ this
    omega
  have hp : a.getD i 0 * b.getD j 0 ≤ 65535 * 65535 := Nat.mul_le_mul hai hbj
  refine ⟨by simp [hl], by omega, ?_, ?_, ?_, ?_⟩
  · intro x hx
    rw [getD_set_ne _ _ _ _ (Ne.symm hx)]
    exact hd x
  · rw [getD_set_self _ _ _ hk]
    have := hd (i + j)
    omega
  · have s := val_set C (i + j) (C.getD (i + j) 0 + a.getD i 0 * b.getD j 0) hk
    rw [Nat.add_mul] at s
    rw [prodTo_j a b i j hj]
    omega
  · exact Nat.lt_of_le_of_lt (prodTo_le a b i (j + 1) hi) (prod_lt a b ha hb)
end Go.Proofs.YtdidjdoifpfmmaaGreatDoor.Digits
