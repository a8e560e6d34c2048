import Derived.Test.YtdidjdoifpfmmaaGreatDoorDigits
/- What is at most what, by digits: plain mathematics. -/
namespace Go.Proofs.YtdidjdoifpfmmaaGreatDoor.Digits

theorem val_split : ∀ (l : List Nat) (i : Nat), val (l.take i) + 65536 ^ i * val (l.drop i) = val l
  | [], i => by simp [val]
  | d :: l, 0 => by simp [val]
  | d :: l, i + 1 => by
    have h := val_split l i
    simp only [List.take_succ_cons, List.drop_succ_cons, val, Nat.pow_succ]
    have e : 65536 ^ i * 65536 * val (l.drop i) = 65536 * (65536 ^ i * val (l.drop i)) := by
      rw [Nat.mul_comm (65536 ^ i) 65536, Nat.mul_assoc]
    omega

theorem val_drop_succ (l : List Nat) (i : Nat) (h : i < l.length) : val (l.drop i) = l.getD i 0 + 65536 * val (l.drop (i + 1)) := by
  rw [List.drop_eq_getElem_cons h]
  simp [val, List.getD_eq_getElem?_getD, h]

theorem val_zero_iff : ∀ (l : List Nat), val l = 0 ↔ l.sum = 0
  | [] => by simp [val]
  | d :: l => by
    have h := val_zero_iff l
    simp only [val, List.sum_cons]
    constructor
    · intro e; have : val l = 0 := by omega
      have := h.1 this; omega
    · intro e; have : l.sum = 0 := by omega
      have := h.2 this; omega

theorem sum_le : ∀ (l : List Nat) (b : Nat), (∀ d ∈ l, d ≤ b) → l.sum ≤ b * l.length
  | [], b, _ => by simp
  | d :: l, b, h => by
    have h1 := sum_le l b (fun x hx => h x (List.mem_cons_of_mem _ hx))
    have h2 := h d List.mem_cons_self
    simp only [List.sum_cons, List.length_cons, Nat.mul_succ]
    omega

theorem mem_lt {l : List Nat} (h : ∀ j, l.getD j 0 < 65536) : ∀ d ∈ l, d < 65536 := by
  intro d hd
  obtain ⟨j, hj, rfl⟩ := List.mem_iff_getElem.1 hd
  have := h j
  rwa [List.getD_eq_getElem?_getD, List.getElem?_eq_getElem hj] at this

/-- What is at most p: its whole part is less, or is p and nothing is behind the point. -/
theorem below_iff (l : List Nat) (hd : ∀ d ∈ l, d < 65536) (i p : Nat) (hi : i ≤ l.length) :
    (val (l.drop i) < p ∨ val (l.drop i) = p ∧ (l.take i).sum = 0) ↔ val l ≤ p * 65536 ^ i := by
  have h1 := val_split l i
  have h2 := val_lt (l.take i) (fun d h => hd d (List.mem_of_mem_take h))
  rw [List.length_take, Nat.min_eq_left hi] at h2
  have h3 := val_zero_iff (l.take i)
  have hP : 0 < 65536 ^ i := Nat.pow_pos (by decide)
  generalize 65536 ^ i = P at *
  generalize val (l.drop i) = n at *
  generalize val (l.take i) = t at *
  generalize val l = v at *
  generalize (l.take i).sum = s at *
  rw [Nat.mul_comm P n] at h1
  constructor
  · rintro (h | ⟨h, hz⟩)
    · have : (n + 1) * P ≤ p * P := Nat.mul_le_mul_right _ h
      rw [Nat.add_mul] at this
      omega
    · have := h3.2 hz
      subst h
      omega
  · intro h
    rcases Nat.lt_trichotomy n p with h4 | h4 | h4
    · exact Or.inl h4
    · refine Or.inr ⟨h4, h3.1 ?_⟩
      subst h4
      omega
    · exfalso
      have : (p + 1) * P ≤ n * P := Nat.mul_le_mul_right _ h4
      rw [Nat.add_mul] at this
      omega

/-- Is (whole + t / 2^32) ^ k at most p? -/
def belowB (whole t p k : Nat) : Bool := decide ((whole * 4294967296 + t) ^ k ≤ p * 4294967296 ^ k)

/-- The root's 32 bits behind the point, bit by bit. -/
def bitsTo (whole p k : Nat) : Nat → Nat
  | 0 => 0
  | n + 1 => let v := bitsTo whole p k n; if belowB whole (v + 2 ^ (31 - n)) p k then v + 2 ^ (31 - n) else v

theorem bitsTo_mod (whole p k : Nat) : ∀ n, n ≤ 32 → bitsTo whole p k n + 2 ^ (32 - n) ≤ 4294967296
  | 0, _ => by simp [bitsTo]
  | n + 1, h => by
    have ih := bitsTo_mod whole p k n (by omega)
    have e : 2 ^ (32 - n) = 2 ^ (31 - n) + 2 ^ (31 - n) := by
      have : 32 - n = (31 - n) + 1 := by omega
      rw [this, Nat.pow_succ]; omega
    have e2 : 32 - (n + 1) = 31 - n := by omega
    simp only [bitsTo]
    rw [e2]
    rw [e] at ih
    generalize 2 ^ (31 - n) = b at *
    split <;> omega

/-- The whole part of a root, by trying. -/
def wholeFrom (p k : Nat) : Nat → Nat → Nat
  | 0, m => m
  | f + 1, m => if (m + 1) ^ k ≤ p then wholeFrom p k f (m + 1) else m
def wholeOf (p k : Nat) : Nat := wholeFrom p k 49 1
def rootOf (p k : Nat) : Nat := bitsTo (wholeOf p k) p k 32

/-- Has p none of these as a divisor, up to its square root? -/
def okB (l : List Nat) (p : Nat) : Bool := (l.takeWhile fun q => decide (q * q ≤ p)).all fun q => p % q != 0
/-- The primes below 2 + n. -/
def primesTo : Nat → List Nat
  | 0 => []
  | n + 1 => let l := primesTo n; if okB l (2 + n) then l ++ [2 + n] else l

/-- The first k: is none of them a divisor? -/
def okTo (l : List Nat) (p k : Nat) : Bool := (l.take k).all fun q => p % q != 0
theorem okTo_succ (l : List Nat) (p k : Nat) (h : k < l.length) : okTo l p (k + 1) = (okTo l p k && (p % l.getD k 0 != 0)) := by
  unfold okTo
  rw [List.take_succ_eq_append_getElem h, List.all_append]
  simp [List.getD_eq_getElem?_getD, h]
theorem takeWhile_take {l : List Nat} {f : Nat → Bool} : ∀ {k : Nat}, (∀ j, j < k → f (l.getD j 0) = true) → k ≤ l.length → (k = l.length ∨ f (l.getD k 0) = false) → l.takeWhile f = l.take k := by
  induction l with
  | nil => intro k _ _ _; simp
  | cons d l ih =>
    intro k h1 h2 h3
    cases k with
    | zero =>
      rcases h3 with h3 | h3
      · simp at h3
      · simp at h3; simp [h3]
    | succ k =>
      have h0 := h1 0 (by omega)
      simp only [List.getD_cons_zero] at h0
      rw [List.takeWhile_cons, if_pos h0, List.take_succ_cons, ih (k := k) (fun j hj => by have := h1 (j + 1) (by omega); simpa using this) (by simpa using h2) (by rcases h3 with h3 | h3; exact Or.inl (by simpa using h3); exact Or.inr (by simpa using h3))]
theorem okB_end (l : List Nat) (p k : Nat) (h1 : ∀ j, j < k → l.getD j 0 * l.getD j 0 ≤ p) (h2 : k ≤ l.length) (h3 : k = l.length ∨ ¬ l.getD k 0 * l.getD k 0 ≤ p) : okB l p = okTo l p k := by
  unfold okB okTo
  rw [takeWhile_take (k := k) (fun j hj => by simpa using h1 j hj) h2 (by rcases h3 with h3 | h3; exact Or.inl h3; exact Or.inr (by simpa using h3))]
theorem primesTo_ge : ∀ (n : Nat), ∀ q ∈ primesTo n, 2 ≤ q ∧ q ≤ n + 1
  | 0, q, h => by simp [primesTo] at h
  | n + 1, q, h => by
    simp only [primesTo] at h
    split at h
    · rcases List.mem_append.1 h with h | h
      · have := primesTo_ge n q h; omega
      · simp at h; omega
    · have := primesTo_ge n q h; omega
theorem primes_len : (primesTo 310).length = 64 := by decide +kernel
theorem primes_short : ((List.range 310).all fun n => decide ((primesTo n).length < 64)) = true := by decide +kernel
theorem primes_lt (n : Nat) (h : n < 310) : (primesTo n).length < 64 := by
  have := List.all_eq_true.1 primes_short n (List.mem_range.2 h)
  simpa using this

def kList : List Nat := (primesTo 310).map fun p => rootOf p 3
def hList : List Nat := ((primesTo 310).take 8).map fun p => rootOf p 2
end Go.Proofs.YtdidjdoifpfmmaaGreatDoor.Digits
