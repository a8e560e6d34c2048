import Derived.Test.YtdidjdoifpfmmaaGreatDoorProg
import Derived.WalkKit
import Derived.WalkLawsBesides
import Derived.Laws.Rows
import Derived.WalkSmall
import Derived.BigRegion
import Derived.Laws.MakeOwn
/- Numbers as digits to the base 2^16; whole parts of roots, by bits; the first primes: plain mathematics, no program. -/
namespace Go.Proofs.YtdidjdoifpfmmaaGreatDoor.Digits

/-- The number that digits say, the lowest first. -/
def val : List Nat → Nat
  | [] => 0
  | d :: l => d + 65536 * val l

theorem val_lt : ∀ (l : List Nat), (∀ d ∈ l, d < 65536) → val l < 65536 ^ l.length
  | [], _ => by simp [val]
  | d :: l, h => by
    have h1 := val_lt l (fun x hx => h x (List.mem_cons_of_mem _ hx))
    have h2 := h d List.mem_cons_self
    simp only [val, List.length_cons, Nat.pow_succ]
    omega

theorem val_ge : ∀ (l : List Nat) (k : Nat), l.getD k 0 * 65536 ^ k ≤ val l
  | [], k => by simp [val]
  | d :: l, 0 => by simp [val]
  | d :: l, k + 1 => by
    have h := val_ge l k
    simp only [List.getD_cons_succ, val, Nat.pow_succ]
    have e : l.getD k 0 * (65536 ^ k * 65536) = 65536 * (l.getD k 0 * 65536 ^ k) := by
      rw [← Nat.mul_assoc, Nat.mul_comm]
    omega

theorem val_set : ∀ (l : List Nat) (k x : Nat), k < l.length → val (l.set k x) + l.getD k 0 * 65536 ^ k = val l + x * 65536 ^ k
  | [], k, x, h => by simp at h
  | d :: l, 0, x, h => by simp [val]; omega
  | d :: l, k + 1, x, h => by
    have ih := val_set l k x (by simpa using h)
    simp only [List.set_cons_succ, List.getD_cons_succ, val, Nat.pow_succ]
    have e1 : l.getD k 0 * (65536 ^ k * 65536) = 65536 * (l.getD k 0 * 65536 ^ k) := by rw [← Nat.mul_assoc, Nat.mul_comm]
    have e2 : x * (65536 ^ k * 65536) = 65536 * (x * 65536 ^ k) := by rw [← Nat.mul_assoc, Nat.mul_comm]
    omega

theorem getD_mem (l : List Nat) (k : Nat) (h : k < l.length) : l.getD k 0 ∈ l := by
  rw [List.getD_eq_getElem?_getD, List.getElem?_eq_getElem h]; exact List.getElem_mem h
theorem getD_set_self (l : List Nat) (k x : Nat) (h : k < l.length) : (l.set k x).getD k 0 = x := by
  simp [List.getD_eq_getElem?_getD, h]
theorem getD_set_ne (l : List Nat) (k j x : Nat) (h : k ≠ j) : (l.set k x).getD j 0 = l.getD j 0 := by
  simp [List.getD_eq_getElem?_getD, List.getElem?_set_ne h]

/-- The state of the carrying: all digits are digits, but for the one at k, which is no more than a product and a digit. -/
structure Carry (C : List Nat) (n k V : Nat) : Prop where
  len : C.length = n
  lt : k < n
  dig : ∀ j, j ≠ k → C.getD j 0 < 65536
  top : C.getD k 0 ≤ 4294967295
  says : val C = V
  bound : V < 65536 ^ n

/-- There is room for the carry. -/
theorem Carry.room {C : List Nat} {n k V : Nat} (h : Carry C n k V) (hc : 65536 ≤ C.getD k 0) : k + 1 < n := by
  rcases Nat.lt_or_ge (k + 1) n with h1 | h1
  · exact h1
  · exfalso
    have h2 := h.lt
    have e : n = k + 1 := by omega
    have h3 := val_ge C k
    have h4 := h.bound
    rw [e, Nat.pow_succ] at h4
    rw [h.says] at h3
    have h5 : 65536 * 65536 ^ k ≤ C.getD k 0 * 65536 ^ k := Nat.mul_le_mul_right _ hc
    omega

/-- One carry. -/
theorem Carry.step {C : List Nat} {n k V : Nat} (h : Carry C n k V) (hc : 65536 ≤ C.getD k 0) :
    Carry ((C.set (k + 1) (C.getD (k + 1) 0 + C.getD k 0 / 65536)).set k (C.getD k 0 % 65536)) n (k + 1) V := by
  have hr := h.room hc
  have hl := h.len
  have hk : k < C.length := by omega
  have hk1 : k + 1 < C.length := by omega
  have e1 : (C.set (k + 1) (C.getD (k + 1) 0 + C.getD k 0 / 65536)).getD k 0 = C.getD k 0 := getD_set_ne _ _ _ _ (by omega)
  refine ⟨by simp [hl], hr, ?_, ?_, ?_, h.bound⟩
  · intro j hj
    by_cases hjk : j = k
    · subst hjk
      rw [getD_set_self _ _ _ (by simpa using hk)]
      omega
    · rw [getD_set_ne _ _ _ _ (Ne.symm hjk), getD_set_ne _ _ _ _ (Ne.symm hj)]
      exact h.dig j hjk
  · rw [getD_set_ne _ _ _ _ (by omega), getD_set_self _ _ _ hk1]
    have := h.dig (k + 1) (by omega)
    have := h.top
    omega
  · have s1 := val_set C (k + 1) (C.getD (k + 1) 0 + C.getD k 0 / 65536) hk1
    have s2 := val_set (C.set (k + 1) (C.getD (k + 1) 0 + C.getD k 0 / 65536)) k (C.getD k 0 % 65536) (by simpa using hk)
    rw [e1] at s2
    rw [Nat.add_mul] at s1
    have e2 : 65536 ^ (k + 1) = 65536 * 65536 ^ k := by rw [Nat.pow_succ, Nat.mul_comm]
    have e3 : C.getD k 0 / 65536 * 65536 ^ (k + 1) = 65536 * (C.getD k 0 / 65536) * 65536 ^ k := by
      rw [e2, ← Nat.mul_assoc, Nat.mul_comm (C.getD k 0 / 65536) 65536]
    have e4 : C.getD k 0 * 65536 ^ k = 65536 * (C.getD k 0 / 65536) * 65536 ^ k + C.getD k 0 % 65536 * 65536 ^ k := by
      rw [← Nat.add_mul, Nat.div_add_mod]
    have := h.says
    omega

theorem Carry.done {C : List Nat} {n k V : Nat} (h : Carry C n k V) (hc : C.getD k 0 < 65536) : ∀ j, C.getD j 0 < 65536 := fun j => by
  by_cases hj : j = k
  · rw [hj]; exact hc
  · exact h.dig j hj

/-- What has been multiplied: of a the first i digits with all of b, of the digit i those below j. -/
def prodTo (a b : List Nat) (i j : Nat) : Nat := val (a.take i) * val b + a.getD i 0 * 65536 ^ i * val (b.take j)

theorem val_take_succ : ∀ (l : List Nat) (k : Nat), k < l.length → val (l.take (k + 1)) = val (l.take k) + l.getD k 0 * 65536 ^ k
  | [], k, h => by simp at h
  | d :: l, 0, h => by simp [val]
  | d :: l, k + 1, h => by
    have ih := val_take_succ l k (by simpa using h)
    simp only [List.take_succ_cons, val, ih, List.getD_cons_succ, Nat.pow_succ]
    have e : l.getD k 0 * (65536 ^ k * 65536) = 65536 * (l.getD k 0 * 65536 ^ k) := by rw [← Nat.mul_assoc, Nat.mul_comm]
    omega

theorem prodTo_j (a b : List Nat) (i j : Nat) (hj : j < b.length) : prodTo a b i (j + 1) = prodTo a b i j + a.getD i 0 * b.getD j 0 * 65536 ^ (i + j) := by
  unfold prodTo
  rw [val_take_succ b j hj, Nat.mul_add, Nat.pow_add]
  have e : a.getD i 0 * 65536 ^ i * (b.getD j 0 * 65536 ^ j) = a.getD i 0 * b.getD j 0 * (65536 ^ i * 65536 ^ j) := by
    rw [Nat.mul_assoc, Nat.mul_assoc]
    congr 1
    rw [← Nat.mul_assoc, ← Nat.mul_assoc, Nat.mul_comm (65536 ^ i)]
  omega

theorem prodTo_i (a b : List Nat) (i : Nat) (hi : i < a.length) : prodTo a b i b.length = prodTo a b (i + 1) 0 := by
  unfold prodTo
  rw [List.take_length, val_take_succ a i hi, Nat.add_mul]
  simp [val]

theorem prodTo_end (a b : List Nat) : prodTo a b a.length 0 = val a * val b := by
  unfold prodTo
  simp [val]

theorem val_take_le (l : List Nat) (k : Nat) : val (l.take k) ≤ val l := by
  induction l generalizing k with
  | nil => simp
  | cons d l ih =>
    cases k with
    | zero => simp [val]
    | succ k => simp only [List.take_succ_cons, val]; have := ih k; omega

theorem prodTo_le (a b : List Nat) (i j : Nat) (hi : i < a.length) : prodTo a b i j ≤ val a * val b := by
  have h1 : prodTo a b i j ≤ prodTo a b i b.length := by
    unfold prodTo
    rw [List.take_length]
    exact Nat.add_le_add_left (Nat.mul_le_mul_left _ (val_take_le b j)) _
  rw [prodTo_i a b i hi] at h1
  refine Nat.le_trans h1 ?_
  unfold prodTo
  simp only [List.take_zero, val, Nat.mul_zero, Nat.add_zero]
  exact Nat.mul_le_mul_right _ (val_take_le a _)

theorem prod_lt (a b : List Nat) (ha : ∀ d ∈ a, d < 65536) (hb : ∀ d ∈ b, d < 65536) : val a * val b < 65536 ^ (a.length + b.length) := by
  rw [Nat.pow_add]
  have h1 := val_lt a ha
  have h2 := val_lt b hb
  exact Nat.mul_lt_mul'' h1 h2

/-- A product is added at i + j: the carrying begins. -/
theorem Carry.begin {a b C : List Nat} {i j : Nat} (ha : ∀ d ∈ a, d < 65536) (hb : ∀ d ∈ b, d < 65536) (hi : i < a.length) (hj : j < b.length)
    (hl : C.length = a.length + b.length) (hd : ∀ x, C.getD x 0 < 65536) (hv : val C = prodTo a b i j) :
    Carry (C.set (i + j) (C.getD (i + j) 0 + a.getD i 0 * b.getD j 0)) (a.length + b.length) (i + j) (prodTo a b i (j + 1)) := by
  have hk : i + j < C.length := by omega
  have hai : a.getD i 0 ≤ 65535 := by
    have : a.getD i 0 ∈ a := by rw [List.getD_eq_getElem?_getD, List.getElem?_eq_getElem hi]; exact List.getElem_mem hi
    have := ha _ this
    omega
  have hbj : b.getD j 0 ≤ 65535 := by
    have : b.getD j 0 ∈ b := by rw [List.getD_eq_getElem?_getD, List.getElem?_eq_getElem hj]; exact List.getElem_mem hj
    have := hb _ this
    omega
  have hp : a.getD i 0 * b.getD j 0 ≤ 65535 * 65535 := Nat.mul_le_mul hai hbj
  refine ⟨by simp [hl], by omega, ?_, ?_, ?_, ?_⟩
  · intro x hx
    rw [getD_set_ne _ _ _ _ (Ne.symm hx)]
    exact hd x
  · rw [getD_set_self _ _ _ hk]
    have := hd (i + j)
    omega
  · have s := val_set C (i + j) (C.getD (i + j) 0 + a.getD i 0 * b.getD j 0) hk
    rw [Nat.add_mul] at s
    rw [prodTo_j a b i j hj]
    omega
  · exact Nat.lt_of_le_of_lt (prodTo_le a b i (j + 1) hi) (prod_lt a b ha hb)
end Go.Proofs.YtdidjdoifpfmmaaGreatDoor.Digits
/- Blocks whose cells are known whole: rows of numbers. -/
namespace Go.Proofs.YtdidjdoifpfmmaaGreatDoor
open Go.RowKit

theorem lt_of_cell {w : World} {p : Addr} {v : Value} (h : w.cell? p = some v) : p.block < w.heap.size := by
  rcases Nat.lt_or_ge p.block w.heap.size with h' | h'
  · exact h'
  · simp [World.cell?, Array.getElem?_eq_none h'] at h

theorem ret_eq {a b : Value} (h : a = b) : Ending.returned a = .returned b := by rw [h]

/-- Block g holds the cells vs, and may be written. -/
structure RowIs (w : World) (g : Nat) (t : TypeId) (vs : List Value) : Prop where
  heap : w.heap[g]? = some (.cells vs.toArray t (0, 0))

theorem RowIs.lt {w : World} {g : Nat} {t : TypeId} {vs : List Value} (h : RowIs w g t vs) : g < w.heap.size := by
  rcases Nat.lt_or_ge g w.heap.size with h' | h'
  · exact h'
  · have := h.heap; rw [Array.getElem?_eq_none h'] at this; cases this

theorem RowIs.cell {w : World} {g : Nat} {t : TypeId} {vs : List Value} (h : RowIs w g t vs) (j : Nat) : w.cell? ⟨g, j, none⟩ = vs[j]? := by
  rw [cell_of_row w g j _ t _ h.heap]; simp

theorem RowIs.frozen {w : World} {g : Nat} {t : TypeId} {vs : List Value} (h : RowIs w g t vs) (j : Nat) : w.frozen? ⟨g, j, none⟩ = false := by
  simp [World.frozen?, h.heap]

theorem RowIs.set {w : World} {g : Nat} {t : TypeId} {vs : List Value} (h : RowIs w g t vs) (j : Nat) (v : Value) : RowIs (w.setCell ⟨g, j, none⟩ v) g t (vs.set j v) := ⟨by
  simp [World.setCell, Array.getElem?_modify, h.heap]⟩

theorem RowIs.other {w : World} {g : Nat} {t : TypeId} {vs : List Value} (h : RowIs w g t vs) {a : Addr} (v : Value) (ha : g ≠ a.block) : RowIs (w.setCell a v) g t vs := ⟨by
  rw [Below.heap_setCell _ _ _ _ ha]; exact h.heap⟩

theorem RowIs.drew {w : World} {g : Nat} {t : TypeId} {vs : List Value} (h : RowIs w g t vs) : RowIs w.drew g t vs := ⟨h.heap⟩

theorem RowIs.below {w w' : World} {B g : Nat} {t : TypeId} {vs : List Value} (h : RowIs w g t vs) (hb : Below B w w') (hg : g < B) : RowIs w' g t vs := ⟨by rw [hb.block g hg]; exact h.heap⟩

theorem RowIs.new (w : World) (t : TypeId) (vs : List Value) : RowIs (w.alloc (.cells vs.toArray t)) w.heap.size t vs := ⟨by
  show (w.heap.push _)[w.heap.size]? = _
  simp⟩

theorem three_rows (w : World) (t1 t2 t3 : TypeId) (v1 v2 v3 : List Value) :
    Below w.heap.size w (((w.alloc (.cells v1.toArray t1)).alloc (.cells v2.toArray t2)).alloc (.cells v3.toArray t3)) ∧
    RowIs (((w.alloc (.cells v1.toArray t1)).alloc (.cells v2.toArray t2)).alloc (.cells v3.toArray t3)) w.heap.size t1 v1 ∧
    RowIs (((w.alloc (.cells v1.toArray t1)).alloc (.cells v2.toArray t2)).alloc (.cells v3.toArray t3)) (w.heap.size + 1) t2 v2 ∧
    RowIs (((w.alloc (.cells v1.toArray t1)).alloc (.cells v2.toArray t2)).alloc (.cells v3.toArray t3)) (w.heap.size + 1 + 1) t3 v3 ∧
    (((w.alloc (.cells v1.toArray t1)).alloc (.cells v2.toArray t2)).alloc (.cells v3.toArray t3)).heap.size = w.heap.size + 3 := by
  have h1 := ((RowIs.new w t1 v1).below ((Below.refl _ _).alloc (Nat.le_refl _) (.cells v2.toArray t2)) (by simp)).below ((Below.refl _ _).alloc (Nat.le_refl _) (.cells v3.toArray t3)) (by simp; omega)
  have h2 := (RowIs.new (w.alloc (.cells v1.toArray t1)) t2 v2).below ((Below.refl _ _).alloc (Nat.le_refl _) (.cells v3.toArray t3)) (by simp)
  have h3 := RowIs.new ((w.alloc (.cells v1.toArray t1)).alloc (.cells v2.toArray t2)) t3 v3
  simp only [World.size_alloc] at h2 h3
  exact ⟨(((Below.refl _ _).alloc (Nat.le_refl _) _).alloc (by simp) _).alloc (by simp; omega) _, h1, h2, h3, by simp⟩

/-- Numbers as values. -/
abbrev I (n : Nat) : Value := .int .i64 n
def ints (l : List Nat) : List Value := l.map I
theorem ints_get (l : List Nat) (j : Nat) (h : j < l.length) : (ints l)[j]? = some (.int .i64 (l.getD j 0 : Nat)) := by
  simp [ints, List.getD_eq_getElem?_getD, h]
theorem ints_set (l : List Nat) (j x : Nat) : (ints l).set j (.int .i64 (x : Nat)) = ints (l.set j x) := by
  simp [ints, List.map_set]
theorem ints_length (l : List Nat) : (ints l).length = l.length := by simp [ints]
end Go.Proofs.YtdidjdoifpfmmaaGreatDoor
namespace Go.Proofs.YtdidjdoifpfmmaaGreatDoor
open Go.RowKit Digits

theorem intInfo : (Tryz.prog.info? 3).map (fun i => (i.zero, i.size, i.bytes)) = some (some (.int .i64 0), 1, 8) := by kernel_rfl

theorem madeInts (n : Nat) : madeCells (Value.int .i64 0).cells n = (ints (List.replicate n 0)).toArray := by
  apply Array.ext
  · simp [madeCells, ints]
  · intro i h1 h2
    simp [madeCells, ints, Value.cells, Nat.mod_one]

theorem makeInts (w : World) (n : Nat) (hn : n ≤ 4194304) : (Instr.makeSlice 34 (.int .i64 (n : Int)) (.int .i64 (n : Int))).run Tryz.prog w
    = .ok (.slice (some ⟨w.heap.size, 0, none⟩) n n) (w.alloc (.cells (ints (List.replicate n 0)).toArray 3)) := by
  obtain ⟨i0, hi, hz0, hz1, hz2⟩ := info_parts intInfo
  have h := run_make (P := Tryz.prog) w 34 3 i0 (.int .i64 0) Tryz.underlying34 hi hz0 .i64 .i64 n n (by omega) (by omega) (by rw [hz2]; omega) (by omega)
  rw [hz1, Nat.mul_one, Int.toNat_natCast, madeInts] at h
  exact h

theorem val_zeros (n : Nat) : val (List.replicate n 0) = 0 := by
  induction n with
  | zero => rfl
  | succ n ih => simp [List.replicate_succ, val, ih]

theorem zeros_dig (n j : Nat) : (List.replicate n 0).getD j 0 < 65536 := by
  simp [List.getD_eq_getElem?_getD, List.getElem?_replicate]
  split <;> simp
theorem getD_lt (A : List Nat) (k : Nat) (dA : ∀ d ∈ A, d < 65536) (h : k < A.length) : A.getD k 0 < 65536 := by
  rw [List.getD_eq_getElem?_getD, List.getElem?_eq_getElem h]; exact dA _ (List.getElem_mem h)

set_option maxHeartbeats 4000000 in
set_option maxRecDepth 3000 in
theorem times_any (A B : List Nat) (ba bb : Nat) (w : World) (hA : RowIs w ba 3 (ints A)) (hB : RowIs w bb 3 (ints B)) (dA : ∀ d ∈ A, d < 65536) (dB : ∀ d ∈ B, d < 65536) (hla : A.length ≤ 1000) (hlb : B.length ≤ 1000) :
    Calls Tryz.prog 247 #[.slice (some ⟨ba, 0, none⟩) A.length A.length, .slice (some ⟨bb, 0, none⟩) B.length B.length] w fun e w' => ∃ C, e = .returned (.slice (some ⟨w.heap.size, 0, none⟩) (A.length + B.length) (A.length + B.length)) ∧
      RowIs w' w.heap.size 3 (ints C) ∧ C.length = A.length + B.length ∧ (∀ j, C.getD j 0 < 65536) ∧ val C = val A * val B ∧ Below w.heap.size w w' := by
  have hmk := makeInts w (A.length + B.length) (by omega)
  have eca : ((A.length + B.length : Nat) : Int) = (A.length : Int) + (B.length : Int) := by omega
  rw [eca] at hmk
  go_enter Tryz.func247, Tryz.ntmps247
  go_wp2
  clear hmk eca
  go_loopw [6] (fun i wr => ∃ (k : Nat) (C : List Nat), k ≤ A.length ∧ i = .int .i64 k ∧ RowIs wr w.heap.size 3 (ints C) ∧ C.length = A.length + B.length ∧ (∀ x, C.getD x 0 < 65536) ∧ val C = prodTo A B k 0 ∧ Below w.heap.size w wr) (fun i _ => A.length - (intOf i).toNat)
  case atStart => exact ⟨0, _, Nat.zero_le _, rfl, RowIs.new _ _ _, by simp, zeros_dig _, by rw [val_zeros]; simp [prodTo, val], (Below.refl _ _).alloc (Nat.le_refl _) _⟩
  case round =>
    obtain ⟨k, C, hk, rfl, hR, hlC, hdC, hvC, hb⟩ := hrel
    by_cases hlt : k < A.length
    · go_wp2
      go_loopw [7] (fun i wr => ∃ (m : Nat) (C : List Nat), m ≤ B.length ∧ i = .int .i64 m ∧ RowIs wr w.heap.size 3 (ints C) ∧ C.length = A.length + B.length ∧ (∀ x, C.getD x 0 < 65536) ∧ val C = prodTo A B k m ∧ Below w.heap.size w wr) (fun i _ => B.length - (intOf i).toNat)
      case atStart => exact ⟨0, C, Nat.zero_le _, rfl, hR, hlC, hdC, hvC, hb⟩
      case round =>
        clear hR hlC hdC hvC hb
        obtain ⟨m, C, hm, rfl, hR, hlC, hdC, hvC, hb⟩ := hrel
        by_cases hmt : m < B.length
        · have hca := (hA.below hb hA.lt).cell k
          rw [ints_get A k hlt] at hca
          have hcb := (hB.below hb hB.lt).cell m
          rw [ints_get B m hmt] at hcb
          have hcc := hR.cell (k + m)
          rw [ints_get C (k + m) (by omega)] at hcc
          have hcf := hR.frozen (k + m)
          have hbeg := Carry.begin dA dB hlt hmt hlC hdC hvC
          have d1 := hdC (k + m)
          have d2 := getD_lt A k dA hlt
          have d3 := getD_lt B m dB hmt
          generalize ea : A.getD k 0 = x at *
          generalize eb : B.getD m 0 = y at *
          generalize ec : C.getD (k + m) 0 = z at *
          have hxy : x * y ≤ 65535 * 65535 := Nat.mul_le_mul (by omega) (by omega)
          have hxy' : (x : Int) * (y : Int) ≤ 4294836225 := by rw [← Int.natCast_mul]; omega
          have hxy0 : 0 ≤ (x : Int) * (y : Int) := by rw [← Int.natCast_mul]; omega
          go_wp2
          go_region
          have hR1 : RowIs (wr.setCell ⟨w.heap.size, k + m, none⟩ (.int .i64 ((z : Int) + (x : Int) * (y : Int)))).drew w.heap.size 3 (ints (C.set (k + m) (z + x * y))) := by
            rw [← ints_set]; exact (hR.set _ _).drew
          have hb1 : Below w.heap.size w (wr.setCell ⟨w.heap.size, k + m, none⟩ (.int .i64 ((z : Int) + (x : Int) * (y : Int)))).drew := (hb.setCell (Nat.le_refl _) _).drew
          clear hca hcb hcc hcf d1 d2 d3 ea eb ec hxy hxy' hxy0 hR hlC hdC hvC hb
          go_wp2
          go_loopw [8] (fun i wr => ∃ (q : Nat) (C : List Nat), i = .int .i64 q ∧ RowIs wr w.heap.size 3 (ints C) ∧ Carry C (A.length + B.length) q (prodTo A B k (m + 1)) ∧ Below w.heap.size w wr) (fun i _ => A.length + B.length - (intOf i).toNat)
          case atStart => exact ⟨k + m, _, by go_num, hR1, hbeg, hb1⟩
          case round =>
            clear hR1 hb1 hbeg
            obtain ⟨q, C, rfl, hR, hC, hb⟩ := hrel
            have hq := hC.lt
            have hl := hC.len
            have hc1 := hR.cell q
            rw [ints_get C q (by omega)] at hc1
            have hf1 := hR.frozen q
            by_cases hge : 65536 ≤ C.getD q 0
            · have hroom := hC.room hge
              have hstep := hC.step hge
              have hc2 := hR.cell (q + 1)
              rw [ints_get C (q + 1) (by omega)] at hc2
              have hf2 := hR.frozen (q + 1)
              have t1 := hC.top
              have t2 := hC.dig (q + 1) (by omega)
              generalize e1 : C.getD q 0 = x at *
              generalize e2 : C.getD (q + 1) 0 = y at *
              have hx0 : (65536 : Int) ≤ (x : Int) := by omega
              go_wp2
              go_region
              have hR1 : RowIs (wr.setCell ⟨w.heap.size, q + 1, none⟩ (.int .i64 ((y : Int) + (x : Int) / 65536))).drew w.heap.size 3 (ints (C.set (q + 1) (y + x / 65536))) := by
                rw [← ints_set]; exact (hR.set _ _).drew
              have hb1 : Below w.heap.size w (wr.setCell ⟨w.heap.size, q + 1, none⟩ (.int .i64 ((y : Int) + (x : Int) / 65536))).drew := (hb.setCell (Nat.le_refl _) _).drew
              have hc3 := hR1.cell q
              rw [ints_get _ q (by simp; omega), Digits.getD_set_ne _ _ _ _ (by omega), e1] at hc3
              have hf3 := hR1.frozen q
              clear hc1 hc2 hf1 hf2 hR hb
              generalize (wr.setCell ⟨w.heap.size, q + 1, none⟩ (.int .i64 ((y : Int) + (x : Int) / 65536))).drew = w1 at *
              go_wp2
              go_roundw
              case rel =>
                refine ⟨q + 1, _, by go_num, ?_, hstep, hb1.setCell (Nat.le_refl _) _⟩
                rw [← ints_set]; exact hR1.set _ _
              case measure => simp [intOf]; omega
            · have hdone : Hid _ := hC.done (by omega)
              have hval : Hid _ := hC.says
              obtain ⟨x, e1⟩ : ∃ x, C.getD q 0 = x := ⟨_, rfl⟩
              rw [e1] at hc1 hge
              clear e1 hC
              have hlt1 : ¬ (65536 : Int) ≤ (x : Int) := by omega
              clear hge
              go_wp2
              go_roundw
              case rel => exact ⟨m + 1, C, by omega, by go_num, hR, hl, hdone.out, hval.out, hb⟩
              case measure => simp [intOf]; omega
        · have em : m = B.length := by omega
          subst em
          rw [prodTo_i A B k hlt] at hvC
          go_wp2
          go_roundw
          case rel => exact ⟨k + 1, C, by omega, by go_num, hR, hlC, hdC, hvC, hb⟩
          case measure => simp [intOf]; omega
    · have ek : k = A.length := by omega
      subst ek
      rw [prodTo_end] at hvC
      go_wp2
      go_ret
      exact ⟨C, rfl, hR, hlC, hdC, hvC, hb⟩
end Go.Proofs.YtdidjdoifpfmmaaGreatDoor
/- What is at most what, by digits: plain mathematics. -/
namespace Go.Proofs.YtdidjdoifpfmmaaGreatDoor.Digits

theorem val_split : ∀ (l : List Nat) (i : Nat), val (l.take i) + 65536 ^ i * val (l.drop i) = val l
  | [], i => by simp [val]
  | d :: l, 0 => by simp [val]
  | d :: l, i + 1 => by
    have h := val_split l i
    simp only [List.take_succ_cons, List.drop_succ_cons, val, Nat.pow_succ]
    have e : 65536 ^ i * 65536 * val (l.drop i) = 65536 * (65536 ^ i * val (l.drop i)) := by
      rw [Nat.mul_comm (65536 ^ i) 65536, Nat.mul_assoc]
    omega

theorem val_drop_succ (l : List Nat) (i : Nat) (h : i < l.length) : val (l.drop i) = l.getD i 0 + 65536 * val (l.drop (i + 1)) := by
  rw [List.drop_eq_getElem_cons h]
  simp [val, List.getD_eq_getElem?_getD, h]

theorem val_zero_iff : ∀ (l : List Nat), val l = 0 ↔ l.sum = 0
  | [] => by simp [val]
  | d :: l => by
    have h := val_zero_iff l
    simp only [val, List.sum_cons]
    constructor
    · intro e; have : val l = 0 := by omega
      have := h.1 this; omega
    · intro e; have : l.sum = 0 := by omega
      have := h.2 this; omega

theorem sum_le : ∀ (l : List Nat) (b : Nat), (∀ d ∈ l, d ≤ b) → l.sum ≤ b * l.length
  | [], b, _ => by simp
  | d :: l, b, h => by
    have h1 := sum_le l b (fun x hx => h x (List.mem_cons_of_mem _ hx))
    have h2 := h d List.mem_cons_self
    simp only [List.sum_cons, List.length_cons, Nat.mul_succ]
    omega

theorem mem_lt {l : List Nat} (h : ∀ j, l.getD j 0 < 65536) : ∀ d ∈ l, d < 65536 := by
  intro d hd
  obtain ⟨j, hj, rfl⟩ := List.mem_iff_getElem.1 hd
  have := h j
  rwa [List.getD_eq_getElem?_getD, List.getElem?_eq_getElem hj] at this

/-- What is at most p: its whole part is less, or is p and nothing is behind the point. -/
theorem below_iff (l : List Nat) (hd : ∀ d ∈ l, d < 65536) (i p : Nat) (hi : i ≤ l.length) :
    (val (l.drop i) < p ∨ val (l.drop i) = p ∧ (l.take i).sum = 0) ↔ val l ≤ p * 65536 ^ i := by
  have h1 := val_split l i
  have h2 := val_lt (l.take i) (fun d h => hd d (List.mem_of_mem_take h))
  rw [List.length_take, Nat.min_eq_left hi] at h2
  have h3 := val_zero_iff (l.take i)
  have hP : 0 < 65536 ^ i := Nat.pow_pos (by decide)
  generalize 65536 ^ i = P at *
  generalize val (l.drop i) = n at *
  generalize val (l.take i) = t at *
  generalize val l = v at *
  generalize (l.take i).sum = s at *
  rw [Nat.mul_comm P n] at h1
  constructor
  · rintro (h | ⟨h, hz⟩)
    · have : (n + 1) * P ≤ p * P := Nat.mul_le_mul_right _ h
      rw [Nat.add_mul] at this
      omega
    · have := h3.2 hz
      subst h
      omega
  · intro h
    rcases Nat.lt_trichotomy n p with h4 | h4 | h4
    · exact Or.inl h4
    · refine Or.inr ⟨h4, h3.1 ?_⟩
      subst h4
      omega
    · exfalso
      have : (p + 1) * P ≤ n * P := Nat.mul_le_mul_right _ h4
      rw [Nat.add_mul] at this
      omega

/-- Is (whole + t / 2^32) ^ k at most p? -/
def belowB (whole t p k : Nat) : Bool := decide ((whole * 4294967296 + t) ^ k ≤ p * 4294967296 ^ k)

/-- The root's 32 bits behind the point, bit by bit. -/
def bitsTo (whole p k : Nat) : Nat → Nat
  | 0 => 0
  | n + 1 => let v := bitsTo whole p k n; if belowB whole (v + 2 ^ (31 - n)) p k then v + 2 ^ (31 - n) else v

theorem bitsTo_mod (whole p k : Nat) : ∀ n, n ≤ 32 → bitsTo whole p k n + 2 ^ (32 - n) ≤ 4294967296
  | 0, _ => by simp [bitsTo]
  | n + 1, h => by
    have ih := bitsTo_mod whole p k n (by omega)
    have e : 2 ^ (32 - n) = 2 ^ (31 - n) + 2 ^ (31 - n) := by
      have : 32 - n = (31 - n) + 1 := by omega
      rw [this, Nat.pow_succ]; omega
    have e2 : 32 - (n + 1) = 31 - n := by omega
    simp only [bitsTo]
    rw [e2]
    rw [e] at ih
    generalize 2 ^ (31 - n) = b at *
    split <;> omega

/-- The whole part of a root, by trying. -/
def wholeFrom (p k : Nat) : Nat → Nat → Nat
  | 0, m => m
  | f + 1, m => if (m + 1) ^ k ≤ p then wholeFrom p k f (m + 1) else m
def wholeOf (p k : Nat) : Nat := wholeFrom p k 49 1
def rootOf (p k : Nat) : Nat := bitsTo (wholeOf p k) p k 32

/-- Has p none of these as a divisor, up to its square root? -/
def okB (l : List Nat) (p : Nat) : Bool := (l.takeWhile fun q => decide (q * q ≤ p)).all fun q => p % q != 0
/-- The primes below 2 + n. -/
def primesTo : Nat → List Nat
  | 0 => []
  | n + 1 => let l := primesTo n; if okB l (2 + n) then l ++ [2 + n] else l

/-- The first k: is none of them a divisor? -/
def okTo (l : List Nat) (p k : Nat) : Bool := (l.take k).all fun q => p % q != 0
theorem okTo_succ (l : List Nat) (p k : Nat) (h : k < l.length) : okTo l p (k + 1) = (okTo l p k && (p % l.getD k 0 != 0)) := by
  unfold okTo
  rw [List.take_succ_eq_append_getElem h, List.all_append]
  simp [List.getD_eq_getElem?_getD, h]
theorem takeWhile_take {l : List Nat} {f : Nat → Bool} : ∀ {k : Nat}, (∀ j, j < k → f (l.getD j 0) = true) → k ≤ l.length → (k = l.length ∨ f (l.getD k 0) = false) → l.takeWhile f = l.take k := by
  induction l with
  | nil => intro k _ _ _; simp
  | cons d l ih =>
    intro k h1 h2 h3
    cases k with
    | zero =>
      rcases h3 with h3 | h3
      · simp at h3
      · simp at h3; simp [h3]
    | succ k =>
      have h0 := h1 0 (by omega)
      simp only [List.getD_cons_zero] at h0
      rw [List.takeWhile_cons, if_pos h0, List.take_succ_cons, ih (k := k) (fun j hj => by have := h1 (j + 1) (by omega); simpa using this) (by simpa using h2) (by rcases h3 with h3 | h3; exact Or.inl (by simpa using h3); exact Or.inr (by simpa using h3))]
theorem okB_end (l : List Nat) (p k : Nat) (h1 : ∀ j, j < k → l.getD j 0 * l.getD j 0 ≤ p) (h2 : k ≤ l.length) (h3 : k = l.length ∨ ¬ l.getD k 0 * l.getD k 0 ≤ p) : okB l p = okTo l p k := by
  unfold okB okTo
  rw [takeWhile_take (k := k) (fun j hj => by simpa using h1 j hj) h2 (by rcases h3 with h3 | h3; exact Or.inl h3; exact Or.inr (by simpa using h3))]
theorem primesTo_ge : ∀ (n : Nat), ∀ q ∈ primesTo n, 2 ≤ q ∧ q ≤ n + 1
  | 0, q, h => by simp [primesTo] at h
  | n + 1, q, h => by
    simp only [primesTo] at h
    split at h
    · rcases List.mem_append.1 h with h | h
      · have := primesTo_ge n q h; omega
      · simp at h; omega
    · have := primesTo_ge n q h; omega
theorem primes_len : (primesTo 310).length = 64 := by decide +kernel
theorem primes_short : ((List.range 310).all fun n => decide ((primesTo n).length < 64)) = true := by decide +kernel
theorem primes_lt (n : Nat) (h : n < 310) : (primesTo n).length < 64 := by
  have := List.all_eq_true.1 primes_short n (List.mem_range.2 h)
  simpa using this

def kList : List Nat := (primesTo 310).map fun p => rootOf p 3
def hList : List Nat := ((primesTo 310).take 8).map fun p => rootOf p 2
end Go.Proofs.YtdidjdoifpfmmaaGreatDoor.Digits
