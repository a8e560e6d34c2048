import Derived.Test.YtdidjdoifpfmmaaGreatDoorMem
import Derived.Test.YtdidjdoifpfmmaaGreatDoorDigits
import Derived.BigRegion
import Derived.Laws.MakeOwn
namespace Go.Proofs.YtdidjdoifpfmmaaGreatDoor
open Go.RowKit Digits

theorem intInfo : (Tryz.prog.info? 3).map (fun i => (i.zero, i.size, i.bytes)) = some (some (.int .i64 0), 1, 8) := by kernel_rfl

theorem madeInts (n : Nat) : madeCells (Value.int .i64 0).cells n = (ints (List.replicate n 0)).toArray := by
  apply Array.ext
  · simp [madeCells, ints]
  · intro i h1 h2
    simp [madeCells, ints, Value.cells, Nat.mod_one]

theorem makeInts (w : World) (n : Nat) (hn : n ≤ 4194304) : (Instr.makeSlice 34 (.int .i64 (n : Int)) (.int .i64 (n : Int))).run Tryz.prog w
    = .ok (.slice (some ⟨w.heap.size, 0, none⟩) n n) (w.alloc (.cells (ints (List.replicate n 0)).toArray 3)) := by
  obtain ⟨i0, hi, hz0, hz1, hz2⟩ := info_parts intInfo
  have h := run_make (P := Tryz.prog) w 34 3 i0 (.int .i64 0) Tryz.underlying34 hi hz0 .i64 .i64 n n (by omega) (by omega) (by rw [hz2]; omega) (by omega)
  rw [hz1, Nat.mul_one, Int.toNat_natCast, madeInts] at h
  exact h

theorem val_zeros (n : Nat) : val (List.replicate n 0) = 0 := by
  induction n with
  | zero => rfl
  | succ n ih => simp [List.replicate_succ, val, ih]

theorem zeros_dig (n j : Nat) : (List.replicate n 0).getD j 0 < 65536 := by
  simp [List.getD_eq_getElem?_getD, List.getElem?_replicate]
  split <;> simp
theorem getD_lt (A : List Nat) (k : Nat) (dA : ∀ d ∈ A, d < 65536) (h : k < A.length) : A.getD k 0 < 65536 := by
  rw [List.getD_eq_getElem?_getD, List.getElem?_eq_getElem h]; exact dA _ (List.getElem_mem h)

set_option maxHeartbeats 4000000 in
set_option maxRecDepth 3000 in
theorem times_any (A B : List Nat) (ba bb : Nat) (w : World) (hA : RowIs w ba 3 (ints A)) (hB : RowIs w bb 3 (ints B)) (dA : ∀ d ∈ A, d < 65536) (dB : ∀ d ∈ B, d < 65536) (hla : A.length ≤ 1000) (hlb : B.length ≤ 1000) :
    Calls Tryz.prog 247 #[.slice (some ⟨ba, 0, none⟩) A.length A.length, .slice (some ⟨bb, 0, none⟩) B.length B.length] w fun e w' => ∃ C, e = .returned (.slice (some ⟨w.heap.size, 0, none⟩) (A.length + B.length) (A.length + B.length)) ∧
      RowIs w' w.heap.size 3 (ints C) ∧ C.length = A.length + B.length ∧ (∀ j, C.getD j 0 < 65536) ∧ val C = val A * val B ∧ Below w.heap.size w w' := by
  have hmk := makeInts w (A.length + B.length) (by omega)
  have eca : ((A.length + B.length : Nat) : Int) = (A.length : Int) + (B.length : Int) := by omega
  rw [eca] at hmk
  go_enter Tryz.func247, Tryz.ntmps247
  go_wp2
  clear hmk eca
  go_loopw [6] (fun i wr => ∃ (k : Nat) (C : List Nat), k ≤ A.length ∧ i = .int .i64 k ∧ RowIs wr w.heap.size 3 (ints C) ∧ C.length = A.length + B.length ∧ (∀ x, C.getD x 0 < 65536) ∧ val C = prodTo A B k 0 ∧ Below w.heap.size w wr) (fun i _ => A.length - (intOf i).toNat)
  case atStart => exact ⟨0, _, Nat.zero_le _, rfl, RowIs.new _ _ _, by simp, zeros_dig _, by rw [val_zeros]; simp [prodTo, val], (Below.refl _ _).alloc (Nat.le_refl _) _⟩
  case round =>
    obtain ⟨k, C, hk, rfl, hR, hlC, hdC, hvC, hb⟩ := hrel
    by_cases hlt : k < A.length
    · go_wp2
      go_loopw [7] (fun i wr => ∃ (m : Nat) (C : List Nat), m ≤ B.length ∧ i = .int .i64 m ∧ RowIs wr w.heap.size 3 (ints C) ∧ C.length = A.length + B.length ∧ (∀ x, C.getD x 0 < 65536) ∧ val C = prodTo A B k m ∧ Below w.heap.size w wr) (fun i _ => B.length - (intOf i).toNat)
      case atStart => exact ⟨0, C, Nat.zero_le _, rfl, hR, hlC, hdC, hvC, hb⟩
      case round =>
        clear hR hlC hdC hvC hb
        obtain ⟨m, C, hm, rfl, hR, hlC, hdC, hvC, hb⟩ := hrel
        by_cases hmt : m < B.length
        · have hca := (hA.below hb hA.lt).cell k
          rw [ints_get A k hlt] at hca
          have hcb := (hB.below hb hB.lt).cell m
          rw [ints_get B m hmt] at hcb
          have hcc := hR.cell (k + m)
          rw [ints_get C (k + m) (by omega)] at hcc
          have hcf := hR.frozen (k + m)
          have hbeg := Carry.begin dA dB hlt hmt hlC hdC hvC
          have d1 := hdC (k + m)
          have d2 := getD_lt A k dA hlt
          have d3 := getD_lt B m dB hmt
          generalize ea : A.getD k 0 = x at *
          generalize eb : B.getD m 0 = y at *
          generalize ec : C.getD (k + m) 0 = z at *
          have hxy : x * y ≤ 65535 * 65535 := Nat.mul_le_mul (by omega) (by omega)
          have hxy' : (x : Int) * (y : Int) ≤ 4294836225 := by rw [← Int.natCast_mul]; omega
          have hxy0 : 0 ≤ (x : Int) * (y : Int) := by rw [← Int.natCast_mul]; omega
          go_wp2
          go_region
          have hR1 : RowIs (wr.setCell ⟨w.heap.size, k + m, none⟩ (.int .i64 ((z : Int) + (x : Int) * (y : Int)))).drew w.heap.size 3 (ints (C.set (k + m) (z + x * y))) := by
            rw [← ints_set]; exact (hR.set _ _).drew
          have hb1 : Below w.heap.size w (wr.setCell ⟨w.heap.size, k + m, none⟩ (.int .i64 ((z : Int) + (x : Int) * (y : Int)))).drew := (hb.setCell (Nat.le_refl _) _).drew
          clear hca hcb hcc hcf d1 d2 d3 ea eb ec hxy hxy' hxy0 hR hlC hdC hvC hb
          go_wp2
          go_loopw [8] (fun i wr => ∃ (q : Nat) (C : List Nat), i = .int .i64 q ∧ RowIs wr w.heap.size 3 (ints C) ∧ Carry C (A.length + B.length) q (prodTo A B k (m + 1)) ∧ Below w.heap.size w wr) (fun i _ => A.length + B.length - (intOf i).toNat)
          case atStart => exact ⟨k + m, _, by go_num, hR1, hbeg, hb1⟩
          case round =>
            clear hR1 hb1 hbeg
            obtain ⟨q, C, rfl, hR, hC, hb⟩ := hrel
            have hq := hC.lt
            have hl := hC.len
            have hc1 := hR.cell q
            rw [ints_get C q (by omega)] at hc1
            have hf1 := hR.frozen q
            by_cases hge : 65536 ≤ C.getD q 0
            · have hroom := hC.room hge
              have hstep := hC.step hge
              have hc2 := hR.cell (q + 1)
              rw [ints_get C (q + 1) (by omega)] at hc2
              have hf2 := hR.frozen (q + 1)
              have t1 := hC.top
              have t2 := hC.dig (q + 1) (by omega)
              generalize e1 : C.getD q 0 = x at *
              generalize e2 : C.getD (q + 1) 0 = y at *
              have hx0 : (65536 : Int) ≤ (x : Int) := by omega
              go_wp2
              go_region
              have hR1 : RowIs (wr.setCell ⟨w.heap.size, q + 1, none⟩ (.int .i64 ((y : Int) + (x : Int) / 65536))).drew w.heap.size 3 (ints (C.set (q + 1) (y + x / 65536))) := by
                rw [← ints_set]; exact (hR.set _ _).drew
              have hb1 : Below w.heap.size w (wr.setCell ⟨w.heap.size, q + 1, none⟩ (.int .i64 ((y : Int) + (x : Int) / 65536))).drew := (hb.setCell (Nat.le_refl _) _).drew
              have hc3 := hR1.cell q
              rw [ints_get _ q (by simp; omega), Digits.getD_set_ne _ _ _ _ (by omega), e1] at hc3
              have hf3 := hR1.frozen q
              clear hc1 hc2 hf1 hf2 hR hb
              generalize (wr.setCell ⟨w.heap.size, q + 1, none⟩ (.int .i64 ((y : Int) + (x : Int) / 65536))).drew = w1 at *
              go_wp2
              go_roundw
              case rel =>
                refine ⟨q + 1, _, by go_num, ?_, hstep, hb1.setCell (Nat.le_refl _) _⟩
                rw [← ints_set]; exact hR1.set _ _
              case measure => simp [intOf]; omega
            · have hdone : Hid _ := hC.done (by omega)
              have hval : Hid _ := hC.says
              obtain ⟨x, e1⟩ : ∃ x, C.getD q 0 = x := ⟨_, rfl⟩
              rw [e1] at hc1 hge
              clear e1 hC
              have hlt1 : ¬ (65536 : Int) ≤ (x : Int) := by omega
              clear hge
              go_wp2
              go_roundw
              case rel => exact ⟨m + 1, C, by omega, by go_num, hR, hl, hdone.out, hval.out, hb⟩
              case measure => simp [intOf]; omega
        · have em : m = B.length := by omega
          subst em
          rw [prodTo_i A B k hlt] at hvC
          go_wp2
          go_roundw
          case rel => exact ⟨k + 1, C, by omega, by go_num, hR, hlC, hdC, hvC, hb⟩
          case measure => simp [intOf]; omega
    · have ek : k = A.length := by omega
      subst ek
      rw [prodTo_end] at hvC
      go_wp2
      go_ret
      exact ⟨C, rfl, hR, hlC, hdC, hvC, hb⟩
end Go.Proofs.YtdidjdoifpfmmaaGreatDoor
