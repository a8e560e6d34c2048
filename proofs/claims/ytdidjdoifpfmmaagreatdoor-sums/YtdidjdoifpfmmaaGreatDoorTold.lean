import Derived.Test.YtdidjdoifpfmmaaGreatDoorPad
import Derived.Test.YtdidjdoifpfmmaaGreatDoorNotU
namespace Go.Proofs.YtdidjdoifpfmmaaGreatDoor
open Go.RowKit

/-- The bytes of a sum, as far as they are laid. -/
def outTo (l : List Nat) (n : Nat) : List Nat := (outs l).take n ++ List.replicate (32 - n) 0
theorem outs_len (s : St) : (outs s.list).length = 32 := rfl
theorem outTo_len (s : St) (n : Nat) (h : n ≤ 32) : (outTo s.list n).length = 32 := by simp [outTo, outs_len]; omega
theorem outs_get (s : St) (n : Nat) (h : n < 32) : (outs s.list).getD n 0 = s.list.getD (n / 4) 0 / 2 ^ (24 - 8 * (n % 4)) % 256 := by
  obtain rfl | rfl | rfl | rfl | rfl | rfl | rfl | rfl | rfl | rfl | rfl | rfl | rfl | rfl | rfl | rfl | rfl | rfl | rfl | rfl | rfl | rfl | rfl | rfl | rfl | rfl | rfl | rfl | rfl | rfl | rfl | rfl : n = 0 ∨ n = 1 ∨ n = 2 ∨ n = 3 ∨ n = 4 ∨ n = 5 ∨ n = 6 ∨ n = 7 ∨ n = 8 ∨ n = 9 ∨ n = 10 ∨ n = 11 ∨ n = 12 ∨ n = 13 ∨ n = 14 ∨ n = 15 ∨ n = 16 ∨ n = 17 ∨ n = 18 ∨ n = 19 ∨ n = 20 ∨ n = 21 ∨ n = 22 ∨ n = 23 ∨ n = 24 ∨ n = 25 ∨ n = 26 ∨ n = 27 ∨ n = 28 ∨ n = 29 ∨ n = 30 ∨ n = 31 := by omega
  all_goals simp [outs, fourOf, St.list]
theorem outTo_step (s : St) (n : Nat) (h : n < 32) : (outTo s.list n).set n (s.list.getD (n / 4) 0 / 2 ^ (24 - 8 * (n % 4)) % 256) = outTo s.list (n + 1) := by
  rw [← outs_get s n h]
  have hl : ((outs s.list).take n).length = n := by simp [outs_len]; omega
  have hg : (outs s.list).take (n + 1) = (outs s.list).take n ++ [(outs s.list).getD n 0] := by
    rw [List.take_succ_eq_append_getElem (by rw [outs_len]; exact h)]
    simp [List.getD_eq_getElem?_getD, show n < (outs s.list).length by rw [outs_len]; exact h]
  unfold outTo
  rw [List.set_append_right _ _ (by omega), hl, Nat.sub_self, show 32 - n = (32 - (n + 1)) + 1 by omega, List.replicate_succ, List.set_cons_zero, hg]
  simp
theorem outTo_end (s : St) : outTo s.list 32 = outs s.list := by
  unfold outTo
  rw [List.take_of_length_le (by rw [outs_len]; exact Nat.le_refl _)]
  simp
theorem St.Ok.get2 {s : St} (h : s.Ok) (n : Nat) : s.list.getD n 0 < 4294967296 := by
  apply getD_lt32
  intro x hx
  simp only [St.list, List.mem_cons, List.not_mem_nil, or_false] at hx
  rcases hx with rfl | rfl | rfl | rfl | rfl | rfl | rfl | rfl
  · exact h.a
  · exact h.b
  · exact h.c
  · exact h.d
  · exact h.e
  · exact h.f
  · exact h.g
  · exact h.h
theorem bytes_set (l : List Nat) (j x : Nat) : (bytes l).set j (.int .u8 (x : Nat)) = bytes (l.set j x) := by simp [bytes, List.map_set]
theorem bytes_one (l : List Nat) : (bytes l).toArray.all (·.oneCell') = true := by simp [bytes, Value.oneCell']

set_option maxHeartbeats 1000000 in
set_option maxRecDepth 3000 in
theorem told_any (s : St) (ok : s.Ok) (w : World) :
    Calls Tryz.prog 184 #[.agg (u32s s.list).toArray] w fun e w' => e = .returned (.agg (bytes (outs s.list)).toArray) ∧ Below w.heap.size w w' := by
  go_enter Tryz.func184, Tryz.ntmps184
  go_upto_region 2 with fail
  show Code.wp _ _ _ _ (((w.alloc (.cells (u32s s.list).toArray 293)).alloc (.cells (bytes (List.replicate 32 0)).toArray 121)).alloc (.cells (bytes (List.replicate 32 0)).toArray 121))
  obtain ⟨hb0, h1, h2, h3, hz⟩ := three_rows w 293 121 121 (u32s s.list) (bytes (List.replicate 32 0)) (bytes (List.replicate 32 0))
  generalize (((w.alloc (.cells (u32s s.list).toArray 293)).alloc (.cells (bytes (List.replicate 32 0)).toArray 121)).alloc (.cells (bytes (List.replicate 32 0)).toArray 121)) = W at *
  go_wp2
  go_loopw [5] (fun i wr => ∃ n : Nat, n ≤ 32 ∧ i = .int .i64 n ∧ RowIs wr w.heap.size 293 (u32s s.list) ∧ RowIs wr (w.heap.size + 1) 121 (bytes (List.replicate 32 0)) ∧ RowIs wr (w.heap.size + 1 + 1) 121 (bytes (outTo s.list n)) ∧ Below w.heap.size w wr) (fun i _ => 32 - (intOf i).toNat)
  case atStart => exact ⟨0, by omega, rfl, h1, h2, h3, hb0⟩
  case round =>
    clear h1 h2 h3 hb0 hz
    obtain ⟨n, hn, rfl, h1, h2, h3, hb⟩ := hrel
    by_cases hlt : n < 32
    · have c1 := h1.cell (n / 4)
      rw [u32s_get _ _ (show n / 4 < 8 by omega)] at c1
      have c3 := h3.cell n
      rw [bytes_get _ _ (by rw [outTo_len s n hn]; exact hlt)] at c3
      have f3 := h3.frozen n
      have hst : Hid _ := outTo_step s n hlt
      have hx := ok.get2 (n / 4)
      generalize s.list.getD (n / 4) 0 = x at c1 hst hx
      generalize (outTo s.list n).getD n 0 = old at c3
      rcases (by omega : n % 4 = 0 ∨ n % 4 = 1 ∨ n % 4 = 2 ∨ n % 4 = 3) with e | e | e | e
      all_goals rw [e] at hst
      · have e2 : (n : Int) % 4 = 0 := by omega
        have hst2 : Hid ((outTo s.list n).set n (x / 16777216 % 256) = outTo s.list (n + 1)) := hst
        have key : ∀ v : Int, v = ((x / 16777216 % 256 : Nat) : Int) → RowIs (wr.setCell ⟨w.heap.size + 1 + 1, n, none⟩ (.int .u8 v)) (w.heap.size + 1 + 1) 121 (bytes (outTo s.list (n + 1))) := by
          intro v hv
          rw [hv, ← hst2.out, ← bytes_set]
          exact h3.set _ _
        have hk : Hid _ := key
        clear hst key
        go_wp2
        refine ⟨⟨n + 1, by omega, by go_num, h1.other _ (show w.heap.size ≠ w.heap.size + 1 + 1 by omega), h2.other _ (show w.heap.size + 1 ≠ w.heap.size + 1 + 1 by omega), hk.out _ (by omega), hb.setCell (show w.heap.size ≤ w.heap.size + 1 + 1 by omega) _⟩, by simp [intOf]; omega⟩
      · have e2 : (n : Int) % 4 = 1 := by omega
        have hst2 : Hid ((outTo s.list n).set n (x / 65536 % 256) = outTo s.list (n + 1)) := hst
        have key : ∀ v : Int, v = ((x / 65536 % 256 : Nat) : Int) → RowIs (wr.setCell ⟨w.heap.size + 1 + 1, n, none⟩ (.int .u8 v)) (w.heap.size + 1 + 1) 121 (bytes (outTo s.list (n + 1))) := by
          intro v hv
          rw [hv, ← hst2.out, ← bytes_set]
          exact h3.set _ _
        have hk : Hid _ := key
        clear hst key
        go_wp2
        refine ⟨⟨n + 1, by omega, by go_num, h1.other _ (show w.heap.size ≠ w.heap.size + 1 + 1 by omega), h2.other _ (show w.heap.size + 1 ≠ w.heap.size + 1 + 1 by omega), hk.out _ (by omega), hb.setCell (show w.heap.size ≤ w.heap.size + 1 + 1 by omega) _⟩, by simp [intOf]; omega⟩
      · have e2 : (n : Int) % 4 = 2 := by omega
        have hst2 : Hid ((outTo s.list n).set n (x / 256 % 256) = outTo s.list (n + 1)) := hst
        have key : ∀ v : Int, v = ((x / 256 % 256 : Nat) : Int) → RowIs (wr.setCell ⟨w.heap.size + 1 + 1, n, none⟩ (.int .u8 v)) (w.heap.size + 1 + 1) 121 (bytes (outTo s.list (n + 1))) := by
          intro v hv
          rw [hv, ← hst2.out, ← bytes_set]
          exact h3.set _ _
        have hk : Hid _ := key
        clear hst key
        go_wp2
        refine ⟨⟨n + 1, by omega, by go_num, h1.other _ (show w.heap.size ≠ w.heap.size + 1 + 1 by omega), h2.other _ (show w.heap.size + 1 ≠ w.heap.size + 1 + 1 by omega), hk.out _ (by omega), hb.setCell (show w.heap.size ≤ w.heap.size + 1 + 1 by omega) _⟩, by simp [intOf]; omega⟩
      · have e2 : (n : Int) % 4 = 3 := by omega
        have hst2 : Hid ((outTo s.list n).set n (x % 256) = outTo s.list (n + 1)) := by
          have h := hst.out
          rw [show x / 2 ^ (24 - 8 * 3) % 256 = x % 256 by rw [show 2 ^ (24 - 8 * 3) = 1 from rfl, Nat.div_one]] at h
          exact h
        have key : ∀ v : Int, v = ((x % 256 : Nat) : Int) → RowIs (wr.setCell ⟨w.heap.size + 1 + 1, n, none⟩ (.int .u8 v)) (w.heap.size + 1 + 1) 121 (bytes (outTo s.list (n + 1))) := by
          intro v hv
          rw [hv, ← hst2.out, ← bytes_set]
          exact h3.set _ _
        have hk : Hid _ := key
        clear hst key
        go_wp2
        refine ⟨⟨n + 1, by omega, by go_num, h1.other _ (show w.heap.size ≠ w.heap.size + 1 + 1 by omega), h2.other _ (show w.heap.size + 1 ≠ w.heap.size + 1 + 1 by omega), hk.out _ (by omega), hb.setCell (show w.heap.size ≤ w.heap.size + 1 + 1 by omega) _⟩, by simp [intOf]; omega⟩
    · have en : n = 32 := by omega
      have en2 : (n : Int) = 32 := by omega
      rw [en2]
      subst en
      rw [outTo_end] at h3
      have hlM := outs_len s
      obtain ⟨M, HM⟩ : ∃ M, Hid (outs s.list = M) := ⟨_, rfl⟩
      rw [HM.out] at h3 hlM
      have hsz : (Tryz.prog.info? 121).map (·.size) = some (bytes M).toArray.size := by rw [List.size_toArray, bytes_length, hlM]; kernel_rfl
      have hz : (bytes (List.replicate 32 0)).toArray.size = (bytes M).toArray.size := by rw [List.size_toArray, List.size_toArray, bytes_length, bytes_length, hlM]; simp
      have hone := bytes_one M
      have hB2 : Below w.heap.size w (wr.setRow (w.heap.size + 1) (bytes M).toArray) := hb.setRow _ (by omega)
      have hg2 := setRow_heap wr (w.heap.size + 1) _ (bytes M).toArray _ _ h2.heap
      go_wp2_with (first | (refine wpList_load_row rfl 121 _ rfl (w.heap.size + 1 + 1) rfl _ _ _ _ h3.heap Tryz.underlying121 rfl hsz ?_) | (refine wpList_store_row rfl 121 _ _ rfl (w.heap.size + 1) _ rfl rfl _ _ h2.heap hsz hz hone ?_))
      refine bodyPost_ret (v := .agg (bytes M).toArray) ?_ rfl ⟨by rw [HM.out], hB2⟩
      exact results_cell_row (P := Tryz.prog) Tryz.results184 _ _ (w.heap.size + 1) _ _ _ _ rfl hg2 Tryz.underlying121 rfl hsz
end Go.Proofs.YtdidjdoifpfmmaaGreatDoor
