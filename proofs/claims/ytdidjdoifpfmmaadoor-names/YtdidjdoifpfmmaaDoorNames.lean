import Derived.Test.YtdidjdoifpfmmaaDoorReason
namespace Go.Proofs.YtdidjdoifpfmmaaDoor
open Go.RowKit

set_option maxRecDepth 3000 in
set_option maxHeartbeats 4000000 in
theorem names_true {a : Nat → Addr} {w : World} (h : Sents a w) :
    Calls Tryd.prog 3 #[] w fun e w' => e = .returned (.bool true) ∧ Below w.heap.size w w' := by
  go_enter Tryd.func3, Tryd.ntmps3
  go_wp2
  go_loopw [1] (fun i wr => ∃ k : Nat, k ≤ 12 ∧ i = .int .i64 k ∧ Below w.heap.size w wr) (fun i _ => 12 - (intOf i).toNat)
  case atStart => exact ⟨0, by omega, rfl, Below.refl _ _⟩
  case round =>
    obtain ⟨k, hk, rfl, hb⟩ := hrel
    by_cases hlt : k < 12
    · have hP := reason_plain (h.below hb) k hlt
      go_wp2_with (first | (go_at_call_of 4 (Value.bool false); refine hP.mono ?_; rintro e w1 ⟨rfl, hb1⟩) | (go_at_call_of 4 (Value.bool true); refine (reason_wrapped ((h.below hb).below hb1) k hlt).mono ?_; rintro e w2 ⟨rfl, hb2⟩))
      go_roundw
      case rel => exact ⟨k + 1, by omega, by go_num, (hb.trans (hb1.mono hb.size)).trans (hb2.mono (Nat.le_trans hb.size hb1.size))⟩
      case measure => simp [intOf]; omega
    · go_wp2
      go_ret
      exact ⟨rfl, hb⟩
end Go.Proofs.YtdidjdoifpfmmaaDoor
