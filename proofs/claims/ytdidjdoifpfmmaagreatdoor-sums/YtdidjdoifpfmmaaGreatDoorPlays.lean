import Derived.Test.YtdidjdoifpfmmaaGreatDoorSmall
namespace Go.Proofs.YtdidjdoifpfmmaaGreatDoor
open Go.RowKit Digits

theorem not_false {f : Bool} (h : (!f) = false) : f = true := by cases f <;> simp_all

set_option maxHeartbeats 1000000 in
theorem plays_gen (ops : List OpR) (a0 : Option Addr) (b off cap : Nat) (ha : 0 < ops.length → a0 = some ⟨b, off, none⟩) (made held : Int) (lists : Bool) (w : World) (hs : ScriptAt w b off ops) (hlen : ops.length ≤ maxLen) (hz : ∀ o ∈ ops, o.s.size ≤ 140737488351232 ∧ o.t.size ≤ 140737488351232)
    (hUp : ∀ w1, Below w.heap.size w w1 → Fits ops → Calls Tryz.prog 23 #[.slice a0 ops.length cap, .int .i64 made, .int .i64 held, .bool lists] w1 fun e w' => e = .returned (.int .i64 (-1)) ∧ Below w1.heap.size w1 w') :
    Calls Tryz.prog 13 #[.slice a0 ops.length cap, .int .i64 made, .int .i64 held, .bool lists] w fun e w' => e = .returned (.bool true) ∧ Below w.heap.size w w' := by
  have hS := small_any ops a0 b off cap ha w hs hlen hz
  have HU : Hid _ := hUp
  clear hUp ha hs hz
  go_enter Tryz.func13, Tryz.ntmps13
  go_wp2_with (first | (go_at_call 22; refine hS.mono ?_; rintro e w1 ⟨f, rfl, hf, hb1⟩; clear hS) | (go_at_call 23; refine (HU.out w1 hb1 (hf (not_false (by assumption)))).mono ?_; rintro e w2 ⟨rfl, hb2⟩))
  all_goals go_ret
  all_goals first | exact ⟨rfl, hb1.trans (hb2.mono hb1.size)⟩ | exact ⟨rfl, hb1⟩
end Go.Proofs.YtdidjdoifpfmmaaGreatDoor
