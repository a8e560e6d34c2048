import Derived.Test.YtdidjdoifpfmmaaDoorText
import Derived.Deep.RegionWith
import Derived.Deep.DrawnRows
namespace Go.Proofs.YtdidjdoifpfmmaaDoor
open Go.RowKit
attribute [local go_sem ↓] Go.wp_at_zero Go.wp_at_succ

theorem nonempty_end (s t : ByteArray) : (s ++ t ++ { data := #[55] }).size ≠ 0 := by
  rw [ByteArray.size_append]
  show _ + 1 ≠ 0
  omega

set_option maxRecDepth 3000 in
set_option maxHeartbeats 4000000 in
theorem error_F {a : Nat → Addr} {w : World} (h : Sents a w) (k pb : Nat) (hk : k < 12) (hp0 : w.cell? ⟨pb, 0, none⟩ = some (.int .i64 7)) (hp1 : w.cell? ⟨pb, 1, none⟩ = some (.iface 66 (.pointer (some (a k))))) :
    Calls Tryd.prog 33 #[.pointer (some ⟨pb, 0, none⟩)] w fun e w' => ∃ s : ByteArray, s.size ≠ 0 ∧ e = .returned (.string s) ∧ Below w.heap.size w w' := by
  have hR : Calls Tryd.prog 35 #[.iface 66 (.pointer (some (a k)))] w.drew fun e w' => ∃ s : ByteArray, s.size ≤ 100 ∧ e = .returned (.string s) ∧ w' = (w.alloc (.cells (twelve a) 26)).drew :=
    reasonText_any (h.below (Below.refl _ _).drew) k hk
  have hpl : pb < w.heap.size := lt_of_cell hp0
  have hq0 : (w.alloc (.cells (twelve a) 26)).cell? ⟨pb, 0, none⟩ = some (.int .i64 7) := by rw [World.cell?_alloc_lt w _ ⟨pb, 0, none⟩ hpl]; exact hp0
  have hq1 : (w.alloc (.cells (twelve a) 26)).cell? ⟨pb, 1, none⟩ = some (.iface 66 (.pointer (some (a k)))) := by rw [World.cell?_alloc_lt w _ ⟨pb, 1, none⟩ hpl]; exact hp1
  go_enter Tryd.func33, Tryd.ntmps33
  go_wp2
  go_region_with (first | (go_at_call 35; refine hR.mono ?_; rintro e w' ⟨s, hs, rfl, rfl⟩) | (go_at_call 36; refine (itoa_seven _).mono ?_; rintro e w' ⟨rfl, rfl⟩))
  all_goals go_wp2
  all_goals first | (exfalso; omega) | (go_ret; exact ⟨_, nonempty_end _ _, rfl, ((Below.refl _ _).alloc (Nat.le_refl _) _).drew⟩)
end Go.Proofs.YtdidjdoifpfmmaaDoor
