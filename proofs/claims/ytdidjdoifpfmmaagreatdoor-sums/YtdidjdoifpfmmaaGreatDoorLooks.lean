import Derived.Test.YtdidjdoifpfmmaaGreatDoorUpTo
import Derived.Deep.RegionWith
import Derived.Deep.DrawnRows
namespace Go.Proofs.YtdidjdoifpfmmaaGreatDoor
open Go.RowKit Digits

/-- No list was handed out: nothing to look at. -/
theorem looks_none (p : Nat) (w : World) (h : w.cell? ⟨p, 3, none⟩ = some (.slice none 0 0)) :
    Calls Tryz.prog 42 #[.pointer (some ⟨p, 0, none⟩)] w fun e w' => e = .returned (.bool true) ∧ w = w' := by
  go_enter Tryz.func42, Tryz.ntmps42
  go_wp2
  refine wp_loop_rounds 1 ?_
  rw [rounds_succ]
  go_wp2
  go_ret
  exact ⟨rfl, rfl⟩

set_option maxHeartbeats 1000000 in
set_option maxRecDepth 20000 in
/-- A step that sums: what the program answers is what the document does. -/
theorem step_sum (o : OpR) (hk : o.kind = 1) (p pm : Nat) (w : World) (hm : w.cell? ⟨p, 0, none⟩ = some (.pointer (some ⟨pm, 0, none⟩))) (x : ByteArray)
    (hD : ∀ w1, Below w.heap.size w w1 → Calls Tryz.prog 65 #[.string o.s] w1 fun e w' => e = .returned (.string x) ∧ Below w1.heap.size w1 w')
    (hR : ∀ w1, Below w.heap.size w w1 → Calls Tryz.prog 66 #[.pointer (some ⟨pm, 0, none⟩), .string o.s] w1 fun e w' => e = .returned (.string x) ∧ Below w1.heap.size w1 w') :
    Calls Tryz.prog 41 #[.pointer (some ⟨p, 0, none⟩), OpR.agg o] w fun e w' => e = .returned (.bool true) ∧ Below w.heap.size w w' := by
  unfold OpR.agg
  obtain ⟨k, a, b, d, s, t⟩ := o
  simp only at hk hD hR ⊢
  subst hk
  have hlt : p < w.heap.size := lt_of_cell hm
  have HD : Hid _ := hD
  have HR : Hid _ := hR
  clear hD hR
  go_enter Tryz.func41, Tryz.ntmps41
  go_wp2_with (go_at_call 65; refine (HD.out _ ((Below.refl _ _).alloc (Nat.le_refl _) _)).mono ?_; rintro e w1 ⟨rfl, hb1⟩; have hm1 : w1.cell? ⟨p, 0, none⟩ = some (.pointer (some ⟨pm, 0, none⟩)) := (by rw [hb1.cell (by simp; omega), World.cell?_alloc_lt _ _ _ hlt]; exact hm); have hs1 : w1.cell? ⟨w.heap.size, 4, none⟩ = some (.string s) := (by rw [hb1.cell (by simp)]; simp); have hb2 : Below w.heap.size w w1 := ((Below.refl _ _).alloc (Nat.le_refl _) _).trans (hb1.mono (by simp)))
  go_region_with (go_at_call 66; refine (HR.out _ hb2.drew).mono ?_; rintro e w2 ⟨rfl, hb3⟩)
  all_goals go_wp2
  all_goals go_ret
  all_goals exact ⟨rfl, hb2.drew.trans (hb3.mono hb2.drew.size)⟩

set_option maxHeartbeats 1000000 in
set_option maxRecDepth 20000 in
/-- A step that asks for a CRC. -/
theorem step_crc (o : OpR) (hk : o.kind = 2) (p : Nat) (w : World) (x : Int) (hs : o.s.size ≤ 1000000)
    (hx : x = (crc (textOf o.s) : Nat))
    (hD : ∀ w1, Below w.heap.size w w1 → Calls Tryz.prog 67 #[.string o.s] w1 fun e w' => e = .returned (.int .i64 x) ∧ Below w1.heap.size w1 w') :
    Calls Tryz.prog 41 #[.pointer (some ⟨p, 0, none⟩), OpR.agg o] w fun e w' => e = .returned (.bool true) ∧ Below w.heap.size w w' := by
  unfold OpR.agg
  obtain ⟨k, a, b, d, s, t⟩ := o
  simp only at hk hD hs hx ⊢
  subst hk
  have hC := crcRef_any s
  rw [← hx] at hC
  have HD : Hid _ := hD
  clear hD hx
  go_enter Tryz.func41, Tryz.ntmps41
  go_wp2_with (first | (go_at_call 67; refine (HD.out _ ((Below.refl _ _).alloc (Nat.le_refl _) _)).mono ?_; rintro e w1 ⟨rfl, hb1⟩; have hs1 : w1.cell? ⟨w.heap.size, 4, none⟩ = some (.string s) := (by rw [hb1.cell (by simp)]; simp); have hb2 : Below w.heap.size w w1 := ((Below.refl _ _).alloc (Nat.le_refl _) _).trans (hb1.mono (by simp)); clear HD) | (go_at_call 68; refine (hC _ hs).mono ?_; rintro e w2 ⟨rfl, rfl⟩))
  go_ret
  exact ⟨rfl, hb2⟩
end Go.Proofs.YtdidjdoifpfmmaaGreatDoor
