import Derived.Test.YtdidjdoifpfmmaaGreatDoorGT19
/- A step of a script: Format, Mount, and the calls of a tree. -/
namespace Go.Proofs.YtdidjdoifpfmmaaGreatDoor
open Go.RowKit
set_option maxRecDepth 100000 in
set_option maxHeartbeats 1600000 in
theorem step_disk12 {w : World} (o : OpR) (hk : o.kind = 12) (hd : -9223372036854775808 ≤ o.d ∧ o.d ≤ 9223372036854775807) (p ga n ca : Nat) (hn : 0 < n) (hn2 : n ≤ 1000000)
    (c2 : w.cell? ⟨p, 2, none⟩ = some (.slice (some ⟨ga, 0, none⟩) n ca)) (Post : World → Prop)
    (hD : ∀ w1, Below w.heap.size w w1 → Calls Tryz.prog 72 #[.pointer (some ⟨p, 0, none⟩), .pointer (some ⟨ga, pickOf o.d n * 4, none⟩), OpR.agg o] w1 fun e w' => e = .returned (.bool true) ∧ Post w') :
    Calls Tryz.prog 41 #[.pointer (some ⟨p, 0, none⟩), OpR.agg o] w fun e w' => e = .returned (.bool true) ∧ Post w' := by
  unfold OpR.agg at hD ⊢
  obtain ⟨k, a, b, d, s, t⟩ := o
  simp only at hk hd hD ⊢
  have lp : p < w.heap.size := World.block_lt_of_cell? w _ c2
  have hp := fun w1 => pick_any d n hn hn2 hd w1
  have hpl := pickOf_lt d n hn
  generalize pickOf d n = j at *
  have j0 : (0 : Int) ≤ (j : Int) := by omega
  have j1 : (j : Int) < (n : Int) := by omega
  have HD : Hid _ := hD
  have HP : Hid _ := hp
  clear hD hp
  subst hk
  go_enter Tryz.func41, Tryz.ntmps41
  go_wp2
  go_region_held3 (fun w' => w'.cell? ⟨p, 2, none⟩ = some (.slice (some ⟨ga, 0, none⟩) n ca) ∧ w'.cell? ⟨w.heap.size, 3, none⟩ = some (.int .i64 d)) ((go_split_ands; refine ⟨by go_keep, by go_keep⟩))
    ((go_at_call 71; refine (HP.out _).mono ?_; rintro e w2 ⟨rfl, rfl⟩))
  go_wp2_with (go_at_call 72; refine (HD.out _ ((below_box w _).drew)).mono ?_; rintro e w3 ⟨rfl, h3⟩)
  go_ret
  exact ⟨rfl, h3⟩
set_option maxRecDepth 100000 in
set_option maxHeartbeats 1600000 in
theorem step_none2 {w : World} (o : OpR) (hk : o.kind = 12 ∨ o.kind = 13 ∨ o.kind = 14 ∨ o.kind = 15 ∨ o.kind = 16 ∨ o.kind = 19 ∨ o.kind = 20) (p : Nat) (ag : Option Addr) (ca : Nat)
    (c2 : w.cell? ⟨p, 2, none⟩ = some (.slice ag 0 ca)) :
    Calls Tryz.prog 41 #[.pointer (some ⟨p, 0, none⟩), OpR.agg o] w fun e w' => e = .returned (.bool true) ∧ Below w.heap.size w w' := by
  unfold OpR.agg
  obtain ⟨k, a, b, d, s, t⟩ := o
  simp only at hk ⊢
  have lp : p < w.heap.size := World.block_lt_of_cell? w _ c2
  rcases hk with rfl | rfl | rfl | rfl | rfl | rfl | rfl
  all_goals go_enter Tryz.func41, Tryz.ntmps41
  all_goals go_wp2
  all_goals go_ret
  all_goals exact ⟨rfl, below_box w _⟩
set_option maxRecDepth 100000 in
set_option maxHeartbeats 1600000 in
theorem step_mount {w : World} (o : OpR) (hk : o.kind = 13) (hd : -9223372036854775808 ≤ o.d ∧ o.d ≤ 9223372036854775807) (p ga n ca : Nat) (hn : 0 < n) (hn2 : n ≤ 1000000)
    (c2 : w.cell? ⟨p, 2, none⟩ = some (.slice (some ⟨ga, 0, none⟩) n ca)) (Post : World → Prop)
    (hD : ∀ w1, Below w.heap.size w w1 → Calls Tryz.prog 73 #[.pointer (some ⟨p, 0, none⟩), .pointer (some ⟨ga, pickOf o.d n * 4, none⟩)] w1 fun e w' => e = .returned (.bool true) ∧ Post w') :
    Calls Tryz.prog 41 #[.pointer (some ⟨p, 0, none⟩), OpR.agg o] w fun e w' => e = .returned (.bool true) ∧ Post w' := by
  unfold OpR.agg
  obtain ⟨k, a, b, d, s, t⟩ := o
  simp only at hk hd hD ⊢
  have lp : p < w.heap.size := World.block_lt_of_cell? w _ c2
  have hp := fun w1 => pick_any d n hn hn2 hd w1
  have hpl := pickOf_lt d n hn
  generalize pickOf d n = j at *
  have j0 : (0 : Int) ≤ (j : Int) := by omega
  have j1 : (j : Int) < (n : Int) := by omega
  have HD : Hid _ := hD
  have HP : Hid _ := hp
  clear hD hp
  subst hk
  go_enter Tryz.func41, Tryz.ntmps41
  go_wp2
  go_region_held3 (fun w' => w'.cell? ⟨p, 2, none⟩ = some (.slice (some ⟨ga, 0, none⟩) n ca) ∧ w'.cell? ⟨w.heap.size, 3, none⟩ = some (.int .i64 d)) ((go_split_ands; refine ⟨by go_keep, by go_keep⟩))
    ((go_at_call 71; refine (HP.out _).mono ?_; rintro e w2 ⟨rfl, rfl⟩))
  go_wp2_with (go_at_call 73; refine (HD.out _ ((below_box w _).drew)).mono ?_; rintro e w3 ⟨rfl, h3⟩)
  go_ret
  exact ⟨rfl, h3⟩
set_option maxRecDepth 100000 in
set_option maxHeartbeats 1600000 in
theorem step_nil {w : World} (o : OpR) (hk : o.kind = 14 ∨ o.kind = 15 ∨ o.kind = 16 ∨ o.kind = 19 ∨ o.kind = 20) (hd : -9223372036854775808 ≤ o.d ∧ o.d ≤ 9223372036854775807) (p ga n ca : Nat) (hn : 0 < n) (hn2 : n ≤ 1000000)
    (c2 : w.cell? ⟨p, 2, none⟩ = some (.slice (some ⟨ga, 0, none⟩) n ca)) (ca2 : w.cell? ⟨ga, pickOf o.d n * 4 + 2, none⟩ = some (.pointer none)) :
    Calls Tryz.prog 41 #[.pointer (some ⟨p, 0, none⟩), OpR.agg o] w fun e w' => e = .returned (.bool true) ∧ Below w.heap.size w w' := by
  unfold OpR.agg
  obtain ⟨k, a, b, d, s, t⟩ := o
  simp only at hk hd ca2 ⊢
  have lp : p < w.heap.size := World.block_lt_of_cell? w _ c2
  have lg : ga < w.heap.size := World.block_lt_of_cell? w _ ca2
  have hp := fun w1 => pick_any d n hn hn2 hd w1
  have hpl := pickOf_lt d n hn
  generalize pickOf d n = j at *
  have j0 : (0 : Int) ≤ (j : Int) := by omega
  have j1 : (j : Int) < (n : Int) := by omega
  have HP : Hid _ := hp
  clear hp
  rcases hk with rfl | rfl | rfl | rfl | rfl
  all_goals go_enter Tryz.func41, Tryz.ntmps41
  all_goals go_wp2
  all_goals go_region_held3 (fun w' => w'.cell? ⟨p, 2, none⟩ = some (.slice (some ⟨ga, 0, none⟩) n ca) ∧ w'.cell? ⟨w.heap.size, 3, none⟩ = some (.int .i64 d)) ((go_split_ands; refine ⟨by go_keep, by go_keep⟩))
    ((go_at_call 71; refine (HP.out _).mono ?_; rintro e w2 ⟨rfl, rfl⟩))
  all_goals go_wp2
  all_goals go_ret
  all_goals exact ⟨rfl, (below_box w _).drew⟩
end Go.Proofs.YtdidjdoifpfmmaaGreatDoor
