import Derived.Test.YtdidjdoifpfmmaaGreatDoorGT18
/- The arms of the statements' calls of a tree, whatever archives are (written by a program: tools/held.py). -/
namespace Go.Proofs.YtdidjdoifpfmmaaGreatDoor
open Go.RowKit
set_option maxRecDepth 100000 in
set_option maxHeartbeats 1600000 in
theorem tree_put {w : World} (o : OpR) (hk : o.kind = 14) (p ga i aq bq : Nat) (c2 : w.cell? ⟨ga, i + 2, none⟩ = some (.pointer (some ⟨aq, 0, none⟩))) (c3 : w.cell? ⟨ga, i + 3, none⟩ = some (.pointer (some ⟨bq, 0, none⟩)))
    (n : Int) (M : World → Prop) (M2 : Value → World → Prop) (dB rB : List Nat) (hlt : ∀ x ∈ dB, x < w.heap.size) (hga : ga ∉ dB) (hlr : ∀ x ∈ rB, x < w.heap.size) (hgr : ga ∉ rB) (tv : Value) (c7 : w.cell? ⟨bq, 7, none⟩ = some tv) (f7 : w.frozen? ⟨bq, 7, none⟩ = false) (hbd : bq ∉ dB) (hbr : bq ∉ rB) (hgb : ga ≠ bq)
    (hD : ∀ w1, Below w.heap.size w w1 → Calls Tryz.prog 49 #[.pointer (some ⟨aq, 0, none⟩), .string o.s, .string o.t] w1 fun e w' => e = .returned (.int .i64 n) ∧ M w' ∧ Fr w1 w' dB)
    (hMd : ∀ w1, M w1 → M w1.drew)
    (hR : ∀ w1, M w1 → Calls Tryz.prog 123 #[tv, .string o.s, .string o.t] w1 fun e w' => ∃ ta tn tc, e = .returned (.tuple #[.slice ta tn tc, .int .i64 n]) ∧ M2 (.slice ta tn tc) w' ∧ Fr w1 w' rB) :
    Calls Tryz.prog 74 #[.pointer (some ⟨p, 0, none⟩), .pointer (some ⟨ga, i, none⟩), OpR.agg o] w fun e w' => e = .returned (.bool true) ∧ ∃ w2 ta tn tc, M2 (.slice ta tn tc) w2 ∧ Fr w w2 (dB ++ rB) ∧ w' = w2.setCell ⟨bq, 7, none⟩ (.slice ta tn tc) := by
  unfold OpR.agg
  obtain ⟨k, a, b, d, s, t⟩ := o
  simp only at hk hD hR ⊢
  subst hk
  have lga : ga < w.heap.size := World.block_lt_of_cell? w _ c2
  have lbq : bq < w.heap.size := World.block_lt_of_cell? w _ c7
  have hbx : w.heap.size ∉ dB := fun h => Nat.lt_irrefl _ (hlt _ h)
  have hbxr : w.heap.size ∉ rB := fun h => Nat.lt_irrefl _ (hlr _ h)
  have HD : Hid _ := hD
  have HM : Hid _ := hMd
  have HR : Hid _ := hR
  clear hD hMd hR
  go_enter Tryz.func74, Tryz.ntmps74
  go_wp2
  go_region_held3 (fun w' => w'.cell? ⟨ga, i + 2, none⟩ = some (.pointer (some ⟨aq, 0, none⟩)) ∧ w'.cell? ⟨w.heap.size, 4, none⟩ = some (.string s) ∧ w'.cell? ⟨w.heap.size, 5, none⟩ = some (.string t)) ((first | exact ⟨k0, k4, k5⟩ | (go_split_ands; refine ⟨by go_keep, by go_keep, by go_keep⟩)))
    ((go_at_call 49; refine (HD.out _ ((below_box w _).drew)).mono ?_; rintro e w2 ⟨rfl, hM, hf⟩; have k3 : w2.cell? ⟨ga, i + 3, none⟩ = some (.pointer (some ⟨bq, 0, none⟩)) := fr_cell hf (by go_simp) hga; have k0 : w2.cell? ⟨ga, i + 2, none⟩ = some (.pointer (some ⟨aq, 0, none⟩)) := fr_cell hf (by go_simp) hga; have k4 : w2.cell? ⟨w.heap.size, 4, none⟩ = some (.string s) := fr_cell hf (by go_simp) hbx; have k5 : w2.cell? ⟨w.heap.size, 5, none⟩ = some (.string t) := fr_cell hf (by go_simp) hbx; have k7 : w2.cell? ⟨bq, 7, none⟩ = some tv := fr_cell hf (by go_simp) hbd; have l7 : w2.frozen? ⟨bq, 7, none⟩ = false := (by rw [World.frozen?_of_block (hf.block bq (by simp; omega) hbd)]; go_simp)))
  go_wp2
  have hM2 : Hid _ := HM.out _ hM
  have hF1 : Hid _ := hf.size
  refine wp_at ?_
  refine wp_region_held_drew (S := fun w' => w'.cell? ⟨ga, i + 3, none⟩ = some (.pointer (some ⟨bq, 0, none⟩)) ∧ w'.cell? ⟨w.heap.size, 4, none⟩ = some (.string s) ∧ w'.cell? ⟨w.heap.size, 5, none⟩ = some (.string t)) (by kernel_rfl) ⟨by simpa using k3, by simpa using k4, by simpa using k5⟩ (fun hHeld => ?_)
  refine wpAnyH_take (i := 0) (oi := ⟨some 23, .move (.tmp 1), _, _, _, none⟩) (v := .pointer (some ⟨ga, i, none⟩)) rfl (by kernel_rfl) (by kernel_rfl) (by kernel_rfl) (fun _ _ _ h => h) (Or.inl ⟨by rfl, by intro w hSw; go_simp⟩) hHeld ?_
  simp only [Act.put, List.setIfInBounds_toArray, List.set_cons_zero, List.set_cons_succ]
  refine wpAnyH_take (i := 1) (oi := ⟨some 24, .nilCheck (.tmp 23), _, _, _, none⟩) (v := .pointer (some ⟨ga, i, none⟩)) rfl (by kernel_rfl) (by kernel_rfl) (by kernel_rfl) (fun _ _ _ h => h) (Or.inl ⟨by rfl, by intro w hSw; go_simp⟩) hHeld ?_
  simp only [Act.put, List.setIfInBounds_toArray, List.set_cons_zero, List.set_cons_succ]
  refine wpAnyH_take (i := 2) (oi := ⟨some 25, .fieldAddr 142 (.tmp 24) 3, _, _, _, none⟩) (v := .pointer (some ⟨ga, i + 3, none⟩)) rfl (by kernel_rfl) (by kernel_rfl) (by kernel_rfl) (fun _ _ _ h => h) (Or.inl ⟨by rfl, by intro w hSw; go_simp⟩) hHeld ?_
  simp only [Act.put, List.setIfInBounds_toArray, List.set_cons_zero, List.set_cons_succ]
  refine wpAnyH_take (i := 3) (oi := ⟨some 26, .load 140 (.tmp 25), _, _, _, none⟩) (v := .pointer (some ⟨bq, 0, none⟩)) rfl (by kernel_rfl) (by kernel_rfl) (by kernel_rfl) (fun _ _ _ h => h) (Or.inl ⟨by rfl, by intro w hSw; go_simp⟩) hHeld ?_
  simp only [Act.put, List.setIfInBounds_toArray, List.set_cons_zero, List.set_cons_succ]
  refine wpAnyH_take (i := 4) (oi := ⟨some 27, .move (.tmp 1), _, _, _, none⟩) (v := .pointer (some ⟨ga, i, none⟩)) rfl (by kernel_rfl) (by kernel_rfl) (by kernel_rfl) (fun _ _ _ h => h) (Or.inl ⟨by rfl, by intro w hSw; go_simp⟩) hHeld ?_
  simp only [Act.put, List.setIfInBounds_toArray, List.set_cons_zero, List.set_cons_succ]
  refine wpAnyH_take (i := 5) (oi := ⟨some 28, .nilCheck (.tmp 27), _, _, _, none⟩) (v := .pointer (some ⟨ga, i, none⟩)) rfl (by kernel_rfl) (by kernel_rfl) (by kernel_rfl) (fun _ _ _ h => h) (Or.inl ⟨by rfl, by intro w hSw; go_simp⟩) hHeld ?_
  simp only [Act.put, List.setIfInBounds_toArray, List.set_cons_zero, List.set_cons_succ]
  refine wpAnyH_take (i := 6) (oi := ⟨some 29, .fieldAddr 142 (.tmp 28) 3, _, _, _, none⟩) (v := .pointer (some ⟨ga, i + 3, none⟩)) rfl (by kernel_rfl) (by kernel_rfl) (by kernel_rfl) (fun _ _ _ h => h) (Or.inl ⟨by rfl, by intro w hSw; go_simp⟩) hHeld ?_
  simp only [Act.put, List.setIfInBounds_toArray, List.set_cons_zero, List.set_cons_succ]
  refine wpAnyH_take (i := 7) (oi := ⟨some 30, .load 140 (.tmp 29), _, _, _, none⟩) (v := .pointer (some ⟨bq, 0, none⟩)) rfl (by kernel_rfl) (by kernel_rfl) (by kernel_rfl) (fun _ _ _ h => h) (Or.inl ⟨by rfl, by intro w hSw; go_simp⟩) hHeld ?_
  simp only [Act.put, List.setIfInBounds_toArray, List.set_cons_zero, List.set_cons_succ]
  refine wpAnyH_take (i := 8) (oi := ⟨some 31, .nilCheck (.tmp 30), _, _, _, none⟩) (v := .pointer (some ⟨bq, 0, none⟩)) rfl (by kernel_rfl) (by kernel_rfl) (by kernel_rfl) (fun _ _ _ h => h) (Or.inl ⟨by rfl, by intro w hSw; go_simp⟩) hHeld ?_
  simp only [Act.put, List.setIfInBounds_toArray, List.set_cons_zero, List.set_cons_succ]
  refine wpAnyH_take (i := 9) (oi := ⟨some 32, .fieldAddr 213 (.tmp 31) 7, _, _, _, none⟩) (v := .pointer (some ⟨bq, 7, none⟩)) rfl (by kernel_rfl) (by kernel_rfl) (by kernel_rfl) (fun _ _ _ h => h) (Or.inl ⟨by rfl, by intro w hSw; go_simp⟩) hHeld ?_
  simp only [Act.put, List.setIfInBounds_toArray, List.set_cons_zero, List.set_cons_succ]
  refine wpAnyH_take (i := 11) (oi := ⟨some 34, .fieldAddr 67 (.tmp 5) 4, _, _, _, none⟩) (v := .pointer (some ⟨w.heap.size, 4, none⟩)) rfl (by kernel_rfl) (by kernel_rfl) (by kernel_rfl) (fun _ _ _ h => h) (Or.inl ⟨by rfl, by intro w hSw; go_simp⟩) hHeld ?_
  simp only [Act.put, List.setIfInBounds_toArray, List.set_cons_zero, List.set_cons_succ]
  refine wpAnyH_take (i := 12) (oi := ⟨some 35, .load 9 (.tmp 34), _, _, _, none⟩) (v := .string s) rfl (by kernel_rfl) (by kernel_rfl) (by kernel_rfl) (fun _ _ _ h => h) (Or.inl ⟨by rfl, by intro w hSw; go_simp⟩) hHeld ?_
  simp only [Act.put, List.setIfInBounds_toArray, List.set_cons_zero, List.set_cons_succ]
  refine wpAnyH_take (i := 13) (oi := ⟨some 36, .fieldAddr 67 (.tmp 5) 5, _, _, _, none⟩) (v := .pointer (some ⟨w.heap.size, 5, none⟩)) rfl (by kernel_rfl) (by kernel_rfl) (by kernel_rfl) (fun _ _ _ h => h) (Or.inl ⟨by rfl, by intro w hSw; go_simp⟩) hHeld ?_
  simp only [Act.put, List.setIfInBounds_toArray, List.set_cons_zero, List.set_cons_succ]
  refine wpAnyH_take (i := 14) (oi := ⟨some 37, .load 9 (.tmp 36), _, _, _, none⟩) (v := .string t) rfl (by kernel_rfl) (by kernel_rfl) (by kernel_rfl) (fun _ _ _ h => h) (Or.inl ⟨by rfl, by intro w hSw; go_simp⟩) hHeld ?_
  simp only [Act.put, List.setIfInBounds_toArray, List.set_cons_zero, List.set_cons_succ]
  refine wpAnyH_ready (rs := [10]) (by kernel_rfl) (by simp) ?_
  refine AllReadyH.cons (o := ⟨some 33, .load 207 (.tmp 32), _, _, _, none⟩) rfl (fun K hK => ?_) AllReadyH.nil
  go_simp
  refine hK.out _ _ (hHeld) (fun hHeld => ?_)
  clear hK K
  try simp only [Act.put, List.setIfInBounds_toArray, List.set_cons_zero, List.set_cons_succ]
  refine wpAnyH_ready (rs := [15]) (by kernel_rfl) (by simp) ?_
  refine AllReadyH.cons (o := ⟨some 38, .call { callee := .value (.func 123), args := #[.tmp 33, .tmp 35, .tmp 37], argTypes := #[207, 9, 9] }, _, _, _, none⟩) rfl (fun K hK => ?_) AllReadyH.nil
  go_simp
  go_at_call 123
  refine (HR.out _ hM2.out).mono ?_
  rintro e w3 ⟨ta, tn, tc, rfl, hM3, hf2⟩
  have j3 : w3.cell? ⟨ga, i + 3, none⟩ = some (.pointer (some ⟨bq, 0, none⟩)) := fr_cell hf2 (by simpa using k3) hgr
  have j4 : w3.cell? ⟨w.heap.size, 4, none⟩ = some (.string s) := fr_cell hf2 (by simpa using k4) hbxr
  have j5 : w3.cell? ⟨w.heap.size, 5, none⟩ = some (.string t) := fr_cell hf2 (by simpa using k5) hbxr
  have j7 : w3.cell? ⟨bq, 7, none⟩ = some tv := fr_cell hf2 (by simpa using k7) hbr
  have l8 : w3.frozen? ⟨bq, 7, none⟩ = false := (by rw [World.frozen?_of_block (hf2.block bq (by have := hf.size; simp at this ⊢; omega) hbr)]; simpa using l7)
  refine hK.out _ _ (⟨j3, j4, j5⟩) (fun hHeld => ?_)
  clear hK K
  try simp only [Act.put, List.setIfInBounds_toArray, List.set_cons_zero, List.set_cons_succ]
  refine wpAnyH_take (i := 16) (oi := ⟨some 22, .move (.tmp 38), _, _, _, none⟩) (v := .tuple #[.slice ta tn tc, .int .i64 n]) rfl (by kernel_rfl) (by kernel_rfl) (by kernel_rfl) (fun _ _ _ h => h) (Or.inl ⟨by rfl, by intro w hSw; go_simp⟩) hHeld ?_
  simp only [Act.put, List.setIfInBounds_toArray, List.set_cons_zero, List.set_cons_succ]
  refine wpAnyH_take (i := 17) (oi := ⟨some 39, .extract (.tmp 22) 0, _, _, _, none⟩) (v := .slice ta tn tc) rfl (by kernel_rfl) (by kernel_rfl) (by kernel_rfl) (fun _ _ _ h => h) (Or.inl ⟨by rfl, by intro w hSw; go_simp⟩) hHeld ?_
  simp only [Act.put, List.setIfInBounds_toArray, List.set_cons_zero, List.set_cons_succ]
  refine wpAnyH_take (i := 18) (oi := ⟨some 40, .extract (.tmp 22) 1, _, _, _, none⟩) (v := .int .i64 n) rfl (by kernel_rfl) (by kernel_rfl) (by kernel_rfl) (fun _ _ _ h => h) (Or.inl ⟨by rfl, by intro w hSw; go_simp⟩) hHeld ?_
  simp only [Act.put, List.setIfInBounds_toArray, List.set_cons_zero, List.set_cons_succ]
  refine wpAnyH_take (i := 19) (oi := ⟨some 41, .nilCheck (.tmp 26), _, _, _, none⟩) (v := .pointer (some ⟨bq, 0, none⟩)) rfl (by kernel_rfl) (by kernel_rfl) (by kernel_rfl) (fun _ _ _ h => h) (Or.inl ⟨by rfl, by intro w hSw; go_simp⟩) hHeld ?_
  simp only [Act.put, List.setIfInBounds_toArray, List.set_cons_zero, List.set_cons_succ]
  refine wpAnyH_take (i := 20) (oi := ⟨some 42, .fieldAddr 213 (.tmp 41) 7, _, _, _, none⟩) (v := .pointer (some ⟨bq, 7, none⟩)) rfl (by kernel_rfl) (by kernel_rfl) (by kernel_rfl) (fun _ _ _ h => h) (Or.inl ⟨by rfl, by intro w hSw; go_simp⟩) hHeld ?_
  simp only [Act.put, List.setIfInBounds_toArray, List.set_cons_zero, List.set_cons_succ]
  refine wpAnyH_ready (rs := [21]) (by kernel_rfl) (by simp) ?_
  refine AllReadyH.cons (o := ⟨none, .store 207 (.tmp 42) (.tmp 39), _, _, _, none⟩) rfl (fun K hK => ?_) AllReadyH.nil
  refine step_skip rfl (w' := w3.setCell ⟨bq, 7, none⟩ (.slice ta tn tc)) (by go_simp) ?_
  refine hK.out _ _ (⟨by rw [World.cell?_setCell_other] <;> first | exact j3 | simp [], by rw [World.cell?_setCell_other] <;> first | exact j4 | simp | (simp; omega), by rw [World.cell?_setCell_other] <;> first | exact j5 | simp | (simp; omega)⟩) (fun hHeld => ?_)
  clear hK K
  try simp only [Act.put]
  refine wpAnyH_ready (rs := [22]) (by kernel_rfl) (by simp) ?_
  refine AllReadyH.cons (o := ⟨some 8, .assign (.tmp 40), _, _, _, none⟩) rfl (fun K hK => ?_) AllReadyH.nil
  go_simp
  refine hK.out _ _ (hHeld) (fun hHeld => ?_)
  clear hK K
  try simp only [Act.put, List.setIfInBounds_toArray, List.set_cons_zero, List.set_cons_succ]
  refine wpAnyH_done (by kernel_rfl) ?_ _
  have hF : Hid _ := fr_two ((below_box w _).drew) hf (Below.refl _ _).drew hf2
  simp only [At]
  go_wp2
  go_ret
  exact ⟨rfl, w3, ta, tn, tc, hM3, hF.out, rfl⟩
set_option maxRecDepth 100000 in
set_option maxHeartbeats 1600000 in
theorem tree_mkdir {w : World} (o : OpR) (hk : o.kind = 15) (p ga i aq bq : Nat) (c2 : w.cell? ⟨ga, i + 2, none⟩ = some (.pointer (some ⟨aq, 0, none⟩))) (c3 : w.cell? ⟨ga, i + 3, none⟩ = some (.pointer (some ⟨bq, 0, none⟩)))
    (n : Int) (M : World → Prop) (M2 : Value → World → Prop) (dB rB : List Nat) (hlt : ∀ x ∈ dB, x < w.heap.size) (hga : ga ∉ dB) (hlr : ∀ x ∈ rB, x < w.heap.size) (hgr : ga ∉ rB) (tv : Value) (c7 : w.cell? ⟨bq, 7, none⟩ = some tv) (f7 : w.frozen? ⟨bq, 7, none⟩ = false) (hbd : bq ∉ dB) (hbr : bq ∉ rB) (hgb : ga ≠ bq)
    (hD : ∀ w1, Below w.heap.size w w1 → Calls Tryz.prog 27 #[.pointer (some ⟨aq, 0, none⟩), .string o.s] w1 fun e w' => e = .returned (.int .i64 n) ∧ M w' ∧ Fr w1 w' dB)
    (hMd : ∀ w1, M w1 → M w1.drew)
    (hR : ∀ w1, M w1 → Calls Tryz.prog 124 #[tv, .string o.s] w1 fun e w' => ∃ ta tn tc, e = .returned (.tuple #[.slice ta tn tc, .int .i64 n]) ∧ M2 (.slice ta tn tc) w' ∧ Fr w1 w' rB) :
    Calls Tryz.prog 74 #[.pointer (some ⟨p, 0, none⟩), .pointer (some ⟨ga, i, none⟩), OpR.agg o] w fun e w' => e = .returned (.bool true) ∧ ∃ w2 ta tn tc, M2 (.slice ta tn tc) w2 ∧ Fr w w2 (dB ++ rB) ∧ w' = w2.setCell ⟨bq, 7, none⟩ (.slice ta tn tc) := by
  unfold OpR.agg
  obtain ⟨k, a, b, d, s, t⟩ := o
  simp only at hk hD hR ⊢
  subst hk
  have lga : ga < w.heap.size := World.block_lt_of_cell? w _ c2
  have lbq : bq < w.heap.size := World.block_lt_of_cell? w _ c7
  have hbx : w.heap.size ∉ dB := fun h => Nat.lt_irrefl _ (hlt _ h)
  have hbxr : w.heap.size ∉ rB := fun h => Nat.lt_irrefl _ (hlr _ h)
  have HD : Hid _ := hD
  have HM : Hid _ := hMd
  have HR : Hid _ := hR
  clear hD hMd hR
  go_enter Tryz.func74, Tryz.ntmps74
  go_wp2
  go_region_held3 (fun w' => w'.cell? ⟨ga, i + 2, none⟩ = some (.pointer (some ⟨aq, 0, none⟩)) ∧ w'.cell? ⟨w.heap.size, 4, none⟩ = some (.string s)) ((first | exact ⟨k0, k4⟩ | (go_split_ands; refine ⟨by go_keep, by go_keep⟩)))
    ((go_at_call 27; refine (HD.out _ ((below_box w _).drew)).mono ?_; rintro e w2 ⟨rfl, hM, hf⟩; have k3 : w2.cell? ⟨ga, i + 3, none⟩ = some (.pointer (some ⟨bq, 0, none⟩)) := fr_cell hf (by go_simp) hga; have k0 : w2.cell? ⟨ga, i + 2, none⟩ = some (.pointer (some ⟨aq, 0, none⟩)) := fr_cell hf (by go_simp) hga; have k4 : w2.cell? ⟨w.heap.size, 4, none⟩ = some (.string s) := fr_cell hf (by go_simp) hbx; have k7 : w2.cell? ⟨bq, 7, none⟩ = some tv := fr_cell hf (by go_simp) hbd; have l7 : w2.frozen? ⟨bq, 7, none⟩ = false := (by rw [World.frozen?_of_block (hf.block bq (by simp; omega) hbd)]; go_simp)))
  go_wp2
  have hM2 : Hid _ := HM.out _ hM
  have hF1 : Hid _ := hf.size
  refine wp_at ?_
  refine wp_region_held_drew (S := fun w' => w'.cell? ⟨ga, i + 3, none⟩ = some (.pointer (some ⟨bq, 0, none⟩)) ∧ w'.cell? ⟨w.heap.size, 4, none⟩ = some (.string s)) (by kernel_rfl) ⟨by simpa using k3, by simpa using k4⟩ (fun hHeld => ?_)
  refine wpAnyH_take (i := 0) (oi := ⟨some 53, .move (.tmp 1), _, _, _, none⟩) (v := .pointer (some ⟨ga, i, none⟩)) rfl (by kernel_rfl) (by kernel_rfl) (by kernel_rfl) (fun _ _ _ h => h) (Or.inl ⟨by rfl, by intro w hSw; go_simp⟩) hHeld ?_
  simp only [Act.put, List.setIfInBounds_toArray, List.set_cons_zero, List.set_cons_succ]
  refine wpAnyH_take (i := 1) (oi := ⟨some 54, .nilCheck (.tmp 53), _, _, _, none⟩) (v := .pointer (some ⟨ga, i, none⟩)) rfl (by kernel_rfl) (by kernel_rfl) (by kernel_rfl) (fun _ _ _ h => h) (Or.inl ⟨by rfl, by intro w hSw; go_simp⟩) hHeld ?_
  simp only [Act.put, List.setIfInBounds_toArray, List.set_cons_zero, List.set_cons_succ]
  refine wpAnyH_take (i := 2) (oi := ⟨some 55, .fieldAddr 142 (.tmp 54) 3, _, _, _, none⟩) (v := .pointer (some ⟨ga, i + 3, none⟩)) rfl (by kernel_rfl) (by kernel_rfl) (by kernel_rfl) (fun _ _ _ h => h) (Or.inl ⟨by rfl, by intro w hSw; go_simp⟩) hHeld ?_
  simp only [Act.put, List.setIfInBounds_toArray, List.set_cons_zero, List.set_cons_succ]
  refine wpAnyH_take (i := 3) (oi := ⟨some 56, .load 140 (.tmp 55), _, _, _, none⟩) (v := .pointer (some ⟨bq, 0, none⟩)) rfl (by kernel_rfl) (by kernel_rfl) (by kernel_rfl) (fun _ _ _ h => h) (Or.inl ⟨by rfl, by intro w hSw; go_simp⟩) hHeld ?_
  simp only [Act.put, List.setIfInBounds_toArray, List.set_cons_zero, List.set_cons_succ]
  refine wpAnyH_take (i := 4) (oi := ⟨some 57, .move (.tmp 1), _, _, _, none⟩) (v := .pointer (some ⟨ga, i, none⟩)) rfl (by kernel_rfl) (by kernel_rfl) (by kernel_rfl) (fun _ _ _ h => h) (Or.inl ⟨by rfl, by intro w hSw; go_simp⟩) hHeld ?_
  simp only [Act.put, List.setIfInBounds_toArray, List.set_cons_zero, List.set_cons_succ]
  refine wpAnyH_take (i := 5) (oi := ⟨some 58, .nilCheck (.tmp 57), _, _, _, none⟩) (v := .pointer (some ⟨ga, i, none⟩)) rfl (by kernel_rfl) (by kernel_rfl) (by kernel_rfl) (fun _ _ _ h => h) (Or.inl ⟨by rfl, by intro w hSw; go_simp⟩) hHeld ?_
  simp only [Act.put, List.setIfInBounds_toArray, List.set_cons_zero, List.set_cons_succ]
  refine wpAnyH_take (i := 6) (oi := ⟨some 59, .fieldAddr 142 (.tmp 58) 3, _, _, _, none⟩) (v := .pointer (some ⟨ga, i + 3, none⟩)) rfl (by kernel_rfl) (by kernel_rfl) (by kernel_rfl) (fun _ _ _ h => h) (Or.inl ⟨by rfl, by intro w hSw; go_simp⟩) hHeld ?_
  simp only [Act.put, List.setIfInBounds_toArray, List.set_cons_zero, List.set_cons_succ]
  refine wpAnyH_take (i := 7) (oi := ⟨some 60, .load 140 (.tmp 59), _, _, _, none⟩) (v := .pointer (some ⟨bq, 0, none⟩)) rfl (by kernel_rfl) (by kernel_rfl) (by kernel_rfl) (fun _ _ _ h => h) (Or.inl ⟨by rfl, by intro w hSw; go_simp⟩) hHeld ?_
  simp only [Act.put, List.setIfInBounds_toArray, List.set_cons_zero, List.set_cons_succ]
  refine wpAnyH_take (i := 8) (oi := ⟨some 61, .nilCheck (.tmp 60), _, _, _, none⟩) (v := .pointer (some ⟨bq, 0, none⟩)) rfl (by kernel_rfl) (by kernel_rfl) (by kernel_rfl) (fun _ _ _ h => h) (Or.inl ⟨by rfl, by intro w hSw; go_simp⟩) hHeld ?_
  simp only [Act.put, List.setIfInBounds_toArray, List.set_cons_zero, List.set_cons_succ]
  refine wpAnyH_take (i := 9) (oi := ⟨some 62, .fieldAddr 213 (.tmp 61) 7, _, _, _, none⟩) (v := .pointer (some ⟨bq, 7, none⟩)) rfl (by kernel_rfl) (by kernel_rfl) (by kernel_rfl) (fun _ _ _ h => h) (Or.inl ⟨by rfl, by intro w hSw; go_simp⟩) hHeld ?_
  simp only [Act.put, List.setIfInBounds_toArray, List.set_cons_zero, List.set_cons_succ]
  refine wpAnyH_take (i := 11) (oi := ⟨some 64, .fieldAddr 67 (.tmp 5) 4, _, _, _, none⟩) (v := .pointer (some ⟨w.heap.size, 4, none⟩)) rfl (by kernel_rfl) (by kernel_rfl) (by kernel_rfl) (fun _ _ _ h => h) (Or.inl ⟨by rfl, by intro w hSw; go_simp⟩) hHeld ?_
  simp only [Act.put, List.setIfInBounds_toArray, List.set_cons_zero, List.set_cons_succ]
  refine wpAnyH_take (i := 12) (oi := ⟨some 65, .load 9 (.tmp 64), _, _, _, none⟩) (v := .string s) rfl (by kernel_rfl) (by kernel_rfl) (by kernel_rfl) (fun _ _ _ h => h) (Or.inl ⟨by rfl, by intro w hSw; go_simp⟩) hHeld ?_
  simp only [Act.put, List.setIfInBounds_toArray, List.set_cons_zero, List.set_cons_succ]
  refine wpAnyH_ready (rs := [10]) (by kernel_rfl) (by simp) ?_
  refine AllReadyH.cons (o := ⟨some 63, .load 207 (.tmp 62), _, _, _, none⟩) rfl (fun K hK => ?_) AllReadyH.nil
  go_simp
  refine hK.out _ _ (hHeld) (fun hHeld => ?_)
  clear hK K
  try simp only [Act.put, List.setIfInBounds_toArray, List.set_cons_zero, List.set_cons_succ]
  refine wpAnyH_ready (rs := [13]) (by kernel_rfl) (by simp) ?_
  refine AllReadyH.cons (o := ⟨some 66, .call { callee := .value (.func 124), args := #[.tmp 63, .tmp 65], argTypes := #[207, 9] }, _, _, _, none⟩) rfl (fun K hK => ?_) AllReadyH.nil
  go_simp
  go_at_call 124
  refine (HR.out _ hM2.out).mono ?_
  rintro e w3 ⟨ta, tn, tc, rfl, hM3, hf2⟩
  have j3 : w3.cell? ⟨ga, i + 3, none⟩ = some (.pointer (some ⟨bq, 0, none⟩)) := fr_cell hf2 (by simpa using k3) hgr
  have j4 : w3.cell? ⟨w.heap.size, 4, none⟩ = some (.string s) := fr_cell hf2 (by simpa using k4) hbxr
  have j7 : w3.cell? ⟨bq, 7, none⟩ = some tv := fr_cell hf2 (by simpa using k7) hbr
  have l8 : w3.frozen? ⟨bq, 7, none⟩ = false := (by rw [World.frozen?_of_block (hf2.block bq (by have := hf.size; simp at this ⊢; omega) hbr)]; simpa using l7)
  refine hK.out _ _ (⟨j3, j4⟩) (fun hHeld => ?_)
  clear hK K
  try simp only [Act.put, List.setIfInBounds_toArray, List.set_cons_zero, List.set_cons_succ]
  refine wpAnyH_take (i := 14) (oi := ⟨some 52, .move (.tmp 66), _, _, _, none⟩) (v := .tuple #[.slice ta tn tc, .int .i64 n]) rfl (by kernel_rfl) (by kernel_rfl) (by kernel_rfl) (fun _ _ _ h => h) (Or.inl ⟨by rfl, by intro w hSw; go_simp⟩) hHeld ?_
  simp only [Act.put, List.setIfInBounds_toArray, List.set_cons_zero, List.set_cons_succ]
  refine wpAnyH_take (i := 15) (oi := ⟨some 67, .extract (.tmp 52) 0, _, _, _, none⟩) (v := .slice ta tn tc) rfl (by kernel_rfl) (by kernel_rfl) (by kernel_rfl) (fun _ _ _ h => h) (Or.inl ⟨by rfl, by intro w hSw; go_simp⟩) hHeld ?_
  simp only [Act.put, List.setIfInBounds_toArray, List.set_cons_zero, List.set_cons_succ]
  refine wpAnyH_take (i := 16) (oi := ⟨some 68, .extract (.tmp 52) 1, _, _, _, none⟩) (v := .int .i64 n) rfl (by kernel_rfl) (by kernel_rfl) (by kernel_rfl) (fun _ _ _ h => h) (Or.inl ⟨by rfl, by intro w hSw; go_simp⟩) hHeld ?_
  simp only [Act.put, List.setIfInBounds_toArray, List.set_cons_zero, List.set_cons_succ]
  refine wpAnyH_take (i := 17) (oi := ⟨some 69, .nilCheck (.tmp 56), _, _, _, none⟩) (v := .pointer (some ⟨bq, 0, none⟩)) rfl (by kernel_rfl) (by kernel_rfl) (by kernel_rfl) (fun _ _ _ h => h) (Or.inl ⟨by rfl, by intro w hSw; go_simp⟩) hHeld ?_
  simp only [Act.put, List.setIfInBounds_toArray, List.set_cons_zero, List.set_cons_succ]
  refine wpAnyH_take (i := 18) (oi := ⟨some 70, .fieldAddr 213 (.tmp 69) 7, _, _, _, none⟩) (v := .pointer (some ⟨bq, 7, none⟩)) rfl (by kernel_rfl) (by kernel_rfl) (by kernel_rfl) (fun _ _ _ h => h) (Or.inl ⟨by rfl, by intro w hSw; go_simp⟩) hHeld ?_
  simp only [Act.put, List.setIfInBounds_toArray, List.set_cons_zero, List.set_cons_succ]
  refine wpAnyH_ready (rs := [19]) (by kernel_rfl) (by simp) ?_
  refine AllReadyH.cons (o := ⟨none, .store 207 (.tmp 70) (.tmp 67), _, _, _, none⟩) rfl (fun K hK => ?_) AllReadyH.nil
  refine step_skip rfl (w' := w3.setCell ⟨bq, 7, none⟩ (.slice ta tn tc)) (by go_simp) ?_
  refine hK.out _ _ (⟨by rw [World.cell?_setCell_other] <;> first | exact j3 | simp [], by rw [World.cell?_setCell_other] <;> first | exact j4 | simp | (simp; omega)⟩) (fun hHeld => ?_)
  clear hK K
  try simp only [Act.put]
  refine wpAnyH_ready (rs := [20]) (by kernel_rfl) (by simp) ?_
  refine AllReadyH.cons (o := ⟨some 8, .assign (.tmp 68), _, _, _, none⟩) rfl (fun K hK => ?_) AllReadyH.nil
  go_simp
  refine hK.out _ _ (hHeld) (fun hHeld => ?_)
  clear hK K
  try simp only [Act.put, List.setIfInBounds_toArray, List.set_cons_zero, List.set_cons_succ]
  refine wpAnyH_done (by kernel_rfl) ?_ _
  have hF : Hid _ := fr_two ((below_box w _).drew) hf (Below.refl _ _).drew hf2
  simp only [At]
  go_wp2
  go_ret
  exact ⟨rfl, w3, ta, tn, tc, hM3, hF.out, rfl⟩
set_option maxRecDepth 100000 in
set_option maxHeartbeats 1600000 in
theorem tree_remove {w : World} (o : OpR) (hk : o.kind = 16) (p ga i aq bq : Nat) (c2 : w.cell? ⟨ga, i + 2, none⟩ = some (.pointer (some ⟨aq, 0, none⟩))) (c3 : w.cell? ⟨ga, i + 3, none⟩ = some (.pointer (some ⟨bq, 0, none⟩)))
    (n : Int) (M : World → Prop) (M2 : Value → World → Prop) (dB rB : List Nat) (hlt : ∀ x ∈ dB, x < w.heap.size) (hga : ga ∉ dB) (hlr : ∀ x ∈ rB, x < w.heap.size) (hgr : ga ∉ rB) (tv : Value) (c7 : w.cell? ⟨bq, 7, none⟩ = some tv) (f7 : w.frozen? ⟨bq, 7, none⟩ = false) (hbd : bq ∉ dB) (hbr : bq ∉ rB) (hgb : ga ≠ bq)
    (hD : ∀ w1, Below w.heap.size w w1 → Calls Tryz.prog 56 #[.pointer (some ⟨aq, 0, none⟩), .string o.s] w1 fun e w' => e = .returned (.int .i64 n) ∧ M w' ∧ Fr w1 w' dB)
    (hMd : ∀ w1, M w1 → M w1.drew)
    (hR : ∀ w1, M w1 → Calls Tryz.prog 125 #[tv, .string o.s] w1 fun e w' => ∃ ta tn tc, e = .returned (.tuple #[.slice ta tn tc, .int .i64 n]) ∧ M2 (.slice ta tn tc) w' ∧ Fr w1 w' rB) :
    Calls Tryz.prog 74 #[.pointer (some ⟨p, 0, none⟩), .pointer (some ⟨ga, i, none⟩), OpR.agg o] w fun e w' => e = .returned (.bool true) ∧ ∃ w2 ta tn tc, M2 (.slice ta tn tc) w2 ∧ Fr w w2 (dB ++ rB) ∧ w' = w2.setCell ⟨bq, 7, none⟩ (.slice ta tn tc) := by
  unfold OpR.agg
  obtain ⟨k, a, b, d, s, t⟩ := o
  simp only at hk hD hR ⊢
  subst hk
  have lga : ga < w.heap.size := World.block_lt_of_cell? w _ c2
  have lbq : bq < w.heap.size := World.block_lt_of_cell? w _ c7
  have hbx : w.heap.size ∉ dB := fun h => Nat.lt_irrefl _ (hlt _ h)
  have hbxr : w.heap.size ∉ rB := fun h => Nat.lt_irrefl _ (hlr _ h)
  have HD : Hid _ := hD
  have HM : Hid _ := hMd
  have HR : Hid _ := hR
  clear hD hMd hR
  go_enter Tryz.func74, Tryz.ntmps74
  go_wp2
  go_region_held3 (fun w' => w'.cell? ⟨ga, i + 2, none⟩ = some (.pointer (some ⟨aq, 0, none⟩)) ∧ w'.cell? ⟨w.heap.size, 4, none⟩ = some (.string s)) ((first | exact ⟨k0, k4⟩ | (go_split_ands; refine ⟨by go_keep, by go_keep⟩)))
    ((go_at_call 56; refine (HD.out _ ((below_box w _).drew)).mono ?_; rintro e w2 ⟨rfl, hM, hf⟩; have k3 : w2.cell? ⟨ga, i + 3, none⟩ = some (.pointer (some ⟨bq, 0, none⟩)) := fr_cell hf (by go_simp) hga; have k0 : w2.cell? ⟨ga, i + 2, none⟩ = some (.pointer (some ⟨aq, 0, none⟩)) := fr_cell hf (by go_simp) hga; have k4 : w2.cell? ⟨w.heap.size, 4, none⟩ = some (.string s) := fr_cell hf (by go_simp) hbx; have k7 : w2.cell? ⟨bq, 7, none⟩ = some tv := fr_cell hf (by go_simp) hbd; have l7 : w2.frozen? ⟨bq, 7, none⟩ = false := (by rw [World.frozen?_of_block (hf.block bq (by simp; omega) hbd)]; go_simp)))
  go_wp2
  have hM2 : Hid _ := HM.out _ hM
  have hF1 : Hid _ := hf.size
  refine wp_at ?_
  refine wp_region_held_drew (S := fun w' => w'.cell? ⟨ga, i + 3, none⟩ = some (.pointer (some ⟨bq, 0, none⟩)) ∧ w'.cell? ⟨w.heap.size, 4, none⟩ = some (.string s)) (by kernel_rfl) ⟨by simpa using k3, by simpa using k4⟩ (fun hHeld => ?_)
  refine wpAnyH_take (i := 0) (oi := ⟨some 81, .move (.tmp 1), _, _, _, none⟩) (v := .pointer (some ⟨ga, i, none⟩)) rfl (by kernel_rfl) (by kernel_rfl) (by kernel_rfl) (fun _ _ _ h => h) (Or.inl ⟨by rfl, by intro w hSw; go_simp⟩) hHeld ?_
  simp only [Act.put, List.setIfInBounds_toArray, List.set_cons_zero, List.set_cons_succ]
  refine wpAnyH_take (i := 1) (oi := ⟨some 82, .nilCheck (.tmp 81), _, _, _, none⟩) (v := .pointer (some ⟨ga, i, none⟩)) rfl (by kernel_rfl) (by kernel_rfl) (by kernel_rfl) (fun _ _ _ h => h) (Or.inl ⟨by rfl, by intro w hSw; go_simp⟩) hHeld ?_
  simp only [Act.put, List.setIfInBounds_toArray, List.set_cons_zero, List.set_cons_succ]
  refine wpAnyH_take (i := 2) (oi := ⟨some 83, .fieldAddr 142 (.tmp 82) 3, _, _, _, none⟩) (v := .pointer (some ⟨ga, i + 3, none⟩)) rfl (by kernel_rfl) (by kernel_rfl) (by kernel_rfl) (fun _ _ _ h => h) (Or.inl ⟨by rfl, by intro w hSw; go_simp⟩) hHeld ?_
  simp only [Act.put, List.setIfInBounds_toArray, List.set_cons_zero, List.set_cons_succ]
  refine wpAnyH_take (i := 3) (oi := ⟨some 84, .load 140 (.tmp 83), _, _, _, none⟩) (v := .pointer (some ⟨bq, 0, none⟩)) rfl (by kernel_rfl) (by kernel_rfl) (by kernel_rfl) (fun _ _ _ h => h) (Or.inl ⟨by rfl, by intro w hSw; go_simp⟩) hHeld ?_
  simp only [Act.put, List.setIfInBounds_toArray, List.set_cons_zero, List.set_cons_succ]
  refine wpAnyH_take (i := 4) (oi := ⟨some 85, .move (.tmp 1), _, _, _, none⟩) (v := .pointer (some ⟨ga, i, none⟩)) rfl (by kernel_rfl) (by kernel_rfl) (by kernel_rfl) (fun _ _ _ h => h) (Or.inl ⟨by rfl, by intro w hSw; go_simp⟩) hHeld ?_
  simp only [Act.put, List.setIfInBounds_toArray, List.set_cons_zero, List.set_cons_succ]
  refine wpAnyH_take (i := 5) (oi := ⟨some 86, .nilCheck (.tmp 85), _, _, _, none⟩) (v := .pointer (some ⟨ga, i, none⟩)) rfl (by kernel_rfl) (by kernel_rfl) (by kernel_rfl) (fun _ _ _ h => h) (Or.inl ⟨by rfl, by intro w hSw; go_simp⟩) hHeld ?_
  simp only [Act.put, List.setIfInBounds_toArray, List.set_cons_zero, List.set_cons_succ]
  refine wpAnyH_take (i := 6) (oi := ⟨some 87, .fieldAddr 142 (.tmp 86) 3, _, _, _, none⟩) (v := .pointer (some ⟨ga, i + 3, none⟩)) rfl (by kernel_rfl) (by kernel_rfl) (by kernel_rfl) (fun _ _ _ h => h) (Or.inl ⟨by rfl, by intro w hSw; go_simp⟩) hHeld ?_
  simp only [Act.put, List.setIfInBounds_toArray, List.set_cons_zero, List.set_cons_succ]
  refine wpAnyH_take (i := 7) (oi := ⟨some 88, .load 140 (.tmp 87), _, _, _, none⟩) (v := .pointer (some ⟨bq, 0, none⟩)) rfl (by kernel_rfl) (by kernel_rfl) (by kernel_rfl) (fun _ _ _ h => h) (Or.inl ⟨by rfl, by intro w hSw; go_simp⟩) hHeld ?_
  simp only [Act.put, List.setIfInBounds_toArray, List.set_cons_zero, List.set_cons_succ]
  refine wpAnyH_take (i := 8) (oi := ⟨some 89, .nilCheck (.tmp 88), _, _, _, none⟩) (v := .pointer (some ⟨bq, 0, none⟩)) rfl (by kernel_rfl) (by kernel_rfl) (by kernel_rfl) (fun _ _ _ h => h) (Or.inl ⟨by rfl, by intro w hSw; go_simp⟩) hHeld ?_
  simp only [Act.put, List.setIfInBounds_toArray, List.set_cons_zero, List.set_cons_succ]
  refine wpAnyH_take (i := 9) (oi := ⟨some 90, .fieldAddr 213 (.tmp 89) 7, _, _, _, none⟩) (v := .pointer (some ⟨bq, 7, none⟩)) rfl (by kernel_rfl) (by kernel_rfl) (by kernel_rfl) (fun _ _ _ h => h) (Or.inl ⟨by rfl, by intro w hSw; go_simp⟩) hHeld ?_
  simp only [Act.put, List.setIfInBounds_toArray, List.set_cons_zero, List.set_cons_succ]
  refine wpAnyH_take (i := 11) (oi := ⟨some 92, .fieldAddr 67 (.tmp 5) 4, _, _, _, none⟩) (v := .pointer (some ⟨w.heap.size, 4, none⟩)) rfl (by kernel_rfl) (by kernel_rfl) (by kernel_rfl) (fun _ _ _ h => h) (Or.inl ⟨by rfl, by intro w hSw; go_simp⟩) hHeld ?_
  simp only [Act.put, List.setIfInBounds_toArray, List.set_cons_zero, List.set_cons_succ]
  refine wpAnyH_take (i := 12) (oi := ⟨some 93, .load 9 (.tmp 92), _, _, _, none⟩) (v := .string s) rfl (by kernel_rfl) (by kernel_rfl) (by kernel_rfl) (fun _ _ _ h => h) (Or.inl ⟨by rfl, by intro w hSw; go_simp⟩) hHeld ?_
  simp only [Act.put, List.setIfInBounds_toArray, List.set_cons_zero, List.set_cons_succ]
  refine wpAnyH_ready (rs := [10]) (by kernel_rfl) (by simp) ?_
  refine AllReadyH.cons (o := ⟨some 91, .load 207 (.tmp 90), _, _, _, none⟩) rfl (fun K hK => ?_) AllReadyH.nil
  go_simp
  refine hK.out _ _ (hHeld) (fun hHeld => ?_)
  clear hK K
  try simp only [Act.put, List.setIfInBounds_toArray, List.set_cons_zero, List.set_cons_succ]
  refine wpAnyH_ready (rs := [13]) (by kernel_rfl) (by simp) ?_
  refine AllReadyH.cons (o := ⟨some 94, .call { callee := .value (.func 125), args := #[.tmp 91, .tmp 93], argTypes := #[207, 9] }, _, _, _, none⟩) rfl (fun K hK => ?_) AllReadyH.nil
  go_simp
  go_at_call 125
  refine (HR.out _ hM2.out).mono ?_
  rintro e w3 ⟨ta, tn, tc, rfl, hM3, hf2⟩
  have j3 : w3.cell? ⟨ga, i + 3, none⟩ = some (.pointer (some ⟨bq, 0, none⟩)) := fr_cell hf2 (by simpa using k3) hgr
  have j4 : w3.cell? ⟨w.heap.size, 4, none⟩ = some (.string s) := fr_cell hf2 (by simpa using k4) hbxr
  have j7 : w3.cell? ⟨bq, 7, none⟩ = some tv := fr_cell hf2 (by simpa using k7) hbr
  have l8 : w3.frozen? ⟨bq, 7, none⟩ = false := (by rw [World.frozen?_of_block (hf2.block bq (by have := hf.size; simp at this ⊢; omega) hbr)]; simpa using l7)
  refine hK.out _ _ (⟨j3, j4⟩) (fun hHeld => ?_)
  clear hK K
  try simp only [Act.put, List.setIfInBounds_toArray, List.set_cons_zero, List.set_cons_succ]
  refine wpAnyH_take (i := 14) (oi := ⟨some 80, .move (.tmp 94), _, _, _, none⟩) (v := .tuple #[.slice ta tn tc, .int .i64 n]) rfl (by kernel_rfl) (by kernel_rfl) (by kernel_rfl) (fun _ _ _ h => h) (Or.inl ⟨by rfl, by intro w hSw; go_simp⟩) hHeld ?_
  simp only [Act.put, List.setIfInBounds_toArray, List.set_cons_zero, List.set_cons_succ]
  refine wpAnyH_take (i := 15) (oi := ⟨some 95, .extract (.tmp 80) 0, _, _, _, none⟩) (v := .slice ta tn tc) rfl (by kernel_rfl) (by kernel_rfl) (by kernel_rfl) (fun _ _ _ h => h) (Or.inl ⟨by rfl, by intro w hSw; go_simp⟩) hHeld ?_
  simp only [Act.put, List.setIfInBounds_toArray, List.set_cons_zero, List.set_cons_succ]
  refine wpAnyH_take (i := 16) (oi := ⟨some 96, .extract (.tmp 80) 1, _, _, _, none⟩) (v := .int .i64 n) rfl (by kernel_rfl) (by kernel_rfl) (by kernel_rfl) (fun _ _ _ h => h) (Or.inl ⟨by rfl, by intro w hSw; go_simp⟩) hHeld ?_
  simp only [Act.put, List.setIfInBounds_toArray, List.set_cons_zero, List.set_cons_succ]
  refine wpAnyH_take (i := 17) (oi := ⟨some 97, .nilCheck (.tmp 84), _, _, _, none⟩) (v := .pointer (some ⟨bq, 0, none⟩)) rfl (by kernel_rfl) (by kernel_rfl) (by kernel_rfl) (fun _ _ _ h => h) (Or.inl ⟨by rfl, by intro w hSw; go_simp⟩) hHeld ?_
  simp only [Act.put, List.setIfInBounds_toArray, List.set_cons_zero, List.set_cons_succ]
  refine wpAnyH_take (i := 18) (oi := ⟨some 98, .fieldAddr 213 (.tmp 97) 7, _, _, _, none⟩) (v := .pointer (some ⟨bq, 7, none⟩)) rfl (by kernel_rfl) (by kernel_rfl) (by kernel_rfl) (fun _ _ _ h => h) (Or.inl ⟨by rfl, by intro w hSw; go_simp⟩) hHeld ?_
  simp only [Act.put, List.setIfInBounds_toArray, List.set_cons_zero, List.set_cons_succ]
  refine wpAnyH_ready (rs := [19]) (by kernel_rfl) (by simp) ?_
  refine AllReadyH.cons (o := ⟨none, .store 207 (.tmp 98) (.tmp 95), _, _, _, none⟩) rfl (fun K hK => ?_) AllReadyH.nil
  refine step_skip rfl (w' := w3.setCell ⟨bq, 7, none⟩ (.slice ta tn tc)) (by go_simp) ?_
  refine hK.out _ _ (⟨by rw [World.cell?_setCell_other] <;> first | exact j3 | simp [], by rw [World.cell?_setCell_other] <;> first | exact j4 | simp | (simp; omega)⟩) (fun hHeld => ?_)
  clear hK K
  try simp only [Act.put]
  refine wpAnyH_ready (rs := [20]) (by kernel_rfl) (by simp) ?_
  refine AllReadyH.cons (o := ⟨some 8, .assign (.tmp 96), _, _, _, none⟩) rfl (fun K hK => ?_) AllReadyH.nil
  go_simp
  refine hK.out _ _ (hHeld) (fun hHeld => ?_)
  clear hK K
  try simp only [Act.put, List.setIfInBounds_toArray, List.set_cons_zero, List.set_cons_succ]
  refine wpAnyH_done (by kernel_rfl) ?_ _
  have hF : Hid _ := fr_two ((below_box w _).drew) hf (Below.refl _ _).drew hf2
  simp only [At]
  go_wp2
  go_ret
  exact ⟨rfl, w3, ta, tn, tc, hM3, hF.out, rfl⟩
end Go.Proofs.YtdidjdoifpfmmaaGreatDoor
