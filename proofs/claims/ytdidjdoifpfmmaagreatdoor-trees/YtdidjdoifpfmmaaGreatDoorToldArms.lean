import Derived.Test.YtdidjdoifpfmmaaGreatDoorGT18
/- The arms of the statements' Read and List, whatever archives are. -/
namespace Go.Proofs.YtdidjdoifpfmmaaGreatDoor
open Go.RowKit
set_option maxRecDepth 100000 in
set_option maxHeartbeats 1600000 in
theorem told_get {w : World} (o : OpR) (hk : o.kind = 19) (p ga i aq bq : Nat) (c2 : w.cell? ⟨ga, i + 2, none⟩ = some (.pointer (some ⟨aq, 0, none⟩))) (c3 : w.cell? ⟨ga, i + 3, none⟩ = some (.pointer (some ⟨bq, 0, none⟩)))
    (x : ByteArray) (n at1 at2 : Int) (hc : n ≠ 4 ∨ at1 = at2) (M M2 : World → Prop) (dB rB : List Nat) (hlt : ∀ x ∈ dB, x < w.heap.size) (hga : ga ∉ dB) (hlr : ∀ x ∈ rB, x < w.heap.size) (hgr : ga ∉ rB)
    (hD : ∀ w1, Below w.heap.size w w1 → Calls Tryz.prog 51 #[.pointer (some ⟨aq, 0, none⟩), .int .i64 o.a, .string o.s] w1 fun e w' => e = .returned (.tuple #[.string x, .int .i64 n, .int .i64 at1]) ∧ M w' ∧ Fr w1 w' dB)
    (hMd : ∀ w1, M w1 → M w1.drew)
    (hR : ∀ w1, M w1 → Calls Tryz.prog 131 #[.pointer (some ⟨bq, 0, none⟩), .int .i64 o.a, .string o.s] w1 fun e w' => e = .returned (.tuple #[.string x, .int .i64 n, .int .i64 at2]) ∧ M2 w' ∧ Fr w1 w' rB) :
    Calls Tryz.prog 76 #[.pointer (some ⟨p, 0, none⟩), .pointer (some ⟨ga, i, none⟩), OpR.agg o] w fun e w' => e = .returned (.bool true) ∧ M2 w' ∧ Fr w w' (dB ++ rB) := by
  unfold OpR.agg
  obtain ⟨k, a, b, d, s, t⟩ := o
  simp only at hk hD hR ⊢
  subst hk
  have lga : ga < w.heap.size := World.block_lt_of_cell? w _ c2
  have hbx : w.heap.size ∉ dB := fun h => Nat.lt_irrefl _ (hlt _ h)
  have hbr : w.heap.size ∉ rB := fun h => Nat.lt_irrefl _ (hlr _ h)
  have HD : Hid _ := hD
  have HM : Hid _ := hMd
  have HR : Hid _ := hR
  have HC : Hid _ := hc
  clear hD hMd hR hc
  have hbx2 : (x.toList == x.toList) = true := by simp
  go_enter Tryz.func76, Tryz.ntmps76
  go_wp2
  go_region_held3 (fun w' => w'.cell? ⟨ga, i + 2, none⟩ = some (.pointer (some ⟨aq, 0, none⟩)) ∧ w'.cell? ⟨w.heap.size, 1, none⟩ = some (.int .i64 a) ∧ w'.cell? ⟨w.heap.size, 4, none⟩ = some (.string s)) ((first | exact ⟨k0, k1, k2⟩ | (go_split_ands; refine ⟨by go_keep, by go_keep, by go_keep⟩)))
    ((go_at_call 51; refine (HD.out _ ((below_box w _).drew)).mono ?_; rintro e w2 ⟨rfl, hM, hf⟩; have k3 : w2.cell? ⟨ga, i + 3, none⟩ = some (.pointer (some ⟨bq, 0, none⟩)) := fr_cell hf (by go_simp) hga; have k0 : w2.cell? ⟨ga, i + 2, none⟩ = some (.pointer (some ⟨aq, 0, none⟩)) := fr_cell hf (by go_simp) hga; have k1 : w2.cell? ⟨w.heap.size, 1, none⟩ = some (.int .i64 a) := fr_cell hf (by go_simp) hbx; have k2 : w2.cell? ⟨w.heap.size, 4, none⟩ = some (.string s) := fr_cell hf (by go_simp) hbx))
  go_wp2
  have hM2 : Hid _ := HM.out _ hM
  go_region_held3 (fun w' => w'.cell? ⟨ga, i + 3, none⟩ = some (.pointer (some ⟨bq, 0, none⟩)) ∧ w'.cell? ⟨w.heap.size, 1, none⟩ = some (.int .i64 a) ∧ w'.cell? ⟨w.heap.size, 4, none⟩ = some (.string s)) ((first | exact ⟨j3, j1, j2⟩ | (go_split_ands; refine ⟨by go_keep, by go_keep, by go_keep⟩)))
    ((go_at_call 131; refine (HR.out _ hM2.out).mono ?_; rintro e w3 ⟨rfl, hM3, hf2⟩; have j3 : w3.cell? ⟨ga, i + 3, none⟩ = some (.pointer (some ⟨bq, 0, none⟩)) := fr_cell hf2 (by simpa using k3) hgr; have j1 : w3.cell? ⟨w.heap.size, 1, none⟩ = some (.int .i64 a) := fr_cell hf2 (by simpa using k1) hbr; have j2 : w3.cell? ⟨w.heap.size, 4, none⟩ = some (.string s) := fr_cell hf2 (by simpa using k2) hbr))
  have hF : Hid _ := fr_two ((below_box w _).drew) hf (Below.refl _ _).drew hf2
  clear hf hf2 k0 k1 k2 k3 j1 j2 j3
  by_cases h4 : n = 4
  · subst h4
    have e1 : at1 = at2 := HC.out.resolve_left (fun h => h rfl)
    subst e1
    go_wp2
    go_ret
    exact ⟨rfl, hM3, hF.out⟩
  · have h5 : (n != 4) = true := by simpa using h4
    go_wp2
    go_ret
    exact ⟨rfl, hM3, hF.out⟩
set_option maxRecDepth 100000 in
set_option maxHeartbeats 1600000 in
theorem told_list_err {w : World} (o : OpR) (hk : o.kind = 20) (p ga i aq bq : Nat) (c2 : w.cell? ⟨ga, i + 2, none⟩ = some (.pointer (some ⟨aq, 0, none⟩))) (c3 : w.cell? ⟨ga, i + 3, none⟩ = some (.pointer (some ⟨bq, 0, none⟩)))
    (n at1 at2 : Int) (hn : n ≠ 0) (hc : n ≠ 4 ∨ at1 = at2) (M M2 : World → Prop) (dB rB : List Nat) (hlt : ∀ x ∈ dB, x < w.heap.size) (hga : ga ∉ dB) (hlr : ∀ x ∈ rB, x < w.heap.size) (hgr : ga ∉ rB)
    (hD : ∀ w1, Below w.heap.size w w1 → Calls Tryz.prog 28 #[.pointer (some ⟨aq, 0, none⟩), .int .i64 o.a, .string o.s, .int .i64 o.b] w1 fun e w' => e = .returned (.tuple #[.slice none 0 0, .int .i64 n, .int .i64 at1, .bool false]) ∧ M w' ∧ Fr w1 w' dB)
    (hMd : ∀ w1, M w1 → M w1.drew)
    (hR : ∀ w1, M w1 → Calls Tryz.prog 133 #[.pointer (some ⟨bq, 0, none⟩), .int .i64 o.a, .string o.s] w1 fun e w' => e = .returned (.tuple #[.slice none 0 0, .int .i64 n, .int .i64 at2]) ∧ M2 w' ∧ Fr w1 w' rB) :
    Calls Tryz.prog 76 #[.pointer (some ⟨p, 0, none⟩), .pointer (some ⟨ga, i, none⟩), OpR.agg o] w fun e w' => e = .returned (.bool true) ∧ M2 w' ∧ Fr w w' (dB ++ rB) := by
  unfold OpR.agg
  obtain ⟨k, a, b, d, s, t⟩ := o
  simp only at hk hD hR ⊢
  subst hk
  have lga : ga < w.heap.size := World.block_lt_of_cell? w _ c2
  have hbx : w.heap.size ∉ dB := fun h => Nat.lt_irrefl _ (hlt _ h)
  have hbr : w.heap.size ∉ rB := fun h => Nat.lt_irrefl _ (hlr _ h)
  have HD : Hid _ := hD
  have HM : Hid _ := hMd
  have HR : Hid _ := hR
  have HC : Hid _ := hc
  clear hD hMd hR hc
  have hn2 : (n != 0) = true := by simpa using hn
  go_enter Tryz.func76, Tryz.ntmps76
  go_wp2
  go_region_held3 (fun w' => w'.cell? ⟨ga, i + 2, none⟩ = some (.pointer (some ⟨aq, 0, none⟩)) ∧ w'.cell? ⟨w.heap.size, 1, none⟩ = some (.int .i64 a) ∧ w'.cell? ⟨w.heap.size, 4, none⟩ = some (.string s) ∧ w'.cell? ⟨w.heap.size, 2, none⟩ = some (.int .i64 b)) ((first | exact ⟨k0, k1, k2, k4⟩ | (go_split_ands; refine ⟨by go_keep, by go_keep, by go_keep, by go_keep⟩)))
    ((go_at_call 28; refine (HD.out _ ((below_box w _).drew)).mono ?_; rintro e w2 ⟨rfl, hM, hf⟩; have k3 : w2.cell? ⟨ga, i + 3, none⟩ = some (.pointer (some ⟨bq, 0, none⟩)) := fr_cell hf (by go_simp) hga; have k0 : w2.cell? ⟨ga, i + 2, none⟩ = some (.pointer (some ⟨aq, 0, none⟩)) := fr_cell hf (by go_simp) hga; have k1 : w2.cell? ⟨w.heap.size, 1, none⟩ = some (.int .i64 a) := fr_cell hf (by go_simp) hbx; have k2 : w2.cell? ⟨w.heap.size, 4, none⟩ = some (.string s) := fr_cell hf (by go_simp) hbx; have k4 : w2.cell? ⟨w.heap.size, 2, none⟩ = some (.int .i64 b) := fr_cell hf (by go_simp) hbx))
  go_wp2
  have hM2 : Hid _ := HM.out _ hM
  go_region_held3 (fun w' => w'.cell? ⟨ga, i + 3, none⟩ = some (.pointer (some ⟨bq, 0, none⟩)) ∧ w'.cell? ⟨w.heap.size, 1, none⟩ = some (.int .i64 a) ∧ w'.cell? ⟨w.heap.size, 4, none⟩ = some (.string s)) ((first | exact ⟨j3, j1, j2⟩ | (go_split_ands; refine ⟨by go_keep, by go_keep, by go_keep⟩)))
    ((go_at_call 133; refine (HR.out _ hM2.out).mono ?_; rintro e w3 ⟨rfl, hM3, hf2⟩; have j3 : w3.cell? ⟨ga, i + 3, none⟩ = some (.pointer (some ⟨bq, 0, none⟩)) := fr_cell hf2 (by simpa using k3) hgr; have j1 : w3.cell? ⟨w.heap.size, 1, none⟩ = some (.int .i64 a) := fr_cell hf2 (by simpa using k1) hbr; have j2 : w3.cell? ⟨w.heap.size, 4, none⟩ = some (.string s) := fr_cell hf2 (by simpa using k2) hbr))
  have hF : Hid _ := fr_two ((below_box w _).drew) hf (Below.refl _ _).drew hf2
  clear hf hf2 k0 k1 k2 k3 k4 j1 j2 j3
  by_cases h4 : n = 4
  · subst h4
    have e1 : at1 = at2 := HC.out.resolve_left (fun h => h rfl)
    subst e1
    go_wp2
    go_ret
    exact ⟨rfl, hM3, hF.out⟩
  · have h5 : (n != 4) = true := by simpa using h4
    go_wp2
    go_ret
    exact ⟨rfl, hM3, hF.out⟩
end Go.Proofs.YtdidjdoifpfmmaaGreatDoor
