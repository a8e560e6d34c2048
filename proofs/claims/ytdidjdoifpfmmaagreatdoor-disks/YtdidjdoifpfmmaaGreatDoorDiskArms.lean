import Derived.Test.YtdidjdoifpfmmaaGreatDoorGD6
import Derived.Test.YtdidjdoifpfmmaaGreatDoorGC1
import Derived.Test.YtdidjdoifpfmmaaGreatDoorGA5
import Derived.Deep.RegionHeld3
/- The arms of the statements' call of a disk, whatever disks are. -/
namespace Go.Proofs.YtdidjdoifpfmmaaGreatDoor
open Go.RowKit
theorem fr_cell {w w' : World} {bs : List Nat} (f : Fr w w' bs) {a : Addr} {v : Value} (h : w.cell? a = some v) (hn : a.block ∉ bs) : w'.cell? a = some v := by
  rw [World.cell?_of_block (f.block a.block (World.block_lt_of_cell? w _ h) hn)]; exact h
theorem fr_two {w w1 w2 w3 w4 : World} {dB rB : List Nat} (hb : Below w.heap.size w w1) (h1 : Fr w1 w2 dB) (h2 : Below w2.heap.size w2 w3) (h3 : Fr w3 w4 rB) : Fr w w4 (dB ++ rB) :=
  (((Fr.of_below hb (dB ++ rB)).trans h1 (by simp; intro x hx _; exact .inl hx)).trans (Fr.of_below h2 []) (by simp)).trans h3 (by simp; intro x hx _; exact .inr hx)
theorem below_box (w : World) (o : Obj) : Below w.heap.size w (w.alloc o) := (Below.refl _ _).alloc (Nat.le_refl _) _
set_option maxRecDepth 100000 in
set_option maxHeartbeats 1600000 in
theorem disk_write {w : World} (o : OpR) (hk : o.kind = 5) (p ga i dp rq : Nat) (c0 : w.cell? ⟨ga, i, none⟩ = some (.pointer (some ⟨dp, 0, none⟩))) (c1 : w.cell? ⟨ga, i + 1, none⟩ = some (.pointer (some ⟨rq, 0, none⟩)))
    (n : Int) (M M2 : World → Prop) (dB rB : List Nat) (hlt : ∀ x ∈ dB, x < w.heap.size) (hga : ga ∉ dB) (hlr : ∀ x ∈ rB, x < w.heap.size) (hgr : ga ∉ rB)
    (hD : ∀ w1, Below w.heap.size w w1 → Calls Tryz.prog 115 #[.pointer (some ⟨dp, 0, none⟩), .int .i64 o.a, .string o.s] w1 fun e w' => e = .returned (.int .i64 n) ∧ M w' ∧ Fr w1 w' dB)
    (hMd : ∀ w1, M w1 → M w1.drew)
    (hR : ∀ w1, M w1 → Calls Tryz.prog 116 #[.pointer (some ⟨rq, 0, none⟩), .int .i64 o.a, .string o.s] w1 fun e w' => e = .returned (.int .i64 n) ∧ M2 w' ∧ Fr w1 w' rB) :
    Calls Tryz.prog 72 #[.pointer (some ⟨p, 0, none⟩), .pointer (some ⟨ga, i, none⟩), OpR.agg o] w fun e w' => e = .returned (.bool true) ∧ M2 w' ∧ Fr w w' (dB ++ rB) := by
  unfold OpR.agg
  obtain ⟨k, a, b, d, s, t⟩ := o
  simp only at hk hD hR ⊢
  subst hk
  have lga : ga < w.heap.size := World.block_lt_of_cell? w _ c0
  have hbx : w.heap.size ∉ dB := fun h => Nat.lt_irrefl _ (hlt _ h)
  have hbr : w.heap.size ∉ rB := fun h => Nat.lt_irrefl _ (hlr _ h)
  have HD : Hid _ := hD
  have HM : Hid _ := hMd
  have HR : Hid _ := hR
  clear hD hMd hR
  go_enter Tryz.func72, Tryz.ntmps72
  go_wp2
  go_region_held3 (fun w' => w'.cell? ⟨ga, i, none⟩ = some (.pointer (some ⟨dp, 0, none⟩)) ∧ w'.cell? ⟨w.heap.size, 1, none⟩ = some (.int .i64 a) ∧ w'.cell? ⟨w.heap.size, 4, none⟩ = some (.string s)) ((first | exact ⟨k0, k1, k2⟩ | (go_split_ands; refine ⟨by go_keep, by go_keep, by go_keep⟩)))
    ((go_at_call 115; refine (HD.out _ ((below_box w _).drew)).mono ?_; rintro e w2 ⟨rfl, hM, hf⟩; have k3 : w2.cell? ⟨ga, i + 1, none⟩ = some (.pointer (some ⟨rq, 0, none⟩)) := fr_cell hf (by go_simp) hga; have k0 : w2.cell? ⟨ga, i, none⟩ = some (.pointer (some ⟨dp, 0, none⟩)) := fr_cell hf (by go_simp) hga; have k1 : w2.cell? ⟨w.heap.size, 1, none⟩ = some (.int .i64 a) := fr_cell hf (by go_simp) hbx; have k2 : w2.cell? ⟨w.heap.size, 4, none⟩ = some (.string s) := fr_cell hf (by go_simp) hbx))
  go_wp2
  have hM2 : Hid _ := HM.out _ hM
  go_region_held3 (fun w' => w'.cell? ⟨ga, i + 1, none⟩ = some (.pointer (some ⟨rq, 0, none⟩)) ∧ w'.cell? ⟨w.heap.size, 1, none⟩ = some (.int .i64 a) ∧ w'.cell? ⟨w.heap.size, 4, none⟩ = some (.string s)) ((first | exact ⟨j3, j1, j2⟩ | (go_split_ands; refine ⟨by go_keep, by go_keep, by go_keep⟩)))
    ((go_at_call 116; refine (HR.out _ hM2.out).mono ?_; rintro e w3 ⟨rfl, hM3, hf2⟩; have j3 : w3.cell? ⟨ga, i + 1, none⟩ = some (.pointer (some ⟨rq, 0, none⟩)) := fr_cell hf2 (by simpa using k3) hgr; have j1 : w3.cell? ⟨w.heap.size, 1, none⟩ = some (.int .i64 a) := fr_cell hf2 (by simpa using k1) hbr; have j2 : w3.cell? ⟨w.heap.size, 4, none⟩ = some (.string s) := fr_cell hf2 (by simpa using k2) hbr))
  have hF : Hid _ := fr_two ((below_box w _).drew) hf (Below.refl _ _).drew hf2
  clear hf hf2 k0 k1 k2 k3 j1 j2 j3
  go_wp2
  go_ret
  exact ⟨rfl, hM3, hF.out⟩
set_option maxRecDepth 100000 in
set_option maxHeartbeats 1600000 in
theorem disk_read {w : World} (o : OpR) (hk : o.kind = 4) (p ga i dp rq : Nat) (c0 : w.cell? ⟨ga, i, none⟩ = some (.pointer (some ⟨dp, 0, none⟩))) (c1 : w.cell? ⟨ga, i + 1, none⟩ = some (.pointer (some ⟨rq, 0, none⟩)))
    (n : Int) (x : ByteArray) (M M2 : World → Prop) (dB rB : List Nat) (hlt : ∀ x ∈ dB, x < w.heap.size) (hga : ga ∉ dB) (hlr : ∀ x ∈ rB, x < w.heap.size) (hgr : ga ∉ rB)
    (hD : ∀ w1, Below w.heap.size w w1 → Calls Tryz.prog 63 #[.pointer (some ⟨dp, 0, none⟩), .int .i64 o.a] w1 fun e w' => e = .returned (.tuple #[.string x, .int .i64 n]) ∧ M w' ∧ Fr w1 w' dB)
    (hMd : ∀ w1, M w1 → M w1.drew)
    (hR : ∀ w1, M w1 → Calls Tryz.prog 114 #[.pointer (some ⟨rq, 0, none⟩), .int .i64 o.a] w1 fun e w' => e = .returned (.tuple #[.string x, .int .i64 n]) ∧ M2 w' ∧ Fr w1 w' rB) :
    Calls Tryz.prog 72 #[.pointer (some ⟨p, 0, none⟩), .pointer (some ⟨ga, i, none⟩), OpR.agg o] w fun e w' => e = .returned (.bool true) ∧ M2 w' ∧ Fr w w' (dB ++ rB) := by
  unfold OpR.agg
  obtain ⟨k, a, b, d, s, t⟩ := o
  simp only at hk hD hR ⊢
  subst hk
  have lga : ga < w.heap.size := World.block_lt_of_cell? w _ c0
  have hbx : w.heap.size ∉ dB := fun h => Nat.lt_irrefl _ (hlt _ h)
  have hbr : w.heap.size ∉ rB := fun h => Nat.lt_irrefl _ (hlr _ h)
  have HD : Hid _ := hD
  have HM : Hid _ := hMd
  have HR : Hid _ := hR
  clear hD hMd hR
  go_enter Tryz.func72, Tryz.ntmps72
  go_wp2
  go_region_held3 (fun w' => w'.cell? ⟨ga, i, none⟩ = some (.pointer (some ⟨dp, 0, none⟩)) ∧ w'.cell? ⟨w.heap.size, 1, none⟩ = some (.int .i64 a)) ((first | exact ⟨k0, k1⟩ | (go_split_ands; refine ⟨by go_keep, by go_keep⟩)))
    ((go_at_call 63; refine (HD.out _ ((below_box w _).drew)).mono ?_; rintro e w2 ⟨rfl, hM, hf⟩; have k3 : w2.cell? ⟨ga, i + 1, none⟩ = some (.pointer (some ⟨rq, 0, none⟩)) := fr_cell hf (by go_simp) hga; have k0 : w2.cell? ⟨ga, i, none⟩ = some (.pointer (some ⟨dp, 0, none⟩)) := fr_cell hf (by go_simp) hga; have k1 : w2.cell? ⟨w.heap.size, 1, none⟩ = some (.int .i64 a) := fr_cell hf (by go_simp) hbx; have k2 : w2.cell? ⟨w.heap.size, 4, none⟩ = some (.string s) := fr_cell hf (by go_simp) hbx))
  go_wp2
  have hM2 : Hid _ := HM.out _ hM
  go_region_held3 (fun w' => w'.cell? ⟨ga, i + 1, none⟩ = some (.pointer (some ⟨rq, 0, none⟩)) ∧ w'.cell? ⟨w.heap.size, 1, none⟩ = some (.int .i64 a)) ((first | exact ⟨j3, j1⟩ | (go_split_ands; refine ⟨by go_keep, by go_keep⟩)))
    ((go_at_call 114; refine (HR.out _ hM2.out).mono ?_; rintro e w3 ⟨rfl, hM3, hf2⟩; have j3 : w3.cell? ⟨ga, i + 1, none⟩ = some (.pointer (some ⟨rq, 0, none⟩)) := fr_cell hf2 (by simpa using k3) hgr; have j1 : w3.cell? ⟨w.heap.size, 1, none⟩ = some (.int .i64 a) := fr_cell hf2 (by simpa using k1) hbr; have j2 : w3.cell? ⟨w.heap.size, 4, none⟩ = some (.string s) := fr_cell hf2 (by simpa using k2) hbr))
  have hF : Hid _ := fr_two ((below_box w _).drew) hf (Below.refl _ _).drew hf2
  clear hf hf2 k0 k1 k2 k3 j1 j2 j3
  go_wp2
  go_ret
  exact ⟨rfl, hM3, hF.out⟩
set_option maxRecDepth 100000 in
set_option maxHeartbeats 1600000 in
theorem disk_fuse {w : World} (o : OpR) (hk : o.kind = 7) (p ga i dp rq : Nat) (c0 : w.cell? ⟨ga, i, none⟩ = some (.pointer (some ⟨dp, 0, none⟩))) (c1 : w.cell? ⟨ga, i + 1, none⟩ = some (.pointer (some ⟨rq, 0, none⟩)))
    (M M2 : World → Prop) (dB rB : List Nat) (hlt : ∀ x ∈ dB, x < w.heap.size) (hga : ga ∉ dB) (hlr : ∀ x ∈ rB, x < w.heap.size) (hgr : ga ∉ rB)
    (hD : ∀ w1, Below w.heap.size w w1 → Calls Tryz.prog 32 #[.pointer (some ⟨dp, 0, none⟩), .int .i64 o.a] w1 fun e w' => e = .returned (.tuple #[]) ∧ M w' ∧ Fr w1 w' dB)
    (hMd : ∀ w1, M w1 → M w1.drew)
    (hR : ∀ w1, M w1 → Calls Tryz.prog 119 #[.pointer (some ⟨rq, 0, none⟩), .int .i64 o.a] w1 fun e w' => e = .returned (.tuple #[]) ∧ M2 w' ∧ Fr w1 w' rB) :
    Calls Tryz.prog 72 #[.pointer (some ⟨p, 0, none⟩), .pointer (some ⟨ga, i, none⟩), OpR.agg o] w fun e w' => e = .returned (.bool true) ∧ M2 w' ∧ Fr w w' (dB ++ rB) := by
  unfold OpR.agg
  obtain ⟨k, a, b, d, s, t⟩ := o
  simp only at hk hD hR ⊢
  subst hk
  have lga : ga < w.heap.size := World.block_lt_of_cell? w _ c0
  have hbx : w.heap.size ∉ dB := fun h => Nat.lt_irrefl _ (hlt _ h)
  have hbr : w.heap.size ∉ rB := fun h => Nat.lt_irrefl _ (hlr _ h)
  have HD : Hid _ := hD
  have HM : Hid _ := hMd
  have HR : Hid _ := hR
  clear hD hMd hR
  go_enter Tryz.func72, Tryz.ntmps72
  go_wp2
  go_region_held3 (fun w' => w'.cell? ⟨ga, i, none⟩ = some (.pointer (some ⟨dp, 0, none⟩)) ∧ w'.cell? ⟨w.heap.size, 1, none⟩ = some (.int .i64 a)) ((first | exact ⟨k0, k1⟩ | (go_split_ands; refine ⟨by go_keep, by go_keep⟩)))
    ((go_at_call 32; refine (HD.out _ ((below_box w _).drew)).mono ?_; rintro e w2 ⟨rfl, hM, hf⟩; have k3 : w2.cell? ⟨ga, i + 1, none⟩ = some (.pointer (some ⟨rq, 0, none⟩)) := fr_cell hf (by go_simp) hga; have k0 : w2.cell? ⟨ga, i, none⟩ = some (.pointer (some ⟨dp, 0, none⟩)) := fr_cell hf (by go_simp) hga; have k1 : w2.cell? ⟨w.heap.size, 1, none⟩ = some (.int .i64 a) := fr_cell hf (by go_simp) hbx; have k2 : w2.cell? ⟨w.heap.size, 4, none⟩ = some (.string s) := fr_cell hf (by go_simp) hbx))
  go_wp2
  have hM2 : Hid _ := HM.out _ hM
  go_region_held3 (fun w' => w'.cell? ⟨ga, i + 1, none⟩ = some (.pointer (some ⟨rq, 0, none⟩)) ∧ w'.cell? ⟨w.heap.size, 1, none⟩ = some (.int .i64 a)) ((first | exact ⟨j3, j1⟩ | (go_split_ands; refine ⟨by go_keep, by go_keep⟩)))
    ((go_at_call 119; refine (HR.out _ hM2.out).mono ?_; rintro e w3 ⟨rfl, hM3, hf2⟩; have j3 : w3.cell? ⟨ga, i + 1, none⟩ = some (.pointer (some ⟨rq, 0, none⟩)) := fr_cell hf2 (by simpa using k3) hgr; have j1 : w3.cell? ⟨w.heap.size, 1, none⟩ = some (.int .i64 a) := fr_cell hf2 (by simpa using k1) hbr; have j2 : w3.cell? ⟨w.heap.size, 4, none⟩ = some (.string s) := fr_cell hf2 (by simpa using k2) hbr))
  have hF : Hid _ := fr_two ((below_box w _).drew) hf (Below.refl _ _).drew hf2
  clear hf hf2 k0 k1 k2 k3 j1 j2 j3
  go_wp2
  go_ret
  exact ⟨rfl, hM3, hF.out⟩
set_option maxRecDepth 100000 in
set_option maxHeartbeats 1600000 in
theorem disk_flush {w : World} (o : OpR) (hk : o.kind = 6) (p ga i dp rq : Nat) (c0 : w.cell? ⟨ga, i, none⟩ = some (.pointer (some ⟨dp, 0, none⟩))) (c1 : w.cell? ⟨ga, i + 1, none⟩ = some (.pointer (some ⟨rq, 0, none⟩)))
    (n : Int) (M M2 : World → Prop) (dB rB : List Nat) (hlt : ∀ x ∈ dB, x < w.heap.size) (hga : ga ∉ dB) (hlr : ∀ x ∈ rB, x < w.heap.size) (_hgr : ga ∉ rB)
    (hD : ∀ w1, Below w.heap.size w w1 → Calls Tryz.prog 117 #[.pointer (some ⟨dp, 0, none⟩)] w1 fun e w' => e = .returned (.int .i64 n) ∧ M w' ∧ Fr w1 w' dB)
    (hMd : ∀ w1, M w1 → M w1.drew)
    (hR : ∀ w1, M w1 → Calls Tryz.prog 118 #[.pointer (some ⟨rq, 0, none⟩)] w1 fun e w' => e = .returned (.int .i64 n) ∧ M2 w' ∧ Fr w1 w' rB) :
    Calls Tryz.prog 72 #[.pointer (some ⟨p, 0, none⟩), .pointer (some ⟨ga, i, none⟩), OpR.agg o] w fun e w' => e = .returned (.bool true) ∧ M2 w' ∧ Fr w w' (dB ++ rB) := by
  unfold OpR.agg
  obtain ⟨k, a, b, d, s, t⟩ := o
  simp only at hk hD hR ⊢
  subst hk
  have lga : ga < w.heap.size := World.block_lt_of_cell? w _ c0
  have hbx : w.heap.size ∉ dB := fun h => Nat.lt_irrefl _ (hlt _ h)
  have hbr : w.heap.size ∉ rB := fun h => Nat.lt_irrefl _ (hlr _ h)
  have HD : Hid _ := hD
  have HM : Hid _ := hMd
  have HR : Hid _ := hR
  clear hD hMd hR
  go_enter Tryz.func72, Tryz.ntmps72
  go_wp2_with (first
    | (go_at_call 117; refine (HD.out _ (below_box w _)).mono ?_; rintro e w2 ⟨rfl, hM, hf⟩; have k3 : w2.cell? ⟨ga, i + 1, none⟩ = some (.pointer (some ⟨rq, 0, none⟩)) := fr_cell hf (by go_simp) hga)
    | (go_at_call 118; refine (HR.out _ hM).mono ?_; rintro e w3 ⟨rfl, hM3, hf2⟩))
  have hF : Hid _ := fr_two (below_box w _) hf (Below.refl _ _) hf2
  go_ret
  exact ⟨rfl, hM3, hF.out⟩
end Go.Proofs.YtdidjdoifpfmmaaGreatDoor
