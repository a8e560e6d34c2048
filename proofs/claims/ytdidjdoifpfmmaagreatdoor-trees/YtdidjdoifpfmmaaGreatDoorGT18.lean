import Derived.Test.YtdidjdoifpfmmaaGreatDoorGT17
import Derived.Test.YtdidjdoifpfmmaaGreatDoorGT5
import Derived.Test.YtdidjdoifpfmmaaGreatDoorGT4
import Derived.Test.YtdidjdoifpfmmaaGreatDoorGT3
import Derived.Deep.RegionHeld3
import Derived.Test.YtdidjdoifpfmmaaGreatDoorGT9
import Derived.Deep.QuietTactic
import Derived.BigQuiet
import Derived.WalkSmall
/- The arms of the statements' call of a disk, whatever disks are. -/
namespace Go.Proofs.YtdidjdoifpfmmaaGreatDoor
open Go.RowKit
theorem fr_cell {w w' : World} {bs : List Nat} (f : Fr w w' bs) {a : Addr} {v : Value} (h : w.cell? a = some v) (hn : a.block ∉ bs) : w'.cell? a = some v := by
  rw [World.cell?_of_block (f.block a.block (World.block_lt_of_cell? w _ h) hn)]; exact h
theorem fr_two {w w1 w2 w3 w4 : World} {dB rB : List Nat} (hb : Below w.heap.size w w1) (h1 : Fr w1 w2 dB) (h2 : Below w2.heap.size w2 w3) (h3 : Fr w3 w4 rB) : Fr w w4 (dB ++ rB) :=
  (((Fr.of_below hb (dB ++ rB)).trans h1 (by simp; intro x hx _; exact .inl hx)).trans (Fr.of_below h2 []) (by simp)).trans h3 (by simp; intro x hx _; exact .inr hx)
theorem below_box (w : World) (o : Obj) : Below w.heap.size w (w.alloc o) := (Below.refl _ _).alloc (Nat.le_refl _) _
set_option maxRecDepth 100000 in
set_option maxHeartbeats 1600000 in
theorem disk_write {w : World} (o : OpR) (hk : o.kind = 5) (p ga i dp rq : Nat) (c0 : w.cell? ⟨ga, i, none⟩ = some (.pointer (some ⟨dp, 0, none⟩))) (c1 : w.cell? ⟨ga, i + 1, none⟩ = some (.pointer (some ⟨rq, 0, none⟩)))
    (n : Int) (M M2 : World → Prop) (dB rB : List Nat) (hlt : ∀ x ∈ dB, x < w.heap.size) (hga : ga ∉ dB) (hlr : ∀ x ∈ rB, x < w.heap.size) (hgr : ga ∉ rB)
    (hD : ∀ w1, Below w.heap.size w w1 → Calls Tryz.prog 115 #[.pointer (some ⟨dp, 0, none⟩), .int .i64 o.a, .string o.s] w1 fun e w' => e = .returned (.int .i64 n) ∧ M w' ∧ Fr w1 w' dB)
    (hMd : ∀ w1, M w1 → M w1.drew)
    (hR : ∀ w1, M w1 → Calls Tryz.prog 116 #[.pointer (some ⟨rq, 0, none⟩), .int .i64 o.a, .string o.s] w1 fun e w' => e = .returned (.int .i64 n) ∧ M2 w' ∧ Fr w1 w' rB) :
    Calls Tryz.prog 72 #[.pointer (some ⟨p, 0, none⟩), .pointer (some ⟨ga, i, none⟩), OpR.agg o] w fun e w' => e = .returned (.bool true) ∧ M2 w' ∧ Fr w w' (dB ++ rB) := by
  unfold OpR.agg
  obtain ⟨k, a, b, d, s, t⟩ := o
  simp only at hk hD hR ⊢
  subst hk
  have lga : ga < w.heap.size := World.block_lt_of_cell? w _ c0
  have hbx : w.heap.size ∉ dB := fun h => Nat.lt_irrefl _ (hlt _ h)
  have hbr : w.heap.size ∉ rB := fun h => Nat.lt_irrefl _ (hlr _ h)
  have HD : Hid _ := hD
  have HM : Hid _ := hMd
  have HR : Hid _ := hR
  clear hD hMd hR
  go_enter Tryz.func72, Tryz.ntmps72
  go_wp2
  go_region_held3 (fun w' => w'.cell? ⟨ga, i, none⟩ = some (.pointer (some ⟨dp, 0, none⟩)) ∧ w'.cell? ⟨w.heap.size, 1, none⟩ = some (.int .i64 a) ∧ w'.cell? ⟨w.heap.size, 4, none⟩ = some (.string s)) ((first | exact ⟨k0, k1, k2⟩ | (go_split_ands; refine ⟨by go_keep, by go_keep, by go_keep⟩)))
    ((go_at_call 115; refine (HD.out _ ((below_box w _).drew)).mono ?_; rintro e w2 ⟨rfl, hM, hf⟩; have k3 : w2.cell? ⟨ga, i + 1, none⟩ = some (.pointer (some ⟨rq, 0, none⟩)) := fr_cell hf (by go_simp) hga; have k0 : w2.cell? ⟨ga, i, none⟩ = some (.pointer (some ⟨dp, 0, none⟩)) := fr_cell hf (by go_simp) hga; have k1 : w2.cell? ⟨w.heap.size, 1, none⟩ = some (.int .i64 a) := fr_cell hf (by go_simp) hbx; have k2 : w2.cell? ⟨w.heap.size, 4, none⟩ = some (.string s) := fr_cell hf (by go_simp) hbx))
  go_wp2
  have hM2 : Hid _ := HM.out _ hM
  go_region_held3 (fun w' => w'.cell? ⟨ga, i + 1, none⟩ = some (.pointer (some ⟨rq, 0, none⟩)) ∧ w'.cell? ⟨w.heap.size, 1, none⟩ = some (.int .i64 a) ∧ w'.cell? ⟨w.heap.size, 4, none⟩ = some (.string s)) ((first | exact ⟨j3, j1, j2⟩ | (go_split_ands; refine ⟨by go_keep, by go_keep, by go_keep⟩)))
    ((go_at_call 116; refine (HR.out _ hM2.out).mono ?_; rintro e w3 ⟨rfl, hM3, hf2⟩; have j3 : w3.cell? ⟨ga, i + 1, none⟩ = some (.pointer (some ⟨rq, 0, none⟩)) := fr_cell hf2 (by simpa using k3) hgr; have j1 : w3.cell? ⟨w.heap.size, 1, none⟩ = some (.int .i64 a) := fr_cell hf2 (by simpa using k1) hbr; have j2 : w3.cell? ⟨w.heap.size, 4, none⟩ = some (.string s) := fr_cell hf2 (by simpa using k2) hbr))
  have hF : Hid _ := fr_two ((below_box w _).drew) hf (Below.refl _ _).drew hf2
  clear hf hf2 k0 k1 k2 k3 j1 j2 j3
  go_wp2
  go_ret
  exact ⟨rfl, hM3, hF.out⟩
set_option maxRecDepth 100000 in
set_option maxHeartbeats 1600000 in
theorem disk_read {w : World} (o : OpR) (hk : o.kind = 4) (p ga i dp rq : Nat) (c0 : w.cell? ⟨ga, i, none⟩ = some (.pointer (some ⟨dp, 0, none⟩))) (c1 : w.cell? ⟨ga, i + 1, none⟩ = some (.pointer (some ⟨rq, 0, none⟩)))
    (n : Int) (x : ByteArray) (M M2 : World → Prop) (dB rB : List Nat) (hlt : ∀ x ∈ dB, x < w.heap.size) (hga : ga ∉ dB) (hlr : ∀ x ∈ rB, x < w.heap.size) (hgr : ga ∉ rB)
    (hD : ∀ w1, Below w.heap.size w w1 → Calls Tryz.prog 63 #[.pointer (some ⟨dp, 0, none⟩), .int .i64 o.a] w1 fun e w' => e = .returned (.tuple #[.string x, .int .i64 n]) ∧ M w' ∧ Fr w1 w' dB)
    (hMd : ∀ w1, M w1 → M w1.drew)
    (hR : ∀ w1, M w1 → Calls Tryz.prog 114 #[.pointer (some ⟨rq, 0, none⟩), .int .i64 o.a] w1 fun e w' => e = .returned (.tuple #[.string x, .int .i64 n]) ∧ M2 w' ∧ Fr w1 w' rB) :
    Calls Tryz.prog 72 #[.pointer (some ⟨p, 0, none⟩), .pointer (some ⟨ga, i, none⟩), OpR.agg o] w fun e w' => e = .returned (.bool true) ∧ M2 w' ∧ Fr w w' (dB ++ rB) := by
  unfold OpR.agg
  obtain ⟨k, a, b, d, s, t⟩ := o
  simp only at hk hD hR ⊢
  subst hk
  have lga : ga < w.heap.size := World.block_lt_of_cell? w _ c0
  have hbx : w.heap.size ∉ dB := fun h => Nat.lt_irrefl _ (hlt _ h)
  have hbr : w.heap.size ∉ rB := fun h => Nat.lt_irrefl _ (hlr _ h)
  have HD : Hid _ := hD
  have HM : Hid _ := hMd
  have HR : Hid _ := hR
  clear hD hMd hR
  go_enter Tryz.func72, Tryz.ntmps72
  go_wp2
  go_region_held3 (fun w' => w'.cell? ⟨ga, i, none⟩ = some (.pointer (some ⟨dp, 0, none⟩)) ∧ w'.cell? ⟨w.heap.size, 1, none⟩ = some (.int .i64 a)) ((first | exact ⟨k0, k1⟩ | (go_split_ands; refine ⟨by go_keep, by go_keep⟩)))
    ((go_at_call 63; refine (HD.out _ ((below_box w _).drew)).mono ?_; rintro e w2 ⟨rfl, hM, hf⟩; have k3 : w2.cell? ⟨ga, i + 1, none⟩ = some (.pointer (some ⟨rq, 0, none⟩)) := fr_cell hf (by go_simp) hga; have k0 : w2.cell? ⟨ga, i, none⟩ = some (.pointer (some ⟨dp, 0, none⟩)) := fr_cell hf (by go_simp) hga; have k1 : w2.cell? ⟨w.heap.size, 1, none⟩ = some (.int .i64 a) := fr_cell hf (by go_simp) hbx; have k2 : w2.cell? ⟨w.heap.size, 4, none⟩ = some (.string s) := fr_cell hf (by go_simp) hbx))
  go_wp2
  have hM2 : Hid _ := HM.out _ hM
  go_region_held3 (fun w' => w'.cell? ⟨ga, i + 1, none⟩ = some (.pointer (some ⟨rq, 0, none⟩)) ∧ w'.cell? ⟨w.heap.size, 1, none⟩ = some (.int .i64 a)) ((first | exact ⟨j3, j1⟩ | (go_split_ands; refine ⟨by go_keep, by go_keep⟩)))
    ((go_at_call 114; refine (HR.out _ hM2.out).mono ?_; rintro e w3 ⟨rfl, hM3, hf2⟩; have j3 : w3.cell? ⟨ga, i + 1, none⟩ = some (.pointer (some ⟨rq, 0, none⟩)) := fr_cell hf2 (by simpa using k3) hgr; have j1 : w3.cell? ⟨w.heap.size, 1, none⟩ = some (.int .i64 a) := fr_cell hf2 (by simpa using k1) hbr; have j2 : w3.cell? ⟨w.heap.size, 4, none⟩ = some (.string s) := fr_cell hf2 (by simpa using k2) hbr))
  have hF : Hid _ := fr_two ((below_box w _).drew) hf (Below.refl _ _).drew hf2
  clear hf hf2 k0 k1 k2 k3 j1 j2 j3
  go_wp2
  go_ret
  exact ⟨rfl, hM3, hF.out⟩
set_option maxRecDepth 100000 in
set_option maxHeartbeats 1600000 in
theorem disk_fuse {w : World} (o : OpR) (hk : o.kind = 7) (p ga i dp rq : Nat) (c0 : w.cell? ⟨ga, i, none⟩ = some (.pointer (some ⟨dp, 0, none⟩))) (c1 : w.cell? ⟨ga, i + 1, none⟩ = some (.pointer (some ⟨rq, 0, none⟩)))
    (M M2 : World → Prop) (dB rB : List Nat) (hlt : ∀ x ∈ dB, x < w.heap.size) (hga : ga ∉ dB) (hlr : ∀ x ∈ rB, x < w.heap.size) (hgr : ga ∉ rB)
    (hD : ∀ w1, Below w.heap.size w w1 → Calls Tryz.prog 32 #[.pointer (some ⟨dp, 0, none⟩), .int .i64 o.a] w1 fun e w' => e = .returned (.tuple #[]) ∧ M w' ∧ Fr w1 w' dB)
    (hMd : ∀ w1, M w1 → M w1.drew)
    (hR : ∀ w1, M w1 → Calls Tryz.prog 119 #[.pointer (some ⟨rq, 0, none⟩), .int .i64 o.a] w1 fun e w' => e = .returned (.tuple #[]) ∧ M2 w' ∧ Fr w1 w' rB) :
    Calls Tryz.prog 72 #[.pointer (some ⟨p, 0, none⟩), .pointer (some ⟨ga, i, none⟩), OpR.agg o] w fun e w' => e = .returned (.bool true) ∧ M2 w' ∧ Fr w w' (dB ++ rB) := by
  unfold OpR.agg
  obtain ⟨k, a, b, d, s, t⟩ := o
  simp only at hk hD hR ⊢
  subst hk
  have lga : ga < w.heap.size := World.block_lt_of_cell? w _ c0
  have hbx : w.heap.size ∉ dB := fun h => Nat.lt_irrefl _ (hlt _ h)
  have hbr : w.heap.size ∉ rB := fun h => Nat.lt_irrefl _ (hlr _ h)
  have HD : Hid _ := hD
  have HM : Hid _ := hMd
  have HR : Hid _ := hR
  clear hD hMd hR
  go_enter Tryz.func72, Tryz.ntmps72
  go_wp2
  go_region_held3 (fun w' => w'.cell? ⟨ga, i, none⟩ = some (.pointer (some ⟨dp, 0, none⟩)) ∧ w'.cell? ⟨w.heap.size, 1, none⟩ = some (.int .i64 a)) ((first | exact ⟨k0, k1⟩ | (go_split_ands; refine ⟨by go_keep, by go_keep⟩)))
    ((go_at_call 32; refine (HD.out _ ((below_box w _).drew)).mono ?_; rintro e w2 ⟨rfl, hM, hf⟩; have k3 : w2.cell? ⟨ga, i + 1, none⟩ = some (.pointer (some ⟨rq, 0, none⟩)) := fr_cell hf (by go_simp) hga; have k0 : w2.cell? ⟨ga, i, none⟩ = some (.pointer (some ⟨dp, 0, none⟩)) := fr_cell hf (by go_simp) hga; have k1 : w2.cell? ⟨w.heap.size, 1, none⟩ = some (.int .i64 a) := fr_cell hf (by go_simp) hbx; have k2 : w2.cell? ⟨w.heap.size, 4, none⟩ = some (.string s) := fr_cell hf (by go_simp) hbx))
  go_wp2
  have hM2 : Hid _ := HM.out _ hM
  go_region_held3 (fun w' => w'.cell? ⟨ga, i + 1, none⟩ = some (.pointer (some ⟨rq, 0, none⟩)) ∧ w'.cell? ⟨w.heap.size, 1, none⟩ = some (.int .i64 a)) ((first | exact ⟨j3, j1⟩ | (go_split_ands; refine ⟨by go_keep, by go_keep⟩)))
    ((go_at_call 119; refine (HR.out _ hM2.out).mono ?_; rintro e w3 ⟨rfl, hM3, hf2⟩; have j3 : w3.cell? ⟨ga, i + 1, none⟩ = some (.pointer (some ⟨rq, 0, none⟩)) := fr_cell hf2 (by simpa using k3) hgr; have j1 : w3.cell? ⟨w.heap.size, 1, none⟩ = some (.int .i64 a) := fr_cell hf2 (by simpa using k1) hbr; have j2 : w3.cell? ⟨w.heap.size, 4, none⟩ = some (.string s) := fr_cell hf2 (by simpa using k2) hbr))
  have hF : Hid _ := fr_two ((below_box w _).drew) hf (Below.refl _ _).drew hf2
  clear hf hf2 k0 k1 k2 k3 j1 j2 j3
  go_wp2
  go_ret
  exact ⟨rfl, hM3, hF.out⟩
set_option maxRecDepth 100000 in
set_option maxHeartbeats 1600000 in
theorem disk_flush {w : World} (o : OpR) (hk : o.kind = 6) (p ga i dp rq : Nat) (c0 : w.cell? ⟨ga, i, none⟩ = some (.pointer (some ⟨dp, 0, none⟩))) (c1 : w.cell? ⟨ga, i + 1, none⟩ = some (.pointer (some ⟨rq, 0, none⟩)))
    (n : Int) (M M2 : World → Prop) (dB rB : List Nat) (hlt : ∀ x ∈ dB, x < w.heap.size) (hga : ga ∉ dB) (hlr : ∀ x ∈ rB, x < w.heap.size) (_hgr : ga ∉ rB)
    (hD : ∀ w1, Below w.heap.size w w1 → Calls Tryz.prog 117 #[.pointer (some ⟨dp, 0, none⟩)] w1 fun e w' => e = .returned (.int .i64 n) ∧ M w' ∧ Fr w1 w' dB)
    (hMd : ∀ w1, M w1 → M w1.drew)
    (hR : ∀ w1, M w1 → Calls Tryz.prog 118 #[.pointer (some ⟨rq, 0, none⟩)] w1 fun e w' => e = .returned (.int .i64 n) ∧ M2 w' ∧ Fr w1 w' rB) :
    Calls Tryz.prog 72 #[.pointer (some ⟨p, 0, none⟩), .pointer (some ⟨ga, i, none⟩), OpR.agg o] w fun e w' => e = .returned (.bool true) ∧ M2 w' ∧ Fr w w' (dB ++ rB) := by
  unfold OpR.agg
  obtain ⟨k, a, b, d, s, t⟩ := o
  simp only at hk hD hR ⊢
  subst hk
  have lga : ga < w.heap.size := World.block_lt_of_cell? w _ c0
  have hbx : w.heap.size ∉ dB := fun h => Nat.lt_irrefl _ (hlt _ h)
  have hbr : w.heap.size ∉ rB := fun h => Nat.lt_irrefl _ (hlr _ h)
  have HD : Hid _ := hD
  have HM : Hid _ := hMd
  have HR : Hid _ := hR
  clear hD hMd hR
  go_enter Tryz.func72, Tryz.ntmps72
  go_wp2_with (first
    | (go_at_call 117; refine (HD.out _ (below_box w _)).mono ?_; rintro e w2 ⟨rfl, hM, hf⟩; have k3 : w2.cell? ⟨ga, i + 1, none⟩ = some (.pointer (some ⟨rq, 0, none⟩)) := fr_cell hf (by go_simp) hga)
    | (go_at_call 118; refine (HR.out _ hM).mono ?_; rintro e w3 ⟨rfl, hM3, hf2⟩))
  have hF : Hid _ := fr_two (below_box w _) hf (Below.refl _ _) hf2
  go_ret
  exact ⟨rfl, hM3, hF.out⟩
end Go.Proofs.YtdidjdoifpfmmaaGreatDoor
namespace Go.Proofs.YtdidjdoifpfmmaaGreatDoor
open Go.RowKit
set_option maxRecDepth 100000 in
set_option maxHeartbeats 1600000 in
theorem disk_waiting {w : World} (o : OpR) (hk : o.kind = 10) (p ga i dp rq : Nat) (c0 : w.cell? ⟨ga, i, none⟩ = some (.pointer (some ⟨dp, 0, none⟩))) (c1 : w.cell? ⟨ga, i + 1, none⟩ = some (.pointer (some ⟨rq, 0, none⟩)))
    (n m : Nat) (_hn : n ≤ 1000000) (_hm : m ≤ 4096) (aw ag : Option Addr) (cw cs : Nat) (M : World → Prop) (dB : List Nat) (_hlt : ∀ x ∈ dB, x < w.heap.size) (hga : ga ∉ dB)
    (hD : ∀ w1, Below w.heap.size w w1 → Calls Tryz.prog 53 #[.pointer (some ⟨dp, 0, none⟩)] w1 fun e w' => e = .returned (.int .i64 (n : Nat)) ∧ M w' ∧ Fr w1 w' dB)
    (hS : ∀ w1, M w1 → Calls Tryz.prog 62 #[.pointer (some ⟨dp, 0, none⟩)] w1 fun e w' => e = .returned (.int .i64 (m : Nat)) ∧ w1 = w')
    (hM : ∀ w1, M w1 → w1.cell? ⟨rq, 2, none⟩ = some (.slice aw n cw) ∧ w1.cell? ⟨rq, 1, none⟩ = some (.slice ag m cs)) :
    Calls Tryz.prog 72 #[.pointer (some ⟨p, 0, none⟩), .pointer (some ⟨ga, i, none⟩), OpR.agg o] w fun e w' => e = .returned (.bool true) ∧ M w' ∧ Fr w w' dB := by
  unfold OpR.agg
  obtain ⟨k, a, b, d, s, t⟩ := o
  simp only at hk ⊢
  subst hk
  have lga : ga < w.heap.size := World.block_lt_of_cell? w _ c0
  have HD : Hid _ := hD
  have HS : Hid _ := hS
  have HM : Hid _ := hM
  clear hD hS hM
  go_enter Tryz.func72, Tryz.ntmps72
  go_wp2_with (first
    | (go_at_call 53; refine (HD.out _ (below_box w _)).mono ?_; rintro e w2 ⟨rfl, hM, hf⟩; have k3 : w2.cell? ⟨ga, i + 1, none⟩ = some (.pointer (some ⟨rq, 0, none⟩)) := fr_cell hf (by go_simp) hga; have k0 : w2.cell? ⟨ga, i, none⟩ = some (.pointer (some ⟨dp, 0, none⟩)) := fr_cell hf (by go_simp) hga; obtain ⟨m1, m2⟩ := HM.out _ hM; clear HM)
    | (go_at_call 62; refine (HS.out _ hM).mono ?_; rintro e w3 ⟨rfl, rfl⟩))
  go_ret
  exact ⟨rfl, hM, (Fr.of_below (below_box w _) dB).trans hf (fun x hx _ => hx)⟩
set_option maxRecDepth 100000 in
set_option maxHeartbeats 1600000 in
theorem disk_image {w : World} (o : OpR) (hk : o.kind = 11) (p ga i dp rq : Nat) (c0 : w.cell? ⟨ga, i, none⟩ = some (.pointer (some ⟨dp, 0, none⟩))) (c1 : w.cell? ⟨ga, i + 1, none⟩ = some (.pointer (some ⟨rq, 0, none⟩)))
    (left : Int) (hl0 : -10000 ≤ left) (hl1 : left ≤ 262144) (cl : w.cell? ⟨p, 5, none⟩ = some (.int .i64 left)) (fl : w.frozen? ⟨p, 5, none⟩ = false)
    (n gE cE : Nat) (hn : n ≤ 4096) (x : Nat → ByteArray) (M : World → Prop) (dB : List Nat) (_hlt : ∀ x ∈ dB, x < w.heap.size) (hga : ga ∉ dB) (npg : p ≠ ga) (npq : p ≠ rq) (hgq : rq ∉ dB) (hrq : w.cell? ⟨rq, 1, none⟩ = some (.slice (some ⟨gE, 0, none⟩) n cE))
    (h0 : ∀ w1, Below w.heap.size (w.setCell ⟨p, 5, none⟩ (.int .i64 (left - n))) w1 → M w1)
    (hD : ∀ w1 j, j < n → M w1 → Calls Tryz.prog 63 #[.pointer (some ⟨dp, 0, none⟩), .int .i64 (j : Nat)] w1 fun e w' => e = .returned (.tuple #[.string (x j), .int .i64 0]) ∧ M w' ∧ Fr w1 w' dB)
    (hM : ∀ w1 j, j < n → M w1 → w1.cell? ⟨gE, j, none⟩ = some (.string (x j))) :
    Calls Tryz.prog 72 #[.pointer (some ⟨p, 0, none⟩), .pointer (some ⟨ga, i, none⟩), OpR.agg o] w fun e w' => e = .returned (.bool true) ∧ M w' ∧ Fr w w' (p :: dB) := by
  unfold OpR.agg
  obtain ⟨k, a, b, d, s, t⟩ := o
  simp only at hk ⊢
  subst hk
  have lga : ga < w.heap.size := World.block_lt_of_cell? w _ c0
  have lp : p < w.heap.size := World.block_lt_of_cell? w _ cl
  have lq : rq < w.heap.size := World.block_lt_of_cell? w _ hrq
  have HD : Hid _ := hD
  have H0 : Hid _ := h0
  have HM : Hid _ := hM
  clear hD h0 hM
  go_enter Tryz.func72, Tryz.ntmps72
  go_wp2
  go_region
  have hB0 : ∀ o, Below w.heap.size (w.setCell ⟨p, 5, none⟩ (.int .i64 (left - n))) ((w.setCell ⟨p, 5, none⟩ (.int .i64 (left - n))).alloc o).drew := fun o => ((Below.refl _ _).alloc (by simp) o).drew
  have hF0 : ∀ o, Fr w ((w.setCell ⟨p, 5, none⟩ (.int .i64 (left - n))).alloc o).drew (p :: dB) := fun o => ((((Fr.refl w (p :: dB)).setCell _ _ (.inl (by simp))).alloc o).drew)
  have a0 : ∀ o, ((w.setCell ⟨p, 5, none⟩ (.int .i64 (left - n))).alloc o).drew.cell? ⟨ga, i, none⟩ = some (.pointer (some ⟨dp, 0, none⟩)) := fun o => fr_cell (((((Fr.refl w [p]).setCell ⟨p, 5, none⟩ (.int .i64 (left - n)) (.inl (by simp))).alloc o).drew)) c0 (by simpa using npg.symm)
  have a1 : ∀ o, ((w.setCell ⟨p, 5, none⟩ (.int .i64 (left - n))).alloc o).drew.cell? ⟨ga, i + 1, none⟩ = some (.pointer (some ⟨rq, 0, none⟩)) := fun o => fr_cell (((((Fr.refl w [p]).setCell ⟨p, 5, none⟩ (.int .i64 (left - n)) (.inl (by simp))).alloc o).drew)) c1 (by simpa using npg.symm)
  have a2 : ∀ o, ((w.setCell ⟨p, 5, none⟩ (.int .i64 (left - n))).alloc o).drew.cell? ⟨rq, 1, none⟩ = some (.slice (some ⟨gE, 0, none⟩) n cE) := fun o => fr_cell (((((Fr.refl w [p]).setCell ⟨p, 5, none⟩ (.int .i64 (left - n)) (.inl (by simp))).alloc o).drew)) hrq (by simpa using npq.symm)
  have hM0 := H0.out _ (hB0 (.cells #[.int .i64 11, .int .i64 a, .int .i64 b, .int .i64 d, .string s, .string t] 67))
  have hF1 := hF0 (.cells #[.int .i64 11, .int .i64 a, .int .i64 b, .int .i64 d, .string s, .string t] 67)
  replace a0 := a0 (.cells #[.int .i64 11, .int .i64 a, .int .i64 b, .int .i64 d, .string s, .string t] 67)
  replace a1 := a1 (.cells #[.int .i64 11, .int .i64 a, .int .i64 b, .int .i64 d, .string s, .string t] 67)
  replace a2 := a2 (.cells #[.int .i64 11, .int .i64 a, .int .i64 b, .int .i64 d, .string s, .string t] 67)
  clear hB0 hF0 H0 c0 c1 hrq cl fl
  generalize ((w.setCell ⟨p, 5, none⟩ (.int .i64 (left - n))).alloc (.cells #[.int .i64 11, .int .i64 a, .int .i64 b, .int .i64 d, .string s, .string t] 67)).drew = W at *
  go_wp2
  go_loopw [15] (fun ii wr => ∃ j : Nat, j ≤ n ∧ ii = .int .i64 j ∧ M wr ∧ Fr W wr dB) (fun ii _ => n - (intOf ii).toNat)
  case atStart => exact ⟨0, Nat.zero_le _, rfl, hM0, Fr.refl _ _⟩
  case round =>
    obtain ⟨j, hj, rfl, hM, hf⟩ := hrel
    have b0 := fr_cell hf a0 hga
    have b1 := fr_cell hf a1 hga
    have b2 := fr_cell hf a2 hgq
    by_cases hlt2 : j < n
    · have hD := HD.out wr j hlt2 hM
      have HF : Hid _ := hf
      clear hf
      go_wp2_with (go_at_call 63; refine hD.mono ?_; rintro e w2 ⟨rfl, hM2, hf2⟩; have d0 := fr_cell hf2 b0 hga; have d1 := fr_cell hf2 b1 hga; have d2 := fr_cell hf2 b2 hgq; have d3 := HM.out w2 j hlt2 hM2; clear hD)
      exact ⟨⟨j + 1, by omega, by go_num, hM2, HF.out.trans hf2 (fun x hx _ => hx)⟩, by simp [intOf]; omega⟩
    · go_wp2
      go_ret
      exact ⟨rfl, hM, hF1.trans hf (fun x hx _ => List.mem_cons_of_mem _ hx)⟩
end Go.Proofs.YtdidjdoifpfmmaaGreatDoor
namespace Go.Proofs.YtdidjdoifpfmmaaGreatDoor
open Go.RowKit
def intsV (ks : List Int) : List Value := ks.map (Value.int .i64)
theorem keepAt_of {w : World} {v : Value} {n : Nat} {ks : List Int} (h : w.ownsRow 0 3 1 v n (intsV ks)) : ∃ a0 g ck, v = .slice a0 ks.length ck ∧ KeepAt w a0 g 0 ks ∧ (∀ x, v.ownBlock = some x → g = x) ∧ n = ks.length ∧ (0 < ks.length → v.ownBlock = some g) ∧ (v.ownBlock = none → g = 0) := by
  have hl : ks.length = n := by have := h.1; simp [intsV] at this; omega
  rcases h.2 with ⟨hv, h0⟩ | ⟨g, cap, cur, hv, _, hb, _, _, _, ht⟩
  · refine ⟨none, 0, 0, by rw [hv, hl, h0], ⟨fun h => by omega, fun j hj => by omega⟩, ?_, hl.symm, fun h => by omega, fun _ => rfl⟩
    rw [hv]; simp [Value.ownBlock]
  · refine ⟨some ⟨g, 0, none⟩, g, cap, by rw [hv, hl], ⟨fun _ => rfl, fun j hj => ?_⟩, ?_, hl.symm, fun _ => by rw [hv]; rfl, fun h => by rw [hv] at h; simp [Value.ownBlock] at h⟩
    · rw [Nat.zero_add, cell_of_row w g j cur _ _ hb]
      have : (cur.toList.take (n * 1))[j]? = (intsV ks)[j]? := by rw [ht]
      rw [List.getElem?_take_of_lt (by omega)] at this
      rw [← Array.getElem?_toList, this]
      simp [intsV, List.getD_eq_getElem?_getD, hj]
    · rw [hv]; simp [Value.ownBlock]
theorem exec_append {P : Program} {a : Act} {o : Oper} (t : TypeId) (x y : Operand) (ho : o.op = .call { callee := .builtin .append, args := #[x, y], argTypes := #[t, t] }) (u v r : Value) (w w' : World) (hx : a.eval x = u) (hy : a.eval y = v)
    (hr : (Builtin.append_ #[t, t] o.type #[u, v]).run P w = .ok r w') : (execOp a.eval o).run P w = .ok (.value r) w' := by
  unfold execOp
  simp only [ho, resolve, invoke, builtin, Sem.run_bind, Sem.run_pure, Result.andThen_ok, List.map_toArray, List.map_cons, List.map_nil, hx, hy, hr]
/-- The caller's list of places, copied: append([]int{}, keep...). -/
theorem keep_copy (W : World) (e : Nat) (he : W.heap[e]? = some (.cells #[] 3 (0, 0))) {kv : Value} {n : Nat} {ks : List Int} (h : W.ownsRow 0 3 1 kv n (intsV ks)) (hn : n ≤ 1000000) (_hne : kv.ownBlock ≠ some e) :
    ∃ a0 g ck w', (∀ ty, (Builtin.append_ #[34, 34] ty #[.slice (some ⟨e, 0, none⟩) 0 0, kv]).run Tryz.prog W = .ok (.slice a0 ks.length ck) w') ∧ KeepAt w' a0 g 0 ks ∧ (g = e ∨ W.heap.size ≤ g) ∧ Fr W w' [e] := by
  obtain ⟨i0, hi0, hz0, hz1, hz2⟩ := info_parts intInfo
  have hl : ks.length = n := by have := h.1; simp [intsV] at this; omega
  have hown : W.ownsRow 0 3 1 (.slice (some ⟨e, 0, none⟩) 0 0) 0 [] := ⟨rfl, .inr ⟨e, 0, #[], rfl, Nat.zero_le _, he, Nat.le_refl _, Nat.zero_le _, rfl, rfl⟩⟩
  rcases h.2 with ⟨hv, h0⟩ | ⟨g, cap, cur, hv, _, hb, hc, hcm, _, ht⟩
  · refine ⟨some ⟨e, 0, none⟩, e, 0, W, fun ty => ?_, ⟨fun h => by omega, fun j hj => by omega⟩, .inl rfl, Fr.refl _ _⟩
    rw [hv, hl, h0]
    simp [Builtin.append_, run_underlying Tryz.underlying34, sizeOf, typeInfo, hi0, Builtin.lenOf, Builtin.firstCells, Addr.add, storeCells]
  · have hnews : ∀ j u, (intsV ks)[j]? = some u → W.cell? ((⟨g, 0, none⟩ : Addr).add j) = some u := by
      intro j u hu
      have hadd : (⟨g, 0, none⟩ : Addr).add j = ⟨g, j, none⟩ := by unfold Addr.add; split <;> simp_all
      have hj : j < n := by have := (List.getElem?_eq_some_iff.1 hu).1; simp [intsV] at this; omega
      rw [hadd, cell_of_row W g j cur _ _ hb]
      have : (cur.toList.take (n * 1))[j]? = (intsV ks)[j]? := by rw [ht]
      rw [List.getElem?_take_of_lt (by omega)] at this
      rw [← Array.getElem?_toList, this, hu]
    have key := fun ty => run_append_own_at (P := Tryz.prog) W 0 34 ty 3 i0 _ 1 8 Tryz.underlying34 hi0 hz0 hz1 hz2 rfl (by decide) (.slice (some ⟨e, 0, none⟩) 0 0) 0 [] hown ⟨g, 0, none⟩ n cap (intsV ks) (by simp [intsV]; omega) hnews (by intro u hu; obtain ⟨z, _, rfl⟩ := List.mem_map.1 hu; rfl) (by simp [maxLen]; omega) (by omega) (Nat.zero_le _)
    obtain ⟨v', w', hr, ho, hg, _, hb'⟩ := key 0
    rw [Nat.zero_add, List.nil_append] at ho
    obtain ⟨a0, g1, ck, rfl, hk, hx, _, hpos⟩ := keepAt_of ho
    refine ⟨a0, g1, ck, w', fun ty => by rw [hv]; exact hr, hk, ?_, (Fr.refl _ _).grown hg (by intro k hk; left; simpa [Value.ownBlock] using hk.symm)⟩
    rcases hb' with hb' | hb'
    · left; exact hx e (by rw [hb']; rfl)
    · right; rw [hx _ hb']; exact Nat.le_refl _
set_option maxRecDepth 100000 in
set_option maxHeartbeats 1600000 in
theorem disk_crash {w : World} (o : OpR) (hk : o.kind = 9) (p ga i dp rq : Nat) (c0 : w.cell? ⟨ga, i, none⟩ = some (.pointer (some ⟨dp, 0, none⟩))) (c1 : w.cell? ⟨ga, i + 1, none⟩ = some (.pointer (some ⟨rq, 0, none⟩)))
    (kv : Value) (ks : List Int) (cp : w.cell? ⟨p, 1, none⟩ = some kv) (hks : w.ownsRow 0 3 1 kv ks.length (intsV ks)) (hkl : ks.length ≤ 1000000) (_npg : p ≠ ga)
    (M M2 : World → Prop) (dB rB : List Nat) (_hlt : ∀ x ∈ dB, x < w.heap.size) (hga : ga ∉ dB) (hpd : p ∉ dB) (hgr : ga ∉ rB) (hpr : p ∉ rB)
    (hD : ∀ w1 a0 g ck, Below w.heap.size w w1 → KeepAt w1 a0 g 0 ks → w.heap.size ≤ g → Calls Tryz.prog 34 #[.pointer (some ⟨dp, 0, none⟩), .slice a0 ks.length ck] w1 fun e w' => e = .returned (.tuple #[]) ∧ M w' ∧ Fr w1 w' dB)
    (hMd : ∀ w1, M w1 → M w1.drew)
    (hR : ∀ w1, M w1 → Calls Tryz.prog 120 #[.pointer (some ⟨rq, 0, none⟩), kv] w1 fun e w' => e = .returned (.tuple #[]) ∧ M2 w' ∧ Fr w1 w' rB)
    (hM2 : ∀ w1, M2 w1 → w1.frozen? ⟨p, 1, none⟩ = false) :
    Calls Tryz.prog 72 #[.pointer (some ⟨p, 0, none⟩), .pointer (some ⟨ga, i, none⟩), OpR.agg o] w fun e w' => e = .returned (.bool true) ∧ ∃ w1, M2 w1 ∧ Fr w w1 (dB ++ rB) ∧ w' = w1.setCell ⟨p, 1, none⟩ (.slice none 0 0) := by
  unfold OpR.agg
  obtain ⟨k, a, b, d, s, t⟩ := o
  simp only at hk ⊢
  subst hk
  have lga : ga < w.heap.size := World.block_lt_of_cell? w _ c0
  have lp : p < w.heap.size := World.block_lt_of_cell? w _ cp
  have hfW : Fr w (((w.alloc (.cells #[.int .i64 9, .int .i64 a, .int .i64 b, .int .i64 d, .string s, .string t] 67)).drew).alloc (.cells #[] 3)) [] := ((Fr.refl w []).alloc _).drew.alloc _
  have szW : (((w.alloc (.cells #[.int .i64 9, .int .i64 a, .int .i64 b, .int .i64 d, .string s, .string t] 67)).drew).alloc (.cells #[] 3)).heap.size = w.heap.size + 1 + 1 := by simp
  obtain ⟨a0, g, ck, w3, hrun, hka, hgg, hf3⟩ := keep_copy (((w.alloc (.cells #[.int .i64 9, .int .i64 a, .int .i64 b, .int .i64 d, .string s, .string t] 67)).drew).alloc (.cells #[] 3)) (w.heap.size + 1)
    (by have := heap_alloc_new ((w.alloc (.cells #[.int .i64 9, .int .i64 a, .int .i64 b, .int .i64 d, .string s, .string t] 67)).drew) (.cells #[] 3); simpa using this) (owns_fr hks hfW (by simp)) hkl (fun e => by have := own_lt hks _ e; omega)
  have hfw3 : Fr w w3 [] := hfW.trans hf3 (by simp)
  have hb3 : Below w.heap.size w w3 := ⟨hfw3.os, hfw3.tape, hfw3.output, hfw3.size, fun k hk => hfw3.block k hk (by simp)⟩
  have HC := hD w3 a0 g ck hb3 hka (by omega)
  have e0 : w3.cell? ⟨ga, i, none⟩ = some (.pointer (some ⟨dp, 0, none⟩)) := fr_cell hfw3 c0 (by simp)
  have e1 : w3.cell? ⟨p, 1, none⟩ = some kv := fr_cell hfw3 cp (by simp)
  have e2 : w3.cell? ⟨ga, i + 1, none⟩ = some (.pointer (some ⟨rq, 0, none⟩)) := fr_cell hfw3 c1 (by simp)
  have HD : Hid _ := HC
  have HM : Hid _ := hMd
  have HR : Hid _ := hR
  have HM2 : Hid _ := hM2
  have HK : Hid _ := hks
  clear hD hMd hR hM2 HC hks
  go_enter Tryz.func72, Tryz.ntmps72
  go_wp2
  go_region_held3 (fun w' => w'.cell? ⟨ga, i, none⟩ = some (.pointer (some ⟨dp, 0, none⟩)) ∧ w'.cell? ⟨p, 1, none⟩ = some kv) ((first | exact ⟨k0, k1⟩ | exact ⟨e0, e1⟩ | (go_split_ands; refine ⟨by go_keep, by go_keep⟩)))
    ((first
      | (go_at_call 34; refine Calls.mono HD.out ?_; rintro e w4 ⟨rfl, hM, hf4⟩; have k0 := fr_cell hf4 e0 hga; have k1 := fr_cell hf4 e1 hpd; have k2 := fr_cell hf4 e2 hga)
      | (refine step_run (o := ⟨some 109, .call { callee := .builtin .append, args := #[.tmp 104, .tmp 108], argTypes := #[34, 34] }, _, _, _, none⟩) rfl (v := .slice a0 ks.length ck) (w' := w3) ?_ ?_; exact exec_append 34 (.tmp 104) (.tmp 108) rfl _ _ _ _ _ rfl rfl (hrun _))))
  go_wp2
  have hMd : Hid _ := HM.out _ hM
  go_region_held3 (fun w' => w'.cell? ⟨ga, i + 1, none⟩ = some (.pointer (some ⟨rq, 0, none⟩)) ∧ w'.cell? ⟨p, 1, none⟩ = some kv) ((first | exact ⟨j0, j1⟩ | (go_split_ands; refine ⟨by go_keep, by go_keep⟩)))
    ((go_at_call 120; refine (HR.out _ hMd.out).mono ?_; rintro e w5 ⟨rfl, hM5, hf5⟩; have j0 : w5.cell? ⟨ga, i + 1, none⟩ = some (.pointer (some ⟨rq, 0, none⟩)) := fr_cell hf5 (by simpa using k2) hgr; have j1 : w5.cell? ⟨p, 1, none⟩ = some kv := fr_cell hf5 (by simpa using k1) hpr))
  have fz := HM2.out _ hM5
  have hF : Hid (Fr w w5 (dB ++ rB)) := fr_two hb3 hf4 (Below.refl _ _).drew hf5
  clear hf4 hf5
  go_wp2
  go_ret
  exact ⟨rfl, w5, hM5, hF.out, rfl⟩
end Go.Proofs.YtdidjdoifpfmmaaGreatDoor
namespace Go.Proofs.YtdidjdoifpfmmaaGreatDoor
open Go.RowKit
set_option maxHeartbeats 2000000 in
theorem number_E {a : Nat → Addr} {w : World} (h : Sents a w) (k : Nat) (hk : k < 12) :
    Calls Tryz.prog 43 #[.iface 452 (.pointer (some (a k)))] w fun e w' => e = .returned (.tuple #[.int .i64 (k + 1 : Nat), .int .i64 (-1)]) ∧ Below w.heap.size w w' := by
  have hI : ∀ j, j < 12 → Calls Tryz.prog 78 #[.iface 452 (.pointer (some (a k))), .iface 452 (.pointer (some (a j)))] (w.alloc (.cells (twelve a) 92)) fun e w' => e = .returned (.bool (decide (j = k))) ∧ w.alloc (.cells (twelve a) 92) = w' :=
    fun j hj => (is_any (h.below ((Below.refl _ _).alloc (Nat.le_refl _) _)) k j hk hj).mono fun e w' hh => ⟨hh.1, hh.2.symm⟩
  have hA := as_miss (a k) ⟨w.heap.size + 1, 0, none⟩ ((w.alloc (.cells (twelve a) 92)).alloc (.cells #[.pointer none] 152)) (h.below (((Below.refl _ _).alloc (Nat.le_refl _) _).alloc (by simp) _)).et
  have h0 := h.var 0 (by decide)
  have h1 := h.var 1 (by decide)
  have h2 := h.var 2 (by decide)
  have h3 := h.var 3 (by decide)
  have h4 := h.var 4 (by decide)
  have h5 := h.var 5 (by decide)
  have h6 := h.var 6 (by decide)
  have h7 := h.var 7 (by decide)
  have h8 := h.var 8 (by decide)
  have h9 := h.var 9 (by decide)
  have h10 := h.var 10 (by decide)
  have h11 := h.var 11 (by decide)
  go_enter Tryz.func43, Tryz.ntmps43
  go_wp2
  clear h0 h1 h2 h3 h4 h5 h6 h7 h8 h9 h10 h11
  go_loop [4, 24] (fun n i => ∃ j : Nat, j ≤ 12 ∧ i = .int .i64 j ∧ ((j ≤ k ∧ n = .int .i64 0) ∨ (k < j ∧ n = .int .i64 (k + 1 : Nat)))) (fun _ i => 12 - (intOf i).toNat)
  case atStart => exact ⟨0, by omega, rfl, Or.inl ⟨by omega, rfl⟩⟩
  case round =>
    obtain ⟨j, hj, rfl, hn⟩ := hrel
    by_cases hlt : j < 12
    · have hc := twelve_at a w 92 j hlt
      have hIj := hI j hlt
      rcases hn with ⟨hjk, rfl⟩ | ⟨hjk, rfl⟩
      · by_cases e : j = k
        · subst e
          go_wp2_with (go_at_call 78; refine hIj.mono ?_; rintro e w' ⟨rfl, rfl⟩)
          go_round
          case rel => exact ⟨j + 1, by omega, by go_num, Or.inr ⟨by omega, by go_num⟩⟩
          case measure => simp [intOf]; omega
        · have hd : decide (j = k) = false := by simpa using e
          go_wp2_with (go_at_call 78; refine hIj.mono ?_; rintro e w' ⟨rfl, rfl⟩)
          go_round
          case rel => exact ⟨j + 1, by omega, by go_num, Or.inl ⟨by omega, rfl⟩⟩
          case measure => simp [intOf]; omega
      · have hd : decide (j = k) = false := by simp; omega
        go_wp2_with (go_at_call 78; refine hIj.mono ?_; rintro e w' ⟨rfl, rfl⟩)
        go_round
        case rel => exact ⟨j + 1, by omega, by go_num, Or.inr ⟨by omega, rfl⟩⟩
        case measure => simp [intOf]; omega
    · rcases hn with ⟨hjk, rfl⟩ | ⟨hjk, rfl⟩
      · omega
      · have hk0 : ((↑(k + 1) : Int) == 0) = false := by simp; omega
        go_wp2_with (go_at_call 79; refine hA.mono ?_; rintro e w' ⟨rfl, rfl⟩)
        go_ret2
        exact ⟨rfl, (((((Below.refl _ _).alloc (Nat.le_refl _) _).alloc (by simp) _).alloc (by simp; omega) _).alloc (by simp; omega) _).alloc (by simp; omega) _⟩

set_option maxHeartbeats 2000000 in
theorem number_F {a : Nat → Addr} {w : World} (h : Sents a w) (k pb : Nat) (hk : k < 12) (hp0 : w.cell? ⟨pb, 0, none⟩ = some (.int .i64 7)) (hp1 : w.cell? ⟨pb, 1, none⟩ = some (.iface 452 (.pointer (some (a k))))) :
    Calls Tryz.prog 43 #[.iface 152 (.pointer (some ⟨pb, 0, none⟩))] w fun e w' => e = .returned (.tuple #[.int .i64 (k + 1 : Nat), .int .i64 7]) ∧ Below w.heap.size w w' := by
  have hI : ∀ j, j < 12 → Calls Tryz.prog 78 #[.iface 152 (.pointer (some ⟨pb, 0, none⟩)), .iface 452 (.pointer (some (a j)))] (w.alloc (.cells (twelve a) 92)) fun e w' => e = .returned (.bool (decide (j = k))) ∧ w.alloc (.cells (twelve a) 92) = w' :=
    fun j hj => (is_wrapped (h.below ((Below.refl _ _).alloc (Nat.le_refl _) _)) k j pb hk hj (by rw [((Below.refl _ _).alloc (Nat.le_refl _) _ : Below w.heap.size w _).cell (lt_of_cellE hp1)]; exact hp1)).mono fun e w' hh => ⟨hh.1, hh.2.symm⟩
  have hB2 : Below w.heap.size w ((w.alloc (.cells (twelve a) 92)).alloc (.cells #[.pointer none] 152)) := ((Below.refl _ _).alloc (Nat.le_refl _) _).alloc (by simp) _
  have hA : Calls Tryz.prog 79 #[.iface 152 (.pointer (some ⟨pb, 0, none⟩)), .iface 154 (.pointer (some ⟨w.heap.size + 1, 0, none⟩))] ((w.alloc (.cells (twelve a) 92)).alloc (.cells #[.pointer none] 152)) fun e w' => e = .returned (.bool true) ∧ Below w.heap.size w w' ∧ w'.cell? ⟨w.heap.size + 1, 0, none⟩ = some (.pointer (some ⟨pb, 0, none⟩)) ∧ w'.cell? ⟨pb, 0, none⟩ = some (.int .i64 7) := by
    refine (as_hit ⟨pb, 0, none⟩ ⟨w.heap.size + 1, 0, none⟩ (.pointer none) _ (h.below hB2).et (by simp) (by simp)).mono ?_
    rintro e w' ⟨rfl, rfl⟩
    have hb := ((((hB2.alloc (by simp; omega) (.cells #[.pointer (some ⟨w.heap.size + 1, 0, none⟩)] 154)).alloc (by simp; omega) (.cells #[.pointer (some ⟨18, 154, none⟩), .pointer (some ⟨((w.alloc (.cells (twelve a) 92)).alloc (.cells #[.pointer none] 152)).heap.size, 0, none⟩), .int .u64 150] 242)).alloc (by simp; omega) (.cells #[.pointer (some ⟨18, 154, none⟩), .pointer (some ⟨((w.alloc (.cells (twelve a) 92)).alloc (.cells #[.pointer none] 152)).heap.size, 0, none⟩), .int .u64 150] 242)).alloc (by simp; omega) (.cells #[.pointer (some ⟨pb, 0, none⟩)] 152)).setCell (p := ⟨w.heap.size + 1, 0, none⟩) (by simp) (.pointer (some ⟨pb, 0, none⟩))
    refine ⟨rfl, hb, ?_, ?_⟩
    · refine World.cell?_setCell_same _ _ _ (u := .pointer none) ?_
      rw [World.cell?_alloc_lt _ _ _ (by simp), World.cell?_alloc_lt _ _ _ (by simp), World.cell?_alloc_lt _ _ _ (by simp), World.cell?_alloc_lt _ _ _ (by simp), World.cell?_alloc_at _ _ _ _ (by simp)]
      rfl
    · rw [hb.cell (lt_of_cellE hp0)]; exact hp0
  have h0 := h.var 0 (by decide)
  have h1 := h.var 1 (by decide)
  have h2 := h.var 2 (by decide)
  have h3 := h.var 3 (by decide)
  have h4 := h.var 4 (by decide)
  have h5 := h.var 5 (by decide)
  have h6 := h.var 6 (by decide)
  have h7 := h.var 7 (by decide)
  have h8 := h.var 8 (by decide)
  have h9 := h.var 9 (by decide)
  have h10 := h.var 10 (by decide)
  have h11 := h.var 11 (by decide)
  go_enter Tryz.func43, Tryz.ntmps43
  go_wp2
  clear h0 h1 h2 h3 h4 h5 h6 h7 h8 h9 h10 h11
  go_loop [4, 24] (fun n i => ∃ j : Nat, j ≤ 12 ∧ i = .int .i64 j ∧ ((j ≤ k ∧ n = .int .i64 0) ∨ (k < j ∧ n = .int .i64 (k + 1 : Nat)))) (fun _ i => 12 - (intOf i).toNat)
  case atStart => exact ⟨0, by omega, rfl, Or.inl ⟨by omega, rfl⟩⟩
  case round =>
    obtain ⟨j, hj, rfl, hn⟩ := hrel
    by_cases hlt : j < 12
    · have hc := twelve_at a w 92 j hlt
      have hIj := hI j hlt
      rcases hn with ⟨hjk, rfl⟩ | ⟨hjk, rfl⟩
      · by_cases e : j = k
        · subst e
          go_wp2_with (go_at_call 78; refine hIj.mono ?_; rintro e w' ⟨rfl, rfl⟩)
          go_round
          case rel => exact ⟨j + 1, by omega, by go_num, Or.inr ⟨by omega, by go_num⟩⟩
          case measure => simp [intOf]; omega
        · have hd : decide (j = k) = false := by simpa using e
          go_wp2_with (go_at_call 78; refine hIj.mono ?_; rintro e w' ⟨rfl, rfl⟩)
          go_round
          case rel => exact ⟨j + 1, by omega, by go_num, Or.inl ⟨by omega, rfl⟩⟩
          case measure => simp [intOf]; omega
      · have hd : decide (j = k) = false := by simp; omega
        go_wp2_with (go_at_call 78; refine hIj.mono ?_; rintro e w' ⟨rfl, rfl⟩)
        go_round
        case rel => exact ⟨j + 1, by omega, by go_num, Or.inr ⟨by omega, rfl⟩⟩
        case measure => simp [intOf]; omega
    · rcases hn with ⟨hjk, rfl⟩ | ⟨hjk, rfl⟩
      · omega
      · have hk0 : ((↑(k + 1) : Int) == 0) = false := by simp; omega
        go_wp2_with (go_at_call 79; refine hA.mono ?_; rintro e w' ⟨rfl, hbw, hcf, hc7⟩)
        go_quiet (fail)
        go_wp2
        go_ret2
        exact ⟨rfl, below_drewN hbw _⟩
end Go.Proofs.YtdidjdoifpfmmaaGreatDoor
/- The calls of package plain, whatever a disk does; the caller's choice among disks. -/
namespace Go.Proofs.YtdidjdoifpfmmaaGreatDoor
open Go.RowKit
theorem number_nil (w : World) : Calls Tryz.prog 43 #[.nilIface] w fun e w' => e = .returned (.tuple #[.int .i64 0, .int .i64 (-1)]) ∧ w = w' := by
  go_enter Tryz.func43, Tryz.ntmps43
  go_wp2
  refine bodyPost_ret (results_tmp2 rfl _ _ _) rfl ?_
  exact ⟨rfl, rfl⟩
theorem plain_write {w : World} {dp : Nat} {a : Int} {s : ByteArray} {ev : Value} {n m : Int} {N : World → Prop} {dB : List Nat}
    (hW : Calls Tryz.prog 81 #[.pointer (some ⟨dp, 0, none⟩), .int .i64 a, .string s] w fun e w' => e = .returned ev ∧ N w' ∧ Fr w w' dB)
    (hN : ∀ w1, N w1 → Calls Tryz.prog 43 #[ev] w1 fun e w' => e = .returned (.tuple #[.int .i64 n, .int .i64 m]) ∧ N w' ∧ Fr w1 w' []) :
    Calls Tryz.prog 115 #[.pointer (some ⟨dp, 0, none⟩), .int .i64 a, .string s] w fun e w' => e = .returned (.int .i64 n) ∧ N w' ∧ Fr w w' dB := by
  have HN : Hid _ := hN
  clear hN
  go_enter Tryz.func115, Tryz.ntmps115
  go_wp2_with (first
    | (go_at_call 81; refine hW.mono ?_; rintro e w1 ⟨rfl, h1, f1⟩)
    | (go_at_call 43; refine (HN.out _ h1).mono ?_; rintro e w2 ⟨rfl, h2, f2⟩))
  go_ret
  exact ⟨rfl, h2, f1.trans f2 (by simp)⟩
theorem plain_flush {w : World} {dp : Nat} {ev : Value} {n m : Int} {N : World → Prop} {dB : List Nat}
    (hW : Calls Tryz.prog 83 #[.pointer (some ⟨dp, 0, none⟩)] w fun e w' => e = .returned ev ∧ N w' ∧ Fr w w' dB)
    (hN : ∀ w1, N w1 → Calls Tryz.prog 43 #[ev] w1 fun e w' => e = .returned (.tuple #[.int .i64 n, .int .i64 m]) ∧ N w' ∧ Fr w1 w' []) :
    Calls Tryz.prog 117 #[.pointer (some ⟨dp, 0, none⟩)] w fun e w' => e = .returned (.int .i64 n) ∧ N w' ∧ Fr w w' dB := by
  have HN : Hid _ := hN
  clear hN
  go_enter Tryz.func117, Tryz.ntmps117
  go_wp2_with (first
    | (go_at_call 83; refine hW.mono ?_; rintro e w1 ⟨rfl, h1, f1⟩)
    | (go_at_call 43; refine (HN.out _ h1).mono ?_; rintro e w2 ⟨rfl, h2, f2⟩))
  go_ret
  exact ⟨rfl, h2, f1.trans f2 (by simp)⟩
theorem plain_read {w : World} {dp : Nat} {a : Int} {x : ByteArray} {ev : Value} {n m : Int} {N : World → Prop} {dB : List Nat}
    (hW : Calls Tryz.prog 84 #[.pointer (some ⟨dp, 0, none⟩), .int .i64 a] w fun e w' => e = .returned (.tuple #[.string x, ev]) ∧ N w' ∧ Fr w w' dB)
    (hN : ∀ w1, N w1 → Calls Tryz.prog 43 #[ev] w1 fun e w' => e = .returned (.tuple #[.int .i64 n, .int .i64 m]) ∧ N w' ∧ Fr w1 w' []) :
    Calls Tryz.prog 63 #[.pointer (some ⟨dp, 0, none⟩), .int .i64 a] w fun e w' => e = .returned (.tuple #[.string x, .int .i64 n]) ∧ N w' ∧ Fr w w' dB := by
  have HN : Hid _ := hN
  clear hN
  go_enter Tryz.func63, Tryz.ntmps63
  go_wp2_with (first
    | (go_at_call 84; refine hW.mono ?_; rintro e w1 ⟨rfl, h1, f1⟩)
    | (go_at_call 43; refine (HN.out _ h1).mono ?_; rintro e w2 ⟨rfl, h2, f2⟩))
  refine bodyPost_ret (results_tmp2 rfl _ _ _) rfl ?_
  exact ⟨rfl, h2, f1.trans f2 (by simp)⟩
theorem plain_crash {w : World} {dp : Nat} {kv : Value} {N : World → Prop} {dB : List Nat}
    (hW : Calls Tryz.prog 59 #[.pointer (some ⟨dp, 0, none⟩), kv] w fun e w' => e = .returned (.tuple #[]) ∧ N w' ∧ Fr w w' dB) :
    Calls Tryz.prog 34 #[.pointer (some ⟨dp, 0, none⟩), kv] w fun e w' => e = .returned (.tuple #[]) ∧ N w' ∧ Fr w w' dB := by
  go_enter Tryz.func34, Tryz.ntmps34
  go_wp2_with (go_at_call 59; refine hW.mono ?_; rintro e w1 ⟨rfl, h1, f1⟩)
  go_end0
  exact ⟨rfl, h1, f1⟩
/-- Which of n things a number speaks of. -/
def pickOf (c : Int) (n : Nat) : Nat := (if c < 0 then (-(c + 1)) % n else c % n).toNat
theorem pickOf_lt (c : Int) (n : Nat) (hn : 0 < n) : pickOf c n < n := by
  unfold pickOf
  split
  · have h1 := Int.emod_lt_of_pos (-(c + 1)) (by omega : (0 : Int) < n)
    have h2 := Int.emod_nonneg (-(c + 1)) (by omega : (n : Int) ≠ 0)
    omega
  · have h1 := Int.emod_lt_of_pos c (by omega : (0 : Int) < n)
    have h2 := Int.emod_nonneg c (by omega : (n : Int) ≠ 0)
    omega
theorem pick_any (c : Int) (n : Nat) (hn : 0 < n) (hn2 : n ≤ 1000000) (hc : -9223372036854775808 ≤ c ∧ c ≤ 9223372036854775807) (w : World) :
    Calls Tryz.prog 71 #[.int .i64 c, .int .i64 (n : Nat)] w fun e w' => e = .returned (.int .i64 (pickOf c n : Nat)) ∧ w = w' := by
  by_cases h : c < 0
  · go_enter Tryz.func71, Tryz.ntmps71
    have e : -((c + 1).tmod n) = (pickOf c n : Nat) := by
      unfold pickOf
      rw [if_pos h, ← Int.neg_tmod, Int.tmod_eq_emod_of_nonneg (by omega), Int.toNat_of_nonneg (Int.emod_nonneg _ (by omega))]
    go_wp2
    go_ret
    exact ⟨rfl, rfl⟩
  · go_enter Tryz.func71, Tryz.ntmps71
    have e : c % n = (pickOf c n : Nat) := by
      unfold pickOf
      rw [if_neg h, Int.toNat_of_nonneg (Int.emod_nonneg _ (by omega))]
    go_wp2
    go_ret
    exact ⟨rfl, rfl⟩
end Go.Proofs.YtdidjdoifpfmmaaGreatDoor
