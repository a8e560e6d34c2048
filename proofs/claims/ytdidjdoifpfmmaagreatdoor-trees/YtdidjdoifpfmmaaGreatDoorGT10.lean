import Derived.Test.YtdidjdoifpfmmaaGreatDoorGT9
import Derived.Test.YtdidjdoifpfmmaaGreatDoorGT7
import Derived.MapFrom
import Derived.Test.YtdidjdoifpfmmaaGreatDoorGT3
import Derived.Test.YtdidjdoifpfmmaaGreatDoorGT4
namespace Go.Proofs.YtdidjdoifpfmmaaGreatDoor
open Go.RowKit
def thenC : Code → Code
  | .cond _ a _ => a
  | c => c
noncomputable def flCode : Code := Tryz.f148.body.getD .skip
noncomputable def flLoop : Code := inC (inC (sndC (fstC flCode)))
noncomputable def fl3 : Code := sndC (inC (fstC (sndC (sndC flLoop))))
noncomputable def crCode : Code := Tryz.f59.body.getD .skip
noncomputable def crLoop : Code := inC (inC (sndC (fstC (sndC (sndC crCode)))))
noncomputable def cr7 : Code := sndC (thenC (sndC (sndC (inC (fstC (sndC (sndC crLoop)))))))
set_option maxRecDepth 100000 in
set_option maxHeartbeats 1600000 in
theorem fl3_any {x1 x3 x4 x5 x6 x7 x8 x9 x10 x11 x12 x13 x14 x15 x16 x17 x18 x19 x20 x21 x22 x23 : Value} (p gs wb n k : Nat) (b : Nat) (D : List Value) (w : World) (R : Act → World → Prop)
    (cb : w.cell? ⟨b, 0, none⟩ = some (.pointer (some ⟨p, 0, none⟩))) (nb : b ≠ gs)
    (cp : w.cell? ⟨p, 2, none⟩ = some (.slice (some ⟨gs, 0, none⟩) n n)) (ca : w.cell? ⟨wb, 0, none⟩ = some (.int .i64 (k : Nat))) (hrg : w.rangeAt wb 1 D) (hD : D.length = 64) (h1 : ∀ v ∈ D, v.oneCell' = true)
    (hk : k < n) (_hn : n ≤ 4096) (ht : w.there gs (k * 64) 64) (np : p ≠ gs) (nw : wb ≠ gs)
    (hQ : Hid (∀ (y12 y13 y14 y15 y16 y17 y18 y19 y20 : Value), R ⟨#[.pointer (some ⟨b, 0, none⟩), x1, .pointer (some ⟨wb, 0, none⟩), x3, x4, x5, x6, x7, x8, x9, x10, x11, y12, y13, y14, y15, y16, y17, y18, y19, y20, x21, x22, x23], []⟩ (w.drew.setCells gs (k * 64) D))) :
    Code.wp Tryz.prog fl3 (At R) ⟨#[.pointer (some ⟨b, 0, none⟩), x1, .pointer (some ⟨wb, 0, none⟩), x3, x4, x5, x6, x7, x8, x9, x10, x11, x12, x13, x14, x15, x16, x17, x18, x19, x20, x21, x22, x23], []⟩ w := by
  conv => arg 2; whnf
  have hiD : (Tryz.prog.info? 190).map (·.size) = some D.length := by rw [hD]; exact secSize
  have k0 : (0 : Int) ≤ (k : Int) := by omega
  have k1 : (k : Int) < (n : Int) := by omega
  refine wp_region_held_drew (S := fun w' => w'.cell? ⟨b, 0, none⟩ = some (.pointer (some ⟨p, 0, none⟩)) ∧ w'.cell? ⟨p, 2, none⟩ = some (.slice (some ⟨gs, 0, none⟩) n n) ∧ w'.cell? ⟨wb, 0, none⟩ = some (.int .i64 (k : Nat)) ∧ w'.rangeAt wb 1 D) (by kernel_rfl) ⟨by simpa using cb, by simpa using cp, by simpa using ca, by simpa using hrg⟩ (fun hHeld => ?_)
  refine wpAnyH_take (i := 0) (oi := ⟨some 12, .load 30 (.tmp 0), _, _, _, none⟩) (v := .pointer (some ⟨p, 0, none⟩)) rfl (by kernel_rfl) (by kernel_rfl) (by kernel_rfl) (fun _ _ _ h => h) (Or.inl ⟨by rfl, by intro w hSw; obtain ⟨s1, s2, s3⟩ := hSw; go_simp⟩) hHeld ?_
  simp only [Act.put, List.setIfInBounds_toArray, List.set_cons_zero, List.set_cons_succ]
  refine wpAnyH_take (i := 1) (oi := ⟨some 13, .nilCheck (.tmp 12), _, _, _, none⟩) (v := .pointer (some ⟨p, 0, none⟩)) rfl (by kernel_rfl) (by kernel_rfl) (by kernel_rfl) (fun _ _ _ h => h) (Or.inl ⟨by rfl, by intro w hSw; go_simp⟩) hHeld ?_
  simp only [Act.put, List.setIfInBounds_toArray, List.set_cons_zero, List.set_cons_succ]
  refine wpAnyH_take (i := 2) (oi := ⟨some 14, .fieldAddr 88 (.tmp 13) 1, _, _, _, none⟩) (v := .pointer (some ⟨p, 2, none⟩)) rfl (by kernel_rfl) (by kernel_rfl) (by kernel_rfl) (fun _ _ _ h => h) (Or.inl ⟨by rfl, by intro w hSw; go_simp⟩) hHeld ?_
  simp only [Act.put, List.setIfInBounds_toArray, List.set_cons_zero, List.set_cons_succ]
  refine wpAnyH_take (i := 3) (oi := ⟨some 15, .load 77 (.tmp 14), _, _, _, none⟩) (v := .slice (some ⟨gs, 0, none⟩) n n) rfl (by kernel_rfl) (by kernel_rfl) (by kernel_rfl) (fun _ _ _ h => h) (Or.inl ⟨by rfl, by intro w hSw; go_split_ands; go_simp⟩) hHeld ?_
  simp only [Act.put, List.setIfInBounds_toArray, List.set_cons_zero, List.set_cons_succ]
  refine wpAnyH_take (i := 4) (oi := ⟨some 16, .fieldAddr 192 (.tmp 2) 0, _, _, _, none⟩) (v := .pointer (some ⟨wb, 0, none⟩)) rfl (by kernel_rfl) (by kernel_rfl) (by kernel_rfl) (fun _ _ _ h => h) (Or.inl ⟨by rfl, by intro w hSw; go_simp⟩) hHeld ?_
  simp only [Act.put, List.setIfInBounds_toArray, List.set_cons_zero, List.set_cons_succ]
  refine wpAnyH_take (i := 5) (oi := ⟨some 17, .load 3 (.tmp 16), _, _, _, none⟩) (v := .int .i64 (k : Nat)) rfl (by kernel_rfl) (by kernel_rfl) (by kernel_rfl) (fun _ _ _ h => h) (Or.inl ⟨by rfl, by intro w hSw; go_split_ands; go_simp⟩) hHeld ?_
  simp only [Act.put, List.setIfInBounds_toArray, List.set_cons_zero, List.set_cons_succ]
  refine wpAnyH_take (i := 6) (oi := ⟨some 18, .fieldAddr 192 (.tmp 2) 1, _, _, _, none⟩) (v := .pointer (some ⟨wb, 1, none⟩)) rfl (by kernel_rfl) (by kernel_rfl) (by kernel_rfl) (fun _ _ _ h => h) (Or.inl ⟨by rfl, by intro w hSw; go_simp⟩) hHeld ?_
  simp only [Act.put, List.setIfInBounds_toArray, List.set_cons_zero, List.set_cons_succ]
  refine wpAnyH_take (i := 7) (oi := ⟨some 19, .load 190 (.tmp 18), _, _, _, none⟩) (v := .agg D.toArray) rfl (by kernel_rfl) (by kernel_rfl) (by kernel_rfl) (fun _ _ _ h => h) (yieldsIf_load_mid (by rfl) _ _ rfl wb 1 rfl D _ (fun w h => by go_split_ands; assumption) Tryz.underlying190 rfl hiD) hHeld ?_
  simp only [Act.put, List.setIfInBounds_toArray, List.set_cons_zero, List.set_cons_succ]
  refine wpAnyH_take (i := 8) (oi := ⟨some 20, .indexAddr 77 (.tmp 15) (.tmp 17), _, _, _, none⟩) (v := .pointer (some ⟨gs, k * 64, none⟩)) rfl (by kernel_rfl) (by kernel_rfl) (by kernel_rfl) (fun _ _ _ h => h) (Or.inl ⟨by rfl, by intro w hSw; go_simp⟩) hHeld ?_
  simp only [Act.put, List.setIfInBounds_toArray, List.set_cons_zero, List.set_cons_succ]
  refine wpAnyH_ready (rs := [9]) (by kernel_rfl) (by simp) ?_
  refine AllReadyH.cons (o := ⟨none, .store 190 (.tmp 20) (.tmp 19), _, _, _, none⟩) rfl (fun K hK => ?_) AllReadyH.nil
  rw [if_pos (by rfl)]
  refine wp_store_mid _ _ _ rfl gs (k * 64) D.toArray rfl rfl (by simpa [hD] using ht) (by simpa using hiD) (all_oneCell_toArray h1) ?_
  have hap : ∀ (a : Addr), a.block ≠ gs → (w.drew.setCells gs (k * 64) D.toArray.toList).cell? a = w.drew.cell? a := fun a ha => World.cell?_setCells_out gs _ _ _ a (fun hb => absurd hb ha)
  refine hK.out _ _ ?_ (fun hHeld2 => ?_)
  · go_split_ands
    refine ⟨by rw [hap _ nb]; assumption, by rw [hap _ np]; assumption, by rw [hap _ nw]; assumption, World.rangeAt_setCells_apart (by assumption) _ _ _ (.inl nw)⟩
  clear hK K
  simp only [Act.put]
  refine wpAnyH_done (by kernel_rfl) ?_ _
  exact hQ.out _ _ _ _ _ _ _ _ _
set_option maxRecDepth 100000 in
set_option maxHeartbeats 1600000 in
theorem cr7_any {df : List Deferred} {x1 x2 x3 x4 x5 x7 x8 x9 x10 x11 x12 x13 x14 x15 x16 x17 x18 x19 x20 x21 x22 x23 x24 x25 x26 x27 x28 x29 x30 x31 x32 x33 x34 x35 x36 x37 x38 x39 x40 x41 x42 x43 x44 x45 x46 x47 x48 x49 x50 x51 x52 x53 x54 x55 : Value} (p gs wb n k : Nat) (D : List Value) (w : World) (R : Act → World → Prop)
    (cp : w.cell? ⟨p, 2, none⟩ = some (.slice (some ⟨gs, 0, none⟩) n n)) (ca : w.cell? ⟨wb, 0, none⟩ = some (.int .i64 (k : Nat))) (hrg : w.rangeAt wb 1 D) (hD : D.length = 64) (h1 : ∀ v ∈ D, v.oneCell' = true)
    (hk : k < n) (_hn : n ≤ 4096) (ht : w.there gs (k * 64) 64) (np : p ≠ gs) (nw : wb ≠ gs)
    (hQ : Hid (∀ (y38 y39 y40 y41 y42 y43 y44 y45 y46 : Value), R ⟨#[.pointer (some ⟨p, 0, none⟩), x1, x2, x3, x4, x5, .pointer (some ⟨wb, 0, none⟩), x7, x8, x9, x10, x11, x12, x13, x14, x15, x16, x17, x18, x19, x20, x21, x22, x23, x24, x25, x26, x27, x28, x29, x30, x31, x32, x33, x34, x35, x36, x37, y38, y39, y40, y41, y42, y43, y44, y45, y46, x47, x48, x49, x50, x51, x52, x53, x54, x55], df⟩ (w.drew.setCells gs (k * 64) D))) :
    Code.wp Tryz.prog cr7 (At R) ⟨#[.pointer (some ⟨p, 0, none⟩), x1, x2, x3, x4, x5, .pointer (some ⟨wb, 0, none⟩), x7, x8, x9, x10, x11, x12, x13, x14, x15, x16, x17, x18, x19, x20, x21, x22, x23, x24, x25, x26, x27, x28, x29, x30, x31, x32, x33, x34, x35, x36, x37, x38, x39, x40, x41, x42, x43, x44, x45, x46, x47, x48, x49, x50, x51, x52, x53, x54, x55], df⟩ w := by
  conv => arg 2; whnf
  have hiD : (Tryz.prog.info? 190).map (·.size) = some D.length := by rw [hD]; exact secSize
  have k0 : (0 : Int) ≤ (k : Int) := by omega
  have k1 : (k : Int) < (n : Int) := by omega
  refine wp_region_held_drew (S := fun w' => w'.cell? ⟨p, 2, none⟩ = some (.slice (some ⟨gs, 0, none⟩) n n) ∧ w'.cell? ⟨wb, 0, none⟩ = some (.int .i64 (k : Nat)) ∧ w'.rangeAt wb 1 D) (by kernel_rfl) ⟨by simpa using cp, by simpa using ca, by simpa using hrg⟩ (fun hHeld => ?_)
  refine wpAnyH_take (i := 0) (oi := ⟨some 38, .move (.tmp 0), _, _, _, none⟩) (v := .pointer (some ⟨p, 0, none⟩)) rfl (by kernel_rfl) (by kernel_rfl) (by kernel_rfl) (fun _ _ _ h => h) (Or.inl ⟨by rfl, by intro w hSw; go_simp⟩) hHeld ?_
  simp only [Act.put, List.setIfInBounds_toArray, List.set_cons_zero, List.set_cons_succ]
  refine wpAnyH_take (i := 1) (oi := ⟨some 39, .nilCheck (.tmp 38), _, _, _, none⟩) (v := .pointer (some ⟨p, 0, none⟩)) rfl (by kernel_rfl) (by kernel_rfl) (by kernel_rfl) (fun _ _ _ h => h) (Or.inl ⟨by rfl, by intro w hSw; go_simp⟩) hHeld ?_
  simp only [Act.put, List.setIfInBounds_toArray, List.set_cons_zero, List.set_cons_succ]
  refine wpAnyH_take (i := 2) (oi := ⟨some 40, .fieldAddr 88 (.tmp 39) 1, _, _, _, none⟩) (v := .pointer (some ⟨p, 2, none⟩)) rfl (by kernel_rfl) (by kernel_rfl) (by kernel_rfl) (fun _ _ _ h => h) (Or.inl ⟨by rfl, by intro w hSw; go_simp⟩) hHeld ?_
  simp only [Act.put, List.setIfInBounds_toArray, List.set_cons_zero, List.set_cons_succ]
  refine wpAnyH_take (i := 3) (oi := ⟨some 41, .load 77 (.tmp 40), _, _, _, none⟩) (v := .slice (some ⟨gs, 0, none⟩) n n) rfl (by kernel_rfl) (by kernel_rfl) (by kernel_rfl) (fun _ _ _ h => h) (Or.inl ⟨by rfl, by intro w hSw; go_split_ands; go_simp⟩) hHeld ?_
  simp only [Act.put, List.setIfInBounds_toArray, List.set_cons_zero, List.set_cons_succ]
  refine wpAnyH_take (i := 4) (oi := ⟨some 42, .fieldAddr 192 (.tmp 6) 0, _, _, _, none⟩) (v := .pointer (some ⟨wb, 0, none⟩)) rfl (by kernel_rfl) (by kernel_rfl) (by kernel_rfl) (fun _ _ _ h => h) (Or.inl ⟨by rfl, by intro w hSw; go_simp⟩) hHeld ?_
  simp only [Act.put, List.setIfInBounds_toArray, List.set_cons_zero, List.set_cons_succ]
  refine wpAnyH_take (i := 5) (oi := ⟨some 43, .load 3 (.tmp 42), _, _, _, none⟩) (v := .int .i64 (k : Nat)) rfl (by kernel_rfl) (by kernel_rfl) (by kernel_rfl) (fun _ _ _ h => h) (Or.inl ⟨by rfl, by intro w hSw; go_split_ands; go_simp⟩) hHeld ?_
  simp only [Act.put, List.setIfInBounds_toArray, List.set_cons_zero, List.set_cons_succ]
  refine wpAnyH_take (i := 6) (oi := ⟨some 44, .fieldAddr 192 (.tmp 6) 1, _, _, _, none⟩) (v := .pointer (some ⟨wb, 1, none⟩)) rfl (by kernel_rfl) (by kernel_rfl) (by kernel_rfl) (fun _ _ _ h => h) (Or.inl ⟨by rfl, by intro w hSw; go_simp⟩) hHeld ?_
  simp only [Act.put, List.setIfInBounds_toArray, List.set_cons_zero, List.set_cons_succ]
  refine wpAnyH_take (i := 7) (oi := ⟨some 45, .load 190 (.tmp 44), _, _, _, none⟩) (v := .agg D.toArray) rfl (by kernel_rfl) (by kernel_rfl) (by kernel_rfl) (fun _ _ _ h => h) (yieldsIf_load_mid (by rfl) _ _ rfl wb 1 rfl D _ (fun w h => by go_split_ands; assumption) Tryz.underlying190 rfl hiD) hHeld ?_
  simp only [Act.put, List.setIfInBounds_toArray, List.set_cons_zero, List.set_cons_succ]
  refine wpAnyH_take (i := 8) (oi := ⟨some 46, .indexAddr 77 (.tmp 41) (.tmp 43), _, _, _, none⟩) (v := .pointer (some ⟨gs, k * 64, none⟩)) rfl (by kernel_rfl) (by kernel_rfl) (by kernel_rfl) (fun _ _ _ h => h) (Or.inl ⟨by rfl, by intro w hSw; go_simp⟩) hHeld ?_
  simp only [Act.put, List.setIfInBounds_toArray, List.set_cons_zero, List.set_cons_succ]
  refine wpAnyH_ready (rs := [9]) (by kernel_rfl) (by simp) ?_
  refine AllReadyH.cons (o := ⟨none, .store 190 (.tmp 46) (.tmp 45), _, _, _, none⟩) rfl (fun K hK => ?_) AllReadyH.nil
  rw [if_pos (by rfl)]
  refine wp_store_mid _ _ _ rfl gs (k * 64) D.toArray rfl rfl (by simpa [hD] using ht) (by simpa using hiD) (all_oneCell_toArray h1) ?_
  have hap : ∀ (a : Addr), a.block ≠ gs → (w.drew.setCells gs (k * 64) D.toArray.toList).cell? a = w.drew.cell? a := fun a ha => World.cell?_setCells_out gs _ _ _ a (fun hb => absurd hb ha)
  refine hK.out _ _ ?_ (fun hHeld2 => ?_)
  · go_split_ands
    refine ⟨by rw [hap _ np]; assumption, by rw [hap _ nw]; assumption, World.rangeAt_setCells_apart (by assumption) _ _ _ (.inl nw)⟩
  clear hK K
  simp only [Act.put]
  refine wpAnyH_done (by kernel_rfl) ?_ _
  exact hQ.out _ _ _ _ _ _ _ _ _
end Go.Proofs.YtdidjdoifpfmmaaGreatDoor
/- The program's forget; operate. -/
namespace Go.Proofs.YtdidjdoifpfmmaaGreatDoor
open Go.RowKit
theorem clear_map {w : World} {gm n : Nat} {D : DataW Unit} (h : w.ownsMap Tryz.prog 3 (plainElem Tryz.prog 3) gm n D) :
    ∃ w', (∀ ty, (Builtin.clear_ #[78] ty #[.map (some gm)]).run Tryz.prog w = .ok (.tuple #[]) w') ∧ w'.ownsMap (H := Unit) Tryz.prog 3 (plainElem Tryz.prog 3) gm 0 (.map []) ∧ w.mapTurned w' gm := by
  obtain ⟨es, clock, hb, _, _, _⟩ := h
  refine ⟨ChangeMaps.setBlock w gm (.map #[] clock), fun ty => ?_, ⟨#[], clock, ChangeMaps.heap_setBlock_same hb _, ⟨by simp, MapKept.stamped_empty clock, by simp⟩, Nat.le_refl _, rfl⟩, ⟨es, clock, #[], clock, hb, rfl⟩⟩
  simp [Builtin.clear_, run_underlying Tryz.underlying78, MapKept.run_getObj_map hb, MapKept.run_setObj_map _ hb, Result.andThen]
  rfl
set_option maxRecDepth 100000 in
set_option maxHeartbeats 1600000 in
theorem devForget_any {w : World} {d : DP} {S : Dk} {lk : Int} {n : Nat} {D : DataW Unit} (h : RowIs w d.p 88 (d.cells S lk)) (hm : w.ownsMap Tryz.prog 3 (plainElem Tryz.prog 3) d.gm n D) (hne : d.p ≠ d.gm) :
    Calls Tryz.prog 104 #[.pointer (some ⟨d.p, 0, none⟩)] w fun e w' => e = .returned (.tuple #[]) ∧ RowIs w' d.p 88 ({ d with wv := .slice none 0 0 }.cells S lk) ∧ w'.ownsMap (H := Unit) Tryz.prog 3 (plainElem Tryz.prog 3) d.gm 0 (.map []) ∧ Fr w w' [d.p, d.gm] := by
  obtain ⟨w1, hclr, hm1, ht⟩ := clear_map hm
  have hf1 : Fr w w1 [d.p, d.gm] := (Fr.refl _ _).grown ht.grown (by simp)
  have h1 : RowIs w1 d.p 88 (d.cells S lk) := ⟨by rw [ht.grown.block d.p h.lt (by simpa using hne)]; exact h.heap⟩
  have c4 : w.cell? ⟨d.p, 4, none⟩ = some (.map (some d.gm)) := h.cell 4
  have c3 : w1.cell? ⟨d.p, 3, none⟩ = some d.wv := h1.cell 3
  have f3 := h1.frozen 3
  have HR : Hid (RowIs (w1.setCell ⟨d.p, 3, none⟩ (.slice none 0 0)) d.p 88 ({ d with wv := .slice none 0 0 }.cells S lk)) := h1.set 3 (.slice none 0 0)
  have HM : Hid ((w1.setCell ⟨d.p, 3, none⟩ (.slice none 0 0)).ownsMap (H := Unit) Tryz.prog 3 (plainElem Tryz.prog 3) d.gm 0 (.map [])) := hm1.setCell (by simpa using hne.symm) _
  have HF : Hid (Fr w (w1.setCell ⟨d.p, 3, none⟩ (.slice none 0 0)) [d.p, d.gm]) := hf1.setCell _ _ (.inl (by simp))
  clear h1 hm1 ht hf1 h hm
  go_enter Tryz.func104, Tryz.ntmps104
  go_wp2
  go_end0
  exact ⟨rfl, HR.out, HM.out, HF.out⟩
end Go.Proofs.YtdidjdoifpfmmaaGreatDoor
namespace Go.Proofs.YtdidjdoifpfmmaaGreatDoor
open Go.RowKit
noncomputable def flA : Code := fstC flCode
theorem Locked.ne {w : World} {d : DP} {S : Dk} (h : Locked w d S) : d.p ≠ d.gs ∧ d.p ≠ d.gm ∧ d.gs ≠ d.gm ∧ (∀ g, d.wv.ownBlock = some g → d.p ≠ g ∧ d.gs ≠ g ∧ d.gm ≠ g) := by
  have hn := h.apart
  simp only [DP.blocks, List.nodup_cons, List.mem_cons, not_or] at hn
  refine ⟨hn.1.1, hn.1.2.1, hn.2.1.1, fun g hg => ?_⟩
  rw [hg] at hn
  simp at hn
  omega
theorem Locked.waits {w : World} {d : DP} {S : Dk} (h : Locked w d S) (hne : 0 < S.wait.length) : ∃ g cap, d.wv = .slice (some ⟨g, 0, none⟩) S.wait.length cap ∧ Has w g 192 cap 65 (wcells S.wait) ∧ S.wait.length ≤ cap ∧ cap ≤ maxLen ∧ d.p ≠ g ∧ d.gs ≠ g ∧ d.gm ≠ g := by
  rcases h.wait.2 with ⟨e, e0⟩ | ⟨g, cap, cur, e, _⟩
  · omega
  · have hw := h.wait
    rw [e] at hw
    obtain ⟨h1, h2, h3⟩ := has_of_owns hw
    exact ⟨g, cap, e, h1, h2, h3, h.ne.2.2.2 g (by rw [e]; rfl)⟩
set_option maxRecDepth 100000 in
set_option maxHeartbeats 1600000 in
theorem flA_any {x1 x2 x3 x4 x5 x6 x7 x8 x9 x10 x11 x12 x13 x14 x15 x16 x17 x18 x19 x20 x21 x22 x23 : Value} {w : World} {d : DP} {S : Dk} (h : Locked w d S) (ok : S.Ok) (b : Nat) (r : RowIs w b 30 [.pointer (some ⟨d.p, 0, none⟩)]) (nb : b ≠ d.gs) (R : Act → World → Prop)
    (hQ : Hid (∀ (y2 y3 y4 y5 y6 y7 y8 y9 y10 y11 y12 y13 y14 y15 y16 y17 y18 y19 y20 y21 : Value) (w' : World), RowIs w' d.gs 190 (secs S.seen) → Fr w w' [d.gs] → R ⟨#[.pointer (some ⟨b, 0, none⟩), x1, y2, y3, y4, y5, y6, y7, y8, y9, y10, y11, y12, y13, y14, y15, y16, y17, y18, y19, y20, y21, x22, x23], []⟩ w')) :
    Code.wp Tryz.prog flA (At R) ⟨#[.pointer (some ⟨b, 0, none⟩), x1, x2, x3, x4, x5, x6, x7, x8, x9, x10, x11, x12, x13, x14, x15, x16, x17, x18, x19, x20, x21, x22, x23], []⟩ w := by
  conv => arg 2; whnf
  obtain ⟨np, npm, ngm, nown⟩ := h.ne
  obtain ⟨aw, cw, hwv⟩ := h.slice
  have hfew := ok.few
  have hmost := ok.most
  have c3 : w.cell? ⟨d.p, 3, none⟩ = some (.slice aw S.wait.length cw) := by rw [← hwv]; exact h.row.cell 3
  have cb : w.cell? ⟨b, 0, none⟩ = some (.pointer (some ⟨d.p, 0, none⟩)) := r.cell 0
  have HW : Hid _ := h
  have HB : Hid _ := r
  clear h r
  refine seq_at ?_
  go_wp2
  show Code.wp _ _ _ _ _
  refine wp_block ?_
  go_loopw [8] (fun i wr => ∃ j : Nat, j ≤ S.wait.length ∧ i = .int .i64 j ∧ RowIs wr d.gs 190 (secs (over S.safe (S.wait.take j))) ∧ Fr w wr [d.gs]) (fun i _ => S.wait.length - (intOf i).toNat)
  case atStart => exact ⟨0, Nat.zero_le _, rfl, by simpa [over] using HW.out.safe, Fr.refl _ _⟩
  case round =>
    obtain ⟨j, hj, rfl, hs, hf⟩ := hrel
    by_cases hlt : j < S.wait.length
    · obtain ⟨g, cap, hwv', hw, hlc, hcm, m1, m2, m3⟩ := HW.out.waits (by omega)
      have e := hwv.symm.trans hwv'
      injection e with e1 _ e2
      subst e1 e2
      have hsz := fun x hx => (ok.wr x hx).2
      have hwr := hw.fr hf (by simpa using m2.symm)
      have hrg := wcells_range hwr hsz j hlt
      have hat := (ok.wr _ (List.getElem_mem hlt)).1
      have hx64 := hsz _ (List.getElem_mem hlt)
      have hstep := over_take_succ S.safe S.wait j hlt
      generalize S.wait[j].1 = k at *
      generalize S.wait[j].2 = x at *
      have hl64 := sec_length x hx64
      have rp := hf.row HW.out.row (by simpa using np)
      have rb := hf.row HB.out (by simpa using nb)
      have hB : ∀ o, Below wr.heap.size wr (wr.alloc o) := fun o => (Below.refl _ _).alloc (Nat.le_refl _) _
      have cb2 : ∀ o, (wr.alloc o).cell? ⟨b, 0, none⟩ = some (.pointer (some ⟨d.p, 0, none⟩)) := fun o => (rb.below (hB o) rb.lt).cell 0
      have cp2 : ∀ o, (wr.alloc o).cell? ⟨d.p, 2, none⟩ = some (.slice (some ⟨d.gs, 0, none⟩) S.safe.length S.safe.length) := fun o => (rp.below (hB o) rp.lt).cell 2
      have hos := over_sizes S.safe (S.wait.take j) ok.sec (fun x hx => hsz x (List.mem_of_mem_take hx))
      have hol := over_length S.safe (S.wait.take j)
      have hs2 : ∀ o, RowIs (wr.alloc o) d.gs 190 (secs (over S.safe (S.wait.take j))) := fun o => hs.below (hB o) hs.lt
      have ht2 := fun o => secs_there (hs2 o) hos k (by omega)
      have rw_ := RowIs.new wr 192 (.int .i64 (k : Nat) :: bytes (textOf x))
      have ca2 : (wr.alloc (.cells (.int .i64 (k : Nat) :: bytes (textOf x)).toArray 192)).cell? ⟨wr.heap.size, 0, none⟩ = some (.int .i64 (k : Nat)) := rw_.cell 0
      have hrg2 : (wr.alloc (.cells (.int .i64 (k : Nat) :: bytes (textOf x)).toArray 192)).rangeAt wr.heap.size 1 (bytes (textOf x)) := by
        intro i v hv
        rw [rw_.cell, Nat.add_comm 1 i, List.getElem?_cons_succ, hv]
      have hsl := hs.lt
      have HN : Hid (RowIs ((wr.alloc (.cells (.int .i64 (k : Nat) :: bytes (textOf x)).toArray 192)).drew.setCells d.gs (k * 64) (bytes (textOf x))) d.gs 190 (secs (over S.safe (S.wait.take (j + 1))))) := by
        rw [hstep]
        exact secs_store (hs2 _).drew hos k (by omega) x hx64
      have HF : Hid (Fr w ((wr.alloc (.cells (.int .i64 (k : Nat) :: bytes (textOf x)).toArray 192)).drew.setCells d.gs (k * 64) (bytes (textOf x))) [d.gs]) := fr_many _ _ _ (hf.alloc _).drew (.inl (by simp))
      have hone : ∀ v ∈ bytes (textOf x), v.oneCell' = true := by
        intro v hv
        obtain ⟨n, _, rfl⟩ := List.mem_map.1 hv
        rfl
      have hoC : (.int .i64 (k : Nat) :: bytes (textOf x) : List Value).toArray.all (·.oneCell') = true := all_oneCell_toArray (by
        intro v hv
        rcases List.mem_cons.1 hv with rfl | hv
        · rfl
        · exact hone v hv)
      have hlC : (.int .i64 (k : Nat) :: bytes (textOf x) : List Value).length = 65 := by rw [List.length_cons, hl64]
      generalize bytes (textOf x) = D at *
      generalize (.int .i64 (k : Nat) :: D : List Value) = C at *
      have hiC : (Tryz.prog.info? 192).map (·.size) = some C.length := by rw [hlC]; exact wrSize
      have hiC2 : (Tryz.prog.info? 192).map (·.size) = some C.toArray.size := hiC
      have hsC : (Tryz.zeroCells192).size = C.toArray.size := by rw [show C.toArray.size = 65 from hlC, zeroW]; simp
      have HT : Hid _ := ht2
      have HR2 : Hid _ := hrg2
      have HO : Hid _ := hone
      clear hs hs2 rw_ rb rp hB hwr hf hw hos ht2 hrg2 hone hsz hstep
      go_wp2_with (first
        | (refine wpList_load_mid rfl 192 _ rfl g (j * 65) rfl _ _ hrg Tryz.underlying192 rfl hiC ?_)
        | (refine wpList_store_new rfl 192 _ _ rfl wr.heap.size _ C.toArray rfl rfl rfl hiC2 hsC hoC ?_))
      refine wp_at (fl3_any d.p d.gs wr.heap.size S.safe.length k b D _ _ (cb2 _) nb (cp2 _) ca2 HR2.out hl64 HO.out hat hmost (HT.out _) np (by omega) ?_)
      refine fun y12 y13 y14 y15 y16 y17 y18 y19 y20 => ?_
      go_wp2
      exact ⟨⟨j + 1, by omega, by go_num, HN.out, HF.out⟩, by simp [intOf]; omega⟩
    · have ej : j = S.wait.length := by omega
      subst ej
      rw [List.take_length] at hs
      have HS : Hid _ := hs
      clear hs
      go_wp2
      exact hQ.out _ _ _ _ _ _ _ _ _ _ _ _ _ _ _ _ _ _ _ _ _ HS.out hf
set_option maxRecDepth 100000 in
set_option maxHeartbeats 1600000 in
theorem devFlush1_any {w : World} {d : DP} {S : Dk} (h : Locked w d S) (ok : S.Ok) (b : Nat) (r : RowIs w b 30 [.pointer (some ⟨d.p, 0, none⟩)]) (nb : b ≠ d.gs) :
    Calls Tryz.prog 148 #[.pointer (some ⟨b, 0, none⟩)] w fun e w' => e = .returned (.tuple #[]) ∧ Locked w' { d with wv := .slice none 0 0 } { S with safe := S.seen, wait := [] } ∧ Fr w w' d.blocks := by
  obtain ⟨np, npm, ngm, nown⟩ := h.ne
  have HQ : Hid (∀ w1 : World, RowIs w1 d.gs 190 (secs S.seen) → Fr w w1 [d.gs] → ∀ w2, RowIs w2 d.p 88 ({ d with wv := .slice none 0 0 }.cells S 1) → w2.ownsMap (H := Unit) Tryz.prog 3 (plainElem Tryz.prog 3) d.gm 0 (.map []) → Fr w1 w2 [d.p, d.gm] → Locked w2 { d with wv := .slice none 0 0 } { S with safe := S.seen, wait := [] } ∧ Fr w w2 d.blocks) := by
    intro w1 hs f1 w2 hr hm f2
    refine ⟨⟨?_, f2.row hs (by simp; exact ⟨np.symm, ngm⟩), World.ownsRow_nil _ _ _ _, hm, ?_⟩, (f1.wider (by simp [DP.blocks])).trans f2 (by intro y hy _; simp at hy; rcases hy with rfl | rfl <;> simp [DP.blocks])⟩
    · show RowIs _ _ _ [_, _, .slice (some ⟨d.gs, 0, none⟩) S.seen.length S.seen.length, _, _, _, _]
      rw [S.seen_length]; exact hr
    · show (d.p :: d.gs :: d.gm :: []).Nodup
      simp only [List.nodup_cons, List.mem_cons, List.not_mem_nil, or_false, not_or, not_false_eq_true, List.nodup_nil, and_true]
      exact ⟨⟨np, npm⟩, ngm⟩
  go_enter Tryz.func148, Tryz.ntmps148
  refine seq_at (flA_any h ok b r nb _ ?_)
  refine fun y2 y3 y4 y5 y6 y7 y8 y9 y10 y11 y12 y13 y14 y15 y16 y17 y18 y19 y20 y21 w1 hs f1 => ?_
  show Code.wp _ _ _ _ _
  have rp := f1.row h.row (by simpa using np)
  have rb : w1.cell? ⟨b, 0, none⟩ = some (.pointer (some ⟨d.p, 0, none⟩)) := (f1.row r (by simpa using nb)).cell 0
  have hm1 := map_fr h.last f1 (by simpa using ngm.symm)
  have hfo := devForget_any rp hm1 npm
  have HK := HQ.out w1 hs f1
  have HL : Hid _ := HK
  clear h r rp hm1 hs f1 HK
  go_wp2_with (go_at_call 104; refine hfo.mono ?_; rintro e w' ⟨rfl, h1, h2, h3⟩)
  go_end0
  exact ⟨rfl, HL.out _ h1 h2 h3⟩
end Go.Proofs.YtdidjdoifpfmmaaGreatDoor
namespace Go.Proofs.YtdidjdoifpfmmaaGreatDoor
open Go.RowKit
set_option maxRecDepth 100000 in
set_option maxHeartbeats 1600000 in
theorem devFlush_ok {w : World} {d : DP} {S : Dk} (h : DevAt w d S) (ok : S.Ok) (hu : S.tick.down = false) (hf : S.fuse ≤ 9223372036854775807) :
    Calls Tryz.prog 83 #[.pointer (some ⟨d.p, 0, none⟩)] w fun e w' =>
      e = .returned .nilIface ∧ (∃ d', DevAt w' d' { S.tick with safe := S.seen, wait := [] } ∧ d'.p = d.p ∧ (∀ b ∈ d'.blocks, b ∈ d.blocks ∨ w.heap.size ≤ b)) ∧ Fr w w' d.blocks := by
  have hB : Below w.heap.size w (w.alloc (.cells #[.pointer (some ⟨d.p, 0, none⟩)] 30)) := (Below.refl _ _).alloc (Nat.le_refl _) _
  have r3 : RowIs (w.alloc (.cells #[.pointer (some ⟨d.p, 0, none⟩)] 30)) w.heap.size 30 [.pointer (some ⟨d.p, 0, none⟩)] := RowIs.new w 30 [.pointer (some ⟨d.p, 0, none⟩)]
  have h1 := h.below hB
  generalize hW : (w.alloc (.cells #[.pointer (some ⟨d.p, 0, none⟩)] 30)) = W at *
  have lp := h.row.lt
  have lm := h.last.lt
  have ls := h.safe.lt
  have z0 : W.cell? ⟨d.p, 0, none⟩ = some (.int .i32 0) := h1.row.cell 0
  have z1 := h1.row.frozen 0
  have c3 : W.cell? ⟨w.heap.size, 0, none⟩ = some (.pointer (some ⟨d.p, 0, none⟩)) := r3.cell 0
  have hL := h1.lock
  have s3 : RowIs (W.setCell ⟨d.p, 0, none⟩ (.int .i32 1)) w.heap.size 30 [.pointer (some ⟨d.p, 0, none⟩)] := r3.other _ (by simp; omega)
  have hfL : Fr w (W.setCell ⟨d.p, 0, none⟩ (.int .i32 1)) d.blocks := (Fr.of_below hB _).setCell _ _ (.inl (by simp [DP.blocks]))
  generalize hWL : W.setCell ⟨d.p, 0, none⟩ (.int .i32 1) = L at *
  have l3 : L.cell? ⟨w.heap.size, 0, none⟩ = some (.pointer (some ⟨d.p, 0, none⟩)) := s3.cell 0
  have hop := devOperate_flush hL.row hu hf #[.pointer (some ⟨w.heap.size, 0, none⟩)] (fun w' => Locked w' { d with wv := .slice none 0 0 } { S.tick with safe := S.seen, wait := [] } ∧ Fr w w' d.blocks) (by
    intro w1 hr f1
    have hT := hL.tick hr f1
    refine (devFlush1_any hT ok.tick w.heap.size (f1.row s3 (by simp; omega)) (by omega)).mono ?_
    rintro e w' ⟨rfl, a1, a2⟩
    refine ⟨rfl, ?_, (hfL.trans f1 (by simp [DP.blocks])).trans a2 (fun y hy _ => hy)⟩
    rw [S.tick_seen] at a1
    exact a1)
  have HO : Hid _ := hop
  clear h1 r3 s3 hL h hop hfL hB
  go_enter_defers Tryz.func83, Tryz.ntmps83
  go_wp2_with (go_at_call 57; refine (lock_free ⟨d.p, 0, none⟩ _ z0 z1).mono ?_; rintro e w' ⟨rfl, rfl⟩)
  refine Calls.mono HO.out ?_
  rintro e w' ⟨rfl, hl, hfr⟩
  have q0 : w'.cell? ⟨d.p, 0, none⟩ = some (.int .i32 1) := hl.row.cell 0
  have q1 : w'.frozen? ⟨d.p, 0, none⟩ = false := hl.row.frozen 0
  have HD : Hid (DevAt (w'.setCell ⟨d.p, 0, none⟩ (.int .i32 0)) { d with wv := .slice none 0 0 } { S.tick with safe := S.seen, wait := [] }) := hl.free
  have HF : Hid (Fr w (w'.setCell ⟨d.p, 0, none⟩ (.int .i32 0)) d.blocks) := hfr.setCell _ _ (.inl (by simp [DP.blocks]))
  clear hl hfr
  go_wp2
  refine leaves_cons (f := 58) (args := #[.pointer (some ⟨d.p, 0, none⟩)]) (by simp) (by simp [go_sem]) ?_
  refine (unlock_deferred ⟨d.p, 0, none⟩ .returning _ q0 q1).mono ?_
  rintro e u' w'' ⟨rfl, rfl, rfl⟩
  refine ⟨_, results_tmp rfl _ _ _, rfl, ⟨_, HD.out, rfl, ?_⟩, HF.out⟩
  intro b hb
  have hb' : b ∈ (d.p :: d.gs :: d.gm :: []) := hb
  simp only [List.mem_cons, List.not_mem_nil, or_false] at hb'
  left
  rcases hb' with rfl | rfl | rfl <;> simp [DP.blocks]
set_option maxRecDepth 100000 in
set_option maxHeartbeats 1600000 in
theorem devFlush_down {w : World} {d : DP} {S : Dk} (h : DevAt w d S) (hu : S.tick.down = true) (hf : S.fuse ≤ 9223372036854775807) (ea : Addr) (hg : w.cell? ⟨1, 0, none⟩ = some (.iface 452 (.pointer (some ea)))) (hp1 : d.p ≠ 1) :
    Calls Tryz.prog 83 #[.pointer (some ⟨d.p, 0, none⟩)] w fun e w' =>
      e = .returned (.iface 452 (.pointer (some ea))) ∧ DevAt w' d S.tick ∧ Fr w w' [d.p] := by
  have hB : Below w.heap.size w (w.alloc (.cells #[.pointer (some ⟨d.p, 0, none⟩)] 30)) := (Below.refl _ _).alloc (Nat.le_refl _) _
  have r3 : RowIs (w.alloc (.cells #[.pointer (some ⟨d.p, 0, none⟩)] 30)) w.heap.size 30 [.pointer (some ⟨d.p, 0, none⟩)] := RowIs.new w 30 [.pointer (some ⟨d.p, 0, none⟩)]
  have h1 := h.below hB
  generalize hW : (w.alloc (.cells #[.pointer (some ⟨d.p, 0, none⟩)] 30)) = W at *
  have lp := h.row.lt
  have z0 : W.cell? ⟨d.p, 0, none⟩ = some (.int .i32 0) := h1.row.cell 0
  have z1 := h1.row.frozen 0
  have c3 : W.cell? ⟨w.heap.size, 0, none⟩ = some (.pointer (some ⟨d.p, 0, none⟩)) := r3.cell 0
  have hL := h1.lock
  have s3 : RowIs (W.setCell ⟨d.p, 0, none⟩ (.int .i32 1)) w.heap.size 30 [.pointer (some ⟨d.p, 0, none⟩)] := r3.other _ (by simp; omega)
  have hfL : Fr w (W.setCell ⟨d.p, 0, none⟩ (.int .i32 1)) [d.p] := (Fr.of_below hB _).setCell _ _ (.inl (by simp))
  generalize hWL : W.setCell ⟨d.p, 0, none⟩ (.int .i32 1) = L at *
  have l3 : L.cell? ⟨w.heap.size, 0, none⟩ = some (.pointer (some ⟨d.p, 0, none⟩)) := s3.cell 0
  have gL : L.cell? ⟨1, 0, none⟩ = some (.iface 452 (.pointer (some ea))) := by
    rw [← hWL, World.cell?_setCell_other _ _ _ _ (by simp []), World.cell?_of_block (hB.block 1 (World.block_lt_of_cell? w _ hg))]
    exact hg
  have hop := devOperate_down hL.row hu hf (.func (.func 148) #[] #[.pointer (some ⟨w.heap.size, 0, none⟩)]) ea gL hp1
  have HK : Hid (∀ w', RowIs w' d.p 88 (d.cells S.tick 1) → Fr L w' [d.p] → DevAt (w'.setCell ⟨d.p, 0, none⟩ (.int .i32 0)) d S.tick ∧ Fr w (w'.setCell ⟨d.p, 0, none⟩ (.int .i32 0)) [d.p]) := by
    intro w' hr f
    exact ⟨(hL.tick hr f).free, (hfL.trans f (by simp)).setCell _ _ (.inl (by simp))⟩
  have HO : Hid _ := hop
  clear h1 r3 s3 hL h hop hfL hB
  go_enter_defers Tryz.func83, Tryz.ntmps83
  go_wp2_with (go_at_call 57; refine (lock_free ⟨d.p, 0, none⟩ _ z0 z1).mono ?_; rintro e w' ⟨rfl, rfl⟩)
  refine Calls.mono HO.out ?_
  rintro e w' ⟨rfl, hr, f⟩
  have q0 : w'.cell? ⟨d.p, 0, none⟩ = some (.int .i32 1) := hr.cell 0
  have q1 := hr.frozen 0
  have HD := HK.out w' hr f
  have HE : Hid _ := HD
  clear hr f HD
  go_wp2
  refine leaves_cons (f := 58) (args := #[.pointer (some ⟨d.p, 0, none⟩)]) (by simp) (by simp [go_sem]) ?_
  refine (unlock_deferred ⟨d.p, 0, none⟩ .returning _ q0 q1).mono ?_
  rintro e u' w'' ⟨rfl, rfl, rfl⟩
  exact ⟨_, results_tmp rfl _ _ _, rfl, HE.out⟩
end Go.Proofs.YtdidjdoifpfmmaaGreatDoor
/- The document's name: may a text be a name? -/
namespace Go.Proofs.YtdidjdoifpfmmaaGreatDoor
open Go.RowKit
def nameChar (c : Nat) : Bool := (decide (97 ≤ c) && decide (c ≤ 122)) || (decide (48 ≤ c) && decide (c ≤ 57)) || decide (c = 46) || decide (c = 95) || decide (c = 45)
def isName (l : List Nat) : Bool := l.all nameChar && decide (1 ≤ l.length) && decide (l.length ≤ 16)
theorem all_take_succ (s : ByteArray) (k : Nat) (h : k < s.size) : ((textOf s).take (k + 1)).all nameChar = (((textOf s).take k).all nameChar && nameChar (s[k]).toNat) := by
  rw [textOf_take s k h, List.all_append]
  simp
set_option maxHeartbeats 1000000 in
theorem refName_any (s : ByteArray) (w : World) (hs : s.size ≤ 1000000) :
    Calls Tryz.prog 256 #[.string s] w fun e w' => e = .returned (.bool (isName (textOf s))) ∧ w = w' := by
  go_enter Tryz.func256, Tryz.ntmps256
  go_wp2
  go_loop [3] (fun i => ∃ k : Nat, k ≤ s.size ∧ i = .int .i64 k ∧ ((textOf s).take k).all nameChar = true) (fun i => s.size - (intOf i).toNat)
  case atStart => exact ⟨0, Nat.zero_le _, rfl, rfl⟩
  case round =>
    obtain ⟨k, hk, rfl, hall⟩ := hrel
    have HA : Hid _ := hall
    clear hall
    by_cases hks : k < s.size
    · have hb : (s[k]).toNat < 256 := (s[k]).toNat_lt
      have hst : Hid _ := all_take_succ s k hks
      have good : Hid (nameChar (s[k]).toNat = true → ((textOf s).take (k + 1)).all nameChar = true) := fun h => by rw [hst.out, HA.out, h]; rfl
      have bad : Hid (nameChar (s[k]).toNat = false → isName (textOf s) = false) := fun h => by
        have h1 : ((textOf s).take (k + 1)).all nameChar = false := by rw [hst.out, h, Bool.and_false]
        have h2 : (textOf s).all nameChar = false := by
          rw [← List.take_append_drop (k + 1) (textOf s), List.all_append, h1, Bool.false_and]
        unfold isName
        rw [h2]; rfl
      clear hst HA
      go_wp2
      all_goals first
        | (refine ⟨⟨k + 1, by omega, by go_num, good.out ?_⟩, by simp [intOf]; omega⟩; unfold nameChar; simp only [Bool.or_eq_true, Bool.and_eq_true, decide_eq_true_eq]; (try simp only [Bool.not_eq_false', decide_eq_true_eq, beq_iff_eq] at *); omega)
        | (go_ret; refine ⟨?_, rfl⟩; rw [bad.out (by unfold nameChar; simp only [Bool.or_eq_false_iff, Bool.and_eq_false_iff, decide_eq_false_iff_not]; (try simp only [Bool.not_eq_true', decide_eq_false_iff_not, beq_eq_false_iff_ne, ne_eq] at *); omega)]; rfl)
    · have ek : k = s.size := by omega
      have hall : (textOf s).all nameChar = true := by
        have := HA.out
        rwa [List.take_of_length_le (by rw [textOf_len]; omega)] at this
      have hl := textOf_len s
      have hn : Hid (isName (textOf s) = (decide (1 ≤ s.size) && decide (s.size ≤ 16))) := by
        show isName (textOf s) = _
        unfold isName
        rw [hall, hl, Bool.true_and]
      clear HA hall hl
      by_cases h1 : 1 ≤ s.size
      · have i1 : (1 : Int) ≤ (s.size : Int) := by omega
        rw [decide_eq_true h1, Bool.true_and] at hn
        go_wp2
        go_ret
        refine ⟨?_, rfl⟩
        rw [hn.out]
        exact ret_eq (congrArg Value.bool (decide_eq_decide.2 (by omega)))
      · have i1 : ¬ (1 : Int) ≤ (s.size : Int) := by omega
        rw [decide_eq_false h1, Bool.false_and] at hn
        go_wp2
        go_ret
        refine ⟨?_, rfl⟩
        rw [hn.out]
        rfl
end Go.Proofs.YtdidjdoifpfmmaaGreatDoor
/- The document's tree: join, find. -/
namespace Go.Proofs.YtdidjdoifpfmmaaGreatDoor
open Go.RowKit
theorem str_beq (a b : ByteArray) : (a.toList == b.toList) = decide (a = b) := by
  rw [ByteArray.toList_eq, ByteArray.toList_eq]
  by_cases h : a = b
  · rw [decide_eq_true h, h]; simp
  · rw [decide_eq_false h, beq_eq_false_iff_ne]
    intro e
    exact h (WideShapes.bytes_inj e)
theorem str_empty (a : ByteArray) : a.toList.isEmpty = decide (a = ⟨#[]⟩) := by
  have := str_beq a ⟨#[]⟩
  rw [← this, ByteArray.toList_eq, ByteArray.toList_eq]
  cases a.data.toList <;> rfl
def joinB (p n : ByteArray) : ByteArray := if p = ⟨#[]⟩ then n else p ++ ⟨#[47]⟩ ++ n
set_option maxHeartbeats 1000000 in
theorem refJoin_any (p n : ByteArray) (w : World) (hp : p.size ≤ 1000000) (hn : n.size ≤ 1000000) :
    Calls Tryz.prog 199 #[.string p, .string n] w fun e w' => e = .returned (.string (joinB p n)) ∧ w = w' := by
  by_cases h : p = ⟨#[]⟩
  · have hj : Hid (joinB p n = n) := by show joinB p n = n; unfold joinB; rw [if_pos h]
    go_enter Tryz.func199, Tryz.ntmps199
    go_wp2
    go_ret
    exact ⟨by rw [hj.out]; rfl, rfl⟩
  · have hj : Hid (joinB p n = p ++ ⟨#[47]⟩ ++ n) := by show joinB p n = _; unfold joinB; rw [if_neg h]
    have he : p.toList.isEmpty = false := by
      rw [str_empty, decide_eq_false h]
    go_enter Tryz.func199, Tryz.ntmps199
    go_wp2
    go_ret
    exact ⟨by rw [hj.out]; rfl, rfl⟩
/-- What stands in a tree of the document's. -/
structure It where
  path : ByteArray
  dir : Bool
  data : ByteArray
def It.cells (x : It) : List Value := [.string x.path, .bool x.dir, .string x.data]
def itCells (L : List It) : List Value := L.flatMap It.cells
/-- The place of what stands at a path; -1: nothing. -/
def findFrom (p : ByteArray) : Nat → List It → Int
  | _, [] => -1
  | k, x :: L => if x.path = p then (k : Nat) else findFrom p (k + 1) L
def findAt (L : List It) (p : ByteArray) : Int := findFrom p 0 L
/-- A tree in memory: its cells lie behind one another. -/
def ItsAt (w : World) (v : Value) (L : List It) : Prop := ∃ ag g cap, v = .slice ag L.length cap ∧ (0 < L.length → ag = some ⟨g, 0, none⟩) ∧ ∀ j v, (itCells L)[j]? = some v → w.cell? ⟨g, j, none⟩ = some v
theorem itCells_length (L : List It) : (itCells L).length = L.length * 3 := flat_length _ 3 L fun _ _ => rfl
theorem itCells_get (L : List It) (k : Nat) (hk : k < L.length) (j : Nat) (hj : j < 3) : (itCells L)[k * 3 + j]? = (L[k].cells)[j]? := flat_get _ 3 L (fun _ _ => rfl) k hk j hj
theorem itsAt_of {w : World} {v : Value} {n : Nat} {L : List It} (h : w.ownsRow 0 308 3 v n (itCells L)) : ItsAt w v L := by
  have hl : L.length = n := by have := h.1; rw [itCells_length] at this; omega
  rcases h.2 with ⟨hv, h0⟩ | ⟨g, cap, cur, hv, _, hb, hc, _, hs, ht⟩
  · have hL : L = [] := List.eq_nil_of_length_eq_zero (by omega)
    subst hL
    exact ⟨none, 0, 0, by rw [hv]; rfl, fun h => absurd h (Nat.lt_irrefl 0), fun j v hj => by simp [itCells] at hj⟩
  · refine ⟨some ⟨g, 0, none⟩, g, cap, by rw [hv, hl], fun _ => rfl, fun j v hj => ?_⟩
    have hj3 : j < n * 3 := by have := (List.getElem?_eq_some_iff.1 hj).1; rw [itCells_length] at this; omega
    rw [cell_of_row w g j cur _ _ hb, ← Array.getElem?_toList]
    rw [← ht, List.getElem?_take_of_lt hj3] at hj
    exact hj
set_option maxHeartbeats 1000000 in
theorem refFind_any (L : List It) (p : ByteArray) (v : Value) (w : World) (h : ItsAt w v L) (hl : L.length ≤ 100000) :
    Calls Tryz.prog 195 #[v, .string p] w fun e w' => e = .returned (.int .i64 (findAt L p)) ∧ w = w' := by
  obtain ⟨ag, g, cap, rfl, hag, hc⟩ := h
  have HA : Hid _ := hag
  have HC : Hid _ := hc
  clear hag hc
  go_enter Tryz.func195, Tryz.ntmps195
  go_wp2
  go_loop [5] (fun i => ∃ k : Nat, k ≤ L.length ∧ i = .int .i64 k ∧ findAt L p = findFrom p k (L.drop k)) (fun i => L.length - (intOf i).toNat)
  case atStart => exact ⟨0, Nat.zero_le _, rfl, rfl⟩
  case round =>
    obtain ⟨k, hk, rfl, hf⟩ := hrel
    by_cases hlt : k < L.length
    · obtain rfl := HA.out (by omega)
      have hd : L.drop k = L[k] :: L.drop (k + 1) := List.drop_eq_getElem_cons hlt
      have hcell : w.cell? ⟨g, k * 3, none⟩ = some (.string L[k].path) := HC.out _ _ (by rw [← Nat.add_zero (k * 3), itCells_get L k hlt 0 (by decide)]; rfl)
      rw [hd, findFrom] at hf
      have HF : Hid _ := hf
      clear hf hd
      by_cases he : L[k].path = p
      · have hb : (L[k].path.toList == p.toList) = true := by rw [str_beq, decide_eq_true he]
        rw [if_pos he] at HF
        go_wp2
        go_ret
        exact ⟨by rw [HF.out]; rfl, rfl⟩
      · have hb : (L[k].path.toList == p.toList) = false := by rw [str_beq, decide_eq_false he]
        rw [if_neg he] at HF
        go_wp2
        exact ⟨⟨k + 1, by omega, by go_num, HF.out⟩, by simp [intOf]; omega⟩
    · have ek : k = L.length := by omega
      rw [ek, List.drop_length, findFrom] at hf
      have HF : Hid _ := hf
      clear hf
      go_wp2
      go_ret
      exact ⟨by rw [HF.out]; rfl, rfl⟩
end Go.Proofs.YtdidjdoifpfmmaaGreatDoor
