import Derived.Test.YtdidjdoifpfmmaaGreatDoorDiskArms
namespace Go.Proofs.YtdidjdoifpfmmaaGreatDoor
open Go.RowKit
set_option maxRecDepth 100000 in
set_option maxHeartbeats 1600000 in
theorem disk_waiting {w : World} (o : OpR) (hk : o.kind = 10) (p ga i dp rq : Nat) (c0 : w.cell? ⟨ga, i, none⟩ = some (.pointer (some ⟨dp, 0, none⟩))) (c1 : w.cell? ⟨ga, i + 1, none⟩ = some (.pointer (some ⟨rq, 0, none⟩)))
    (n m : Nat) (_hn : n ≤ 1000000) (_hm : m ≤ 4096) (aw ag : Option Addr) (cw cs : Nat) (M : World → Prop) (dB : List Nat) (_hlt : ∀ x ∈ dB, x < w.heap.size) (hga : ga ∉ dB)
    (hD : ∀ w1, Below w.heap.size w w1 → Calls Tryz.prog 53 #[.pointer (some ⟨dp, 0, none⟩)] w1 fun e w' => e = .returned (.int .i64 (n : Nat)) ∧ M w' ∧ Fr w1 w' dB)
    (hS : ∀ w1, M w1 → Calls Tryz.prog 62 #[.pointer (some ⟨dp, 0, none⟩)] w1 fun e w' => e = .returned (.int .i64 (m : Nat)) ∧ w1 = w')
    (hM : ∀ w1, M w1 → w1.cell? ⟨rq, 2, none⟩ = some (.slice aw n cw) ∧ w1.cell? ⟨rq, 1, none⟩ = some (.slice ag m cs)) :
    Calls Tryz.prog 72 #[.pointer (some ⟨p, 0, none⟩), .pointer (some ⟨ga, i, none⟩), OpR.agg o] w fun e w' => e = .returned (.bool true) ∧ M w' ∧ Fr w w' dB := by
  unfold OpR.agg
  obtain ⟨k, a, b, d, s, t⟩ := o
  simp only at hk ⊢
  subst hk
  have lga : ga < w.heap.size := World.block_lt_of_cell? w _ c0
  have HD : Hid _ := hD
  have HS : Hid _ := hS
  have HM : Hid _ := hM
  clear hD hS hM
  go_enter Tryz.func72, Tryz.ntmps72
  go_wp2_with (first
    | (go_at_call 53; refine (HD.out _ (below_box w _)).mono ?_; rintro e w2 ⟨rfl, hM, hf⟩; have k3 : w2.cell? ⟨ga, i + 1, none⟩ = some (.pointer (some ⟨rq, 0, none⟩)) := fr_cell hf (by go_simp) hga; have k0 : w2.cell? ⟨ga, i, none⟩ = some (.pointer (some ⟨dp, 0, none⟩)) := fr_cell hf (by go_simp) hga; obtain ⟨m1, m2⟩ := HM.out _ hM; clear HM)
    | (go_at_call 62; refine (HS.out _ hM).mono ?_; rintro e w3 ⟨rfl, rfl⟩))
  go_ret
  exact ⟨rfl, hM, (Fr.of_below (below_box w _) dB).trans hf (fun x hx _ => hx)⟩
set_option maxRecDepth 100000 in
set_option maxHeartbeats 1600000 in
theorem disk_image {w : World} (o : OpR) (hk : o.kind = 11) (p ga i dp rq : Nat) (c0 : w.cell? ⟨ga, i, none⟩ = some (.pointer (some ⟨dp, 0, none⟩))) (c1 : w.cell? ⟨ga, i + 1, none⟩ = some (.pointer (some ⟨rq, 0, none⟩)))
    (left : Int) (hl0 : -10000 ≤ left) (hl1 : left ≤ 262144) (cl : w.cell? ⟨p, 5, none⟩ = some (.int .i64 left)) (fl : w.frozen? ⟨p, 5, none⟩ = false)
    (n gE cE : Nat) (hn : n ≤ 4096) (x : Nat → ByteArray) (M : World → Prop) (dB : List Nat) (_hlt : ∀ x ∈ dB, x < w.heap.size) (hga : ga ∉ dB) (npg : p ≠ ga) (npq : p ≠ rq) (hgq : rq ∉ dB) (hrq : w.cell? ⟨rq, 1, none⟩ = some (.slice (some ⟨gE, 0, none⟩) n cE))
    (h0 : ∀ w1, Below w.heap.size (w.setCell ⟨p, 5, none⟩ (.int .i64 (left - n))) w1 → M w1)
    (hD : ∀ w1 j, j < n → M w1 → Calls Tryz.prog 63 #[.pointer (some ⟨dp, 0, none⟩), .int .i64 (j : Nat)] w1 fun e w' => e = .returned (.tuple #[.string (x j), .int .i64 0]) ∧ M w' ∧ Fr w1 w' dB)
    (hM : ∀ w1 j, j < n → M w1 → w1.cell? ⟨gE, j, none⟩ = some (.string (x j))) :
    Calls Tryz.prog 72 #[.pointer (some ⟨p, 0, none⟩), .pointer (some ⟨ga, i, none⟩), OpR.agg o] w fun e w' => e = .returned (.bool true) ∧ M w' ∧ Fr w w' (p :: dB) := by
  unfold OpR.agg
  obtain ⟨k, a, b, d, s, t⟩ := o
  simp only at hk ⊢
  subst hk
  have lga : ga < w.heap.size := World.block_lt_of_cell? w _ c0
  have lp : p < w.heap.size := World.block_lt_of_cell? w _ cl
  have lq : rq < w.heap.size := World.block_lt_of_cell? w _ hrq
  have HD : Hid _ := hD
  have H0 : Hid _ := h0
  have HM : Hid _ := hM
  clear hD h0 hM
  go_enter Tryz.func72, Tryz.ntmps72
  go_wp2
  go_region
  have hB0 : ∀ o, Below w.heap.size (w.setCell ⟨p, 5, none⟩ (.int .i64 (left - n))) ((w.setCell ⟨p, 5, none⟩ (.int .i64 (left - n))).alloc o).drew := fun o => ((Below.refl _ _).alloc (by simp) o).drew
  have hF0 : ∀ o, Fr w ((w.setCell ⟨p, 5, none⟩ (.int .i64 (left - n))).alloc o).drew (p :: dB) := fun o => ((((Fr.refl w (p :: dB)).setCell _ _ (.inl (by simp))).alloc o).drew)
  have a0 : ∀ o, ((w.setCell ⟨p, 5, none⟩ (.int .i64 (left - n))).alloc o).drew.cell? ⟨ga, i, none⟩ = some (.pointer (some ⟨dp, 0, none⟩)) := fun o => fr_cell (((((Fr.refl w [p]).setCell ⟨p, 5, none⟩ (.int .i64 (left - n)) (.inl (by simp))).alloc o).drew)) c0 (by simpa using npg.symm)
  have a1 : ∀ o, ((w.setCell ⟨p, 5, none⟩ (.int .i64 (left - n))).alloc o).drew.cell? ⟨ga, i + 1, none⟩ = some (.pointer (some ⟨rq, 0, none⟩)) := fun o => fr_cell (((((Fr.refl w [p]).setCell ⟨p, 5, none⟩ (.int .i64 (left - n)) (.inl (by simp))).alloc o).drew)) c1 (by simpa using npg.symm)
  have a2 : ∀ o, ((w.setCell ⟨p, 5, none⟩ (.int .i64 (left - n))).alloc o).drew.cell? ⟨rq, 1, none⟩ = some (.slice (some ⟨gE, 0, none⟩) n cE) := fun o => fr_cell (((((Fr.refl w [p]).setCell ⟨p, 5, none⟩ (.int .i64 (left - n)) (.inl (by simp))).alloc o).drew)) hrq (by simpa using npq.symm)
  have hM0 := H0.out _ (hB0 (.cells #[.int .i64 11, .int .i64 a, .int .i64 b, .int .i64 d, .string s, .string t] 67))
  have hF1 := hF0 (.cells #[.int .i64 11, .int .i64 a, .int .i64 b, .int .i64 d, .string s, .string t] 67)
  replace a0 := a0 (.cells #[.int .i64 11, .int .i64 a, .int .i64 b, .int .i64 d, .string s, .string t] 67)
  replace a1 := a1 (.cells #[.int .i64 11, .int .i64 a, .int .i64 b, .int .i64 d, .string s, .string t] 67)
  replace a2 := a2 (.cells #[.int .i64 11, .int .i64 a, .int .i64 b, .int .i64 d, .string s, .string t] 67)
  clear hB0 hF0 H0 c0 c1 hrq cl fl
  generalize ((w.setCell ⟨p, 5, none⟩ (.int .i64 (left - n))).alloc (.cells #[.int .i64 11, .int .i64 a, .int .i64 b, .int .i64 d, .string s, .string t] 67)).drew = W at *
  go_wp2
  go_loopw [15] (fun ii wr => ∃ j : Nat, j ≤ n ∧ ii = .int .i64 j ∧ M wr ∧ Fr W wr dB) (fun ii _ => n - (intOf ii).toNat)
  case atStart => exact ⟨0, Nat.zero_le _, rfl, hM0, Fr.refl _ _⟩
  case round =>
    obtain ⟨j, hj, rfl, hM, hf⟩ := hrel
    have b0 := fr_cell hf a0 hga
    have b1 := fr_cell hf a1 hga
    have b2 := fr_cell hf a2 hgq
    by_cases hlt2 : j < n
    · have hD := HD.out wr j hlt2 hM
      have HF : Hid _ := hf
      clear hf
      go_wp2_with (go_at_call 63; refine hD.mono ?_; rintro e w2 ⟨rfl, hM2, hf2⟩; have d0 := fr_cell hf2 b0 hga; have d1 := fr_cell hf2 b1 hga; have d2 := fr_cell hf2 b2 hgq; have d3 := HM.out w2 j hlt2 hM2; clear hD)
      exact ⟨⟨j + 1, by omega, by go_num, hM2, HF.out.trans hf2 (fun x hx _ => hx)⟩, by simp [intOf]; omega⟩
    · go_wp2
      go_ret
      exact ⟨rfl, hM, hF1.trans hf (fun x hx _ => List.mem_cons_of_mem _ hx)⟩
end Go.Proofs.YtdidjdoifpfmmaaGreatDoor
namespace Go.Proofs.YtdidjdoifpfmmaaGreatDoor
open Go.RowKit
def intsV (ks : List Int) : List Value := ks.map (Value.int .i64)
theorem keepAt_of {w : World} {v : Value} {n : Nat} {ks : List Int} (h : w.ownsRow 0 3 1 v n (intsV ks)) : ∃ a0 g ck, v = .slice a0 ks.length ck ∧ KeepAt w a0 g 0 ks ∧ (∀ x, v.ownBlock = some x → g = x) ∧ n = ks.length ∧ (0 < ks.length → v.ownBlock = some g) ∧ (v.ownBlock = none → g = 0) := by
  have hl : ks.length = n := by have := h.1; simp [intsV] at this; omega
  rcases h.2 with ⟨hv, h0⟩ | ⟨g, cap, cur, hv, _, hb, _, _, _, ht⟩
  · refine ⟨none, 0, 0, by rw [hv, hl, h0], ⟨fun h => by omega, fun j hj => by omega⟩, ?_, hl.symm, fun h => by omega, fun _ => rfl⟩
    rw [hv]; simp [Value.ownBlock]
  · refine ⟨some ⟨g, 0, none⟩, g, cap, by rw [hv, hl], ⟨fun _ => rfl, fun j hj => ?_⟩, ?_, hl.symm, fun _ => by rw [hv]; rfl, fun h => by rw [hv] at h; simp [Value.ownBlock] at h⟩
    · rw [Nat.zero_add, cell_of_row w g j cur _ _ hb]
      have : (cur.toList.take (n * 1))[j]? = (intsV ks)[j]? := by rw [ht]
      rw [List.getElem?_take_of_lt (by omega)] at this
      rw [← Array.getElem?_toList, this]
      simp [intsV, List.getD_eq_getElem?_getD, hj]
    · rw [hv]; simp [Value.ownBlock]
theorem exec_append {P : Program} {a : Act} {o : Oper} (t : TypeId) (x y : Operand) (ho : o.op = .call { callee := .builtin .append, args := #[x, y], argTypes := #[t, t] }) (u v r : Value) (w w' : World) (hx : a.eval x = u) (hy : a.eval y = v)
    (hr : (Builtin.append_ #[t, t] o.type #[u, v]).run P w = .ok r w') : (execOp a.eval o).run P w = .ok (.value r) w' := by
  unfold execOp
  simp only [ho, resolve, invoke, builtin, Sem.run_bind, Sem.run_pure, Result.andThen_ok, List.map_toArray, List.map_cons, List.map_nil, hx, hy, hr]
/-- The caller's list of places, copied: append([]int{}, keep...). -/
theorem keep_copy (W : World) (e : Nat) (he : W.heap[e]? = some (.cells #[] 3 (0, 0))) {kv : Value} {n : Nat} {ks : List Int} (h : W.ownsRow 0 3 1 kv n (intsV ks)) (hn : n ≤ 1000000) (_hne : kv.ownBlock ≠ some e) :
    ∃ a0 g ck w', (∀ ty, (Builtin.append_ #[34, 34] ty #[.slice (some ⟨e, 0, none⟩) 0 0, kv]).run Tryz.prog W = .ok (.slice a0 ks.length ck) w') ∧ KeepAt w' a0 g 0 ks ∧ (g = e ∨ W.heap.size ≤ g) ∧ Fr W w' [e] := by
  obtain ⟨i0, hi0, hz0, hz1, hz2⟩ := info_parts intInfo
  have hl : ks.length = n := by have := h.1; simp [intsV] at this; omega
  have hown : W.ownsRow 0 3 1 (.slice (some ⟨e, 0, none⟩) 0 0) 0 [] := ⟨rfl, .inr ⟨e, 0, #[], rfl, Nat.zero_le _, he, Nat.le_refl _, Nat.zero_le _, rfl, rfl⟩⟩
  rcases h.2 with ⟨hv, h0⟩ | ⟨g, cap, cur, hv, _, hb, hc, hcm, _, ht⟩
  · refine ⟨some ⟨e, 0, none⟩, e, 0, W, fun ty => ?_, ⟨fun h => by omega, fun j hj => by omega⟩, .inl rfl, Fr.refl _ _⟩
    rw [hv, hl, h0]
    simp [Builtin.append_, run_underlying Tryz.underlying34, sizeOf, typeInfo, hi0, Builtin.lenOf, Builtin.firstCells, Addr.add, storeCells]
  · have hnews : ∀ j u, (intsV ks)[j]? = some u → W.cell? ((⟨g, 0, none⟩ : Addr).add j) = some u := by
      intro j u hu
      have hadd : (⟨g, 0, none⟩ : Addr).add j = ⟨g, j, none⟩ := by unfold Addr.add; split <;> simp_all
      have hj : j < n := by have := (List.getElem?_eq_some_iff.1 hu).1; simp [intsV] at this; omega
      rw [hadd, cell_of_row W g j cur _ _ hb]
      have : (cur.toList.take (n * 1))[j]? = (intsV ks)[j]? := by rw [ht]
      rw [List.getElem?_take_of_lt (by omega)] at this
      rw [← Array.getElem?_toList, this, hu]
    have key := fun ty => run_append_own_at (P := Tryz.prog) W 0 34 ty 3 i0 _ 1 8 Tryz.underlying34 hi0 hz0 hz1 hz2 rfl (by decide) (.slice (some ⟨e, 0, none⟩) 0 0) 0 [] hown ⟨g, 0, none⟩ n cap (intsV ks) (by simp [intsV]; omega) hnews (by intro u hu; obtain ⟨z, _, rfl⟩ := List.mem_map.1 hu; rfl) (by simp [maxLen]; omega) (by omega) (Nat.zero_le _)
    obtain ⟨v', w', hr, ho, hg, _, hb'⟩ := key 0
    rw [Nat.zero_add, List.nil_append] at ho
    obtain ⟨a0, g1, ck, rfl, hk, hx, _, hpos⟩ := keepAt_of ho
    refine ⟨a0, g1, ck, w', fun ty => by rw [hv]; exact hr, hk, ?_, (Fr.refl _ _).grown hg (by intro k hk; left; simpa [Value.ownBlock] using hk.symm)⟩
    rcases hb' with hb' | hb'
    · left; exact hx e (by rw [hb']; rfl)
    · right; rw [hx _ hb']; exact Nat.le_refl _
set_option maxRecDepth 100000 in
set_option maxHeartbeats 1600000 in
theorem disk_crash {w : World} (o : OpR) (hk : o.kind = 9) (p ga i dp rq : Nat) (c0 : w.cell? ⟨ga, i, none⟩ = some (.pointer (some ⟨dp, 0, none⟩))) (c1 : w.cell? ⟨ga, i + 1, none⟩ = some (.pointer (some ⟨rq, 0, none⟩)))
    (kv : Value) (ks : List Int) (cp : w.cell? ⟨p, 1, none⟩ = some kv) (hks : w.ownsRow 0 3 1 kv ks.length (intsV ks)) (hkl : ks.length ≤ 1000000) (_npg : p ≠ ga)
    (M M2 : World → Prop) (dB rB : List Nat) (_hlt : ∀ x ∈ dB, x < w.heap.size) (hga : ga ∉ dB) (hpd : p ∉ dB) (hgr : ga ∉ rB) (hpr : p ∉ rB)
    (hD : ∀ w1 a0 g ck, Below w.heap.size w w1 → KeepAt w1 a0 g 0 ks → w.heap.size ≤ g → Calls Tryz.prog 34 #[.pointer (some ⟨dp, 0, none⟩), .slice a0 ks.length ck] w1 fun e w' => e = .returned (.tuple #[]) ∧ M w' ∧ Fr w1 w' dB)
    (hMd : ∀ w1, M w1 → M w1.drew)
    (hR : ∀ w1, M w1 → Calls Tryz.prog 120 #[.pointer (some ⟨rq, 0, none⟩), kv] w1 fun e w' => e = .returned (.tuple #[]) ∧ M2 w' ∧ Fr w1 w' rB)
    (hM2 : ∀ w1, M2 w1 → w1.frozen? ⟨p, 1, none⟩ = false) :
    Calls Tryz.prog 72 #[.pointer (some ⟨p, 0, none⟩), .pointer (some ⟨ga, i, none⟩), OpR.agg o] w fun e w' => e = .returned (.bool true) ∧ ∃ w1, M2 w1 ∧ Fr w w1 (dB ++ rB) ∧ w' = w1.setCell ⟨p, 1, none⟩ (.slice none 0 0) := by
  unfold OpR.agg
  obtain ⟨k, a, b, d, s, t⟩ := o
  simp only at hk ⊢
  subst hk
  have lga : ga < w.heap.size := World.block_lt_of_cell? w _ c0
  have lp : p < w.heap.size := World.block_lt_of_cell? w _ cp
  have hfW : Fr w (((w.alloc (.cells #[.int .i64 9, .int .i64 a, .int .i64 b, .int .i64 d, .string s, .string t] 67)).drew).alloc (.cells #[] 3)) [] := ((Fr.refl w []).alloc _).drew.alloc _
  have szW : (((w.alloc (.cells #[.int .i64 9, .int .i64 a, .int .i64 b, .int .i64 d, .string s, .string t] 67)).drew).alloc (.cells #[] 3)).heap.size = w.heap.size + 1 + 1 := by simp
  obtain ⟨a0, g, ck, w3, hrun, hka, hgg, hf3⟩ := keep_copy (((w.alloc (.cells #[.int .i64 9, .int .i64 a, .int .i64 b, .int .i64 d, .string s, .string t] 67)).drew).alloc (.cells #[] 3)) (w.heap.size + 1)
    (by have := heap_alloc_new ((w.alloc (.cells #[.int .i64 9, .int .i64 a, .int .i64 b, .int .i64 d, .string s, .string t] 67)).drew) (.cells #[] 3); simpa using this) (owns_fr hks hfW (by simp)) hkl (fun e => by have := own_lt hks _ e; omega)
  have hfw3 : Fr w w3 [] := hfW.trans hf3 (by simp)
  have hb3 : Below w.heap.size w w3 := ⟨hfw3.os, hfw3.tape, hfw3.output, hfw3.size, fun k hk => hfw3.block k hk (by simp)⟩
  have HC := hD w3 a0 g ck hb3 hka (by omega)
  have e0 : w3.cell? ⟨ga, i, none⟩ = some (.pointer (some ⟨dp, 0, none⟩)) := fr_cell hfw3 c0 (by simp)
  have e1 : w3.cell? ⟨p, 1, none⟩ = some kv := fr_cell hfw3 cp (by simp)
  have e2 : w3.cell? ⟨ga, i + 1, none⟩ = some (.pointer (some ⟨rq, 0, none⟩)) := fr_cell hfw3 c1 (by simp)
  have HD : Hid _ := HC
  have HM : Hid _ := hMd
  have HR : Hid _ := hR
  have HM2 : Hid _ := hM2
  have HK : Hid _ := hks
  clear hD hMd hR hM2 HC hks
  go_enter Tryz.func72, Tryz.ntmps72
  go_wp2
  go_region_held3 (fun w' => w'.cell? ⟨ga, i, none⟩ = some (.pointer (some ⟨dp, 0, none⟩)) ∧ w'.cell? ⟨p, 1, none⟩ = some kv) ((first | exact ⟨k0, k1⟩ | exact ⟨e0, e1⟩ | (go_split_ands; refine ⟨by go_keep, by go_keep⟩)))
    ((first
      | (go_at_call 34; refine Calls.mono HD.out ?_; rintro e w4 ⟨rfl, hM, hf4⟩; have k0 := fr_cell hf4 e0 hga; have k1 := fr_cell hf4 e1 hpd; have k2 := fr_cell hf4 e2 hga)
      | (refine step_run (o := ⟨some 109, .call { callee := .builtin .append, args := #[.tmp 104, .tmp 108], argTypes := #[34, 34] }, _, _, _, none⟩) rfl (v := .slice a0 ks.length ck) (w' := w3) ?_ ?_; exact exec_append 34 (.tmp 104) (.tmp 108) rfl _ _ _ _ _ rfl rfl (hrun _))))
  go_wp2
  have hMd : Hid _ := HM.out _ hM
  go_region_held3 (fun w' => w'.cell? ⟨ga, i + 1, none⟩ = some (.pointer (some ⟨rq, 0, none⟩)) ∧ w'.cell? ⟨p, 1, none⟩ = some kv) ((first | exact ⟨j0, j1⟩ | (go_split_ands; refine ⟨by go_keep, by go_keep⟩)))
    ((go_at_call 120; refine (HR.out _ hMd.out).mono ?_; rintro e w5 ⟨rfl, hM5, hf5⟩; have j0 : w5.cell? ⟨ga, i + 1, none⟩ = some (.pointer (some ⟨rq, 0, none⟩)) := fr_cell hf5 (by simpa using k2) hgr; have j1 : w5.cell? ⟨p, 1, none⟩ = some kv := fr_cell hf5 (by simpa using k1) hpr))
  have fz := HM2.out _ hM5
  have hF : Hid (Fr w w5 (dB ++ rB)) := fr_two hb3 hf4 (Below.refl _ _).drew hf5
  clear hf4 hf5
  go_wp2
  go_ret
  exact ⟨rfl, w5, hM5, hF.out, rfl⟩
end Go.Proofs.YtdidjdoifpfmmaaGreatDoor
