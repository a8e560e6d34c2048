import Derived.Test.YtdidjdoifpfmmaaGreatDoorSameEnts
/- The statements' List that answers. -/
namespace Go.Proofs.YtdidjdoifpfmmaaGreatDoor
open Go.RowKit
theorem EnsAt.below {w w' : World} {v : Value} {es : List En} (h : EnsAt w v es) (hb : Below w.heap.size w w') : EnsAt w' v es := by
  obtain ⟨ag, g, cap, h1, h2, h3, h4⟩ := h
  exact ⟨ag, g, cap, h1, h2, h3, fun j x hx => cell_kept (h4 j x hx) (hb.block _ (World.block_lt_of_cell? _ _ (h4 j x hx)))⟩
theorem entInfoL : (Tryz.prog.info? 52).map (fun i => (i.zero, i.size, i.bytes)) = some (some (.agg #[.string ByteArray.empty, .bool false, .int .i64 0]), 3, 32) := by kernel_rfl
/-- What of the entries is gone through: no more than so many. -/
theorem cut_len (B : Int) (es : List En) : (cutEn B es).length = if 0 < B ∧ B < es.length then B.toNat else es.length := by
  unfold cutEn
  split
  · rename_i h
    rw [List.length_take]
    split
    · omega
    · rename_i h2
      rw [Nat.min_eq_right]
      omega
  · rename_i h
    rw [if_neg (by omega)]
theorem cut_take (B : Int) (es : List En) : cutEn B es = es.take (cutEn B es).length := by
  rw [cut_len]
  unfold cutEn
  split
  · split
    · rfl
    · rw [List.take_length, List.take_of_length_le]
      omega
  · rename_i h
    rw [if_neg (by omega), List.take_length]
set_option maxRecDepth 100000 in
set_option maxHeartbeats 4000000 in
theorem told_list_ok {w : World} (o : OpR) (hk : o.kind = 20) (p ga i aq bq : Nat) (c2 : w.cell? ⟨ga, i + 2, none⟩ = some (.pointer (some ⟨aq, 0, none⟩))) (c3 : w.cell? ⟨ga, i + 3, none⟩ = some (.pointer (some ⟨bq, 0, none⟩)))
    (at1 at2 : Int) (es : List En) (hes : es.length ≤ 40000) (M : Value → World → Prop) (M2 : World → Prop) (dB rB : List Nat) (hlt : ∀ x ∈ dB, x < w.heap.size) (hga : ga ∉ dB) (hlr : ∀ x ∈ rB, x < w.heap.size) (hgr : ga ∉ rB)
    (hD : ∀ w1, Below w.heap.size w w1 → Calls Tryz.prog 28 #[.pointer (some ⟨aq, 0, none⟩), .int .i64 o.a, .string o.s, .int .i64 o.b] w1 fun e w' => ∃ v1, e = .returned (.tuple #[v1, .int .i64 0, .int .i64 at1, .bool false]) ∧ M v1 w' ∧ Fr w1 w' dB)
    (hMd : ∀ v w1, M v w1 → M v w1.drew)
    (hR : ∀ v1 w1, M v1 w1 → Calls Tryz.prog 133 #[.pointer (some ⟨bq, 0, none⟩), .int .i64 o.a, .string o.s] w1 fun e w' => ∃ v2, e = .returned (.tuple #[v2, .int .i64 0, .int .i64 at2]) ∧ EnsAt w' v1 (cutEn o.b es) ∧ EnsAt w' v2 es ∧ M2 w' ∧ Fr w1 w' rB)
    (hM2 : ∀ w1 w2, M2 w1 → Below w1.heap.size w1 w2 → M2 w2) :
    Calls Tryz.prog 76 #[.pointer (some ⟨p, 0, none⟩), .pointer (some ⟨ga, i, none⟩), OpR.agg o] w fun e w' => e = .returned (.bool true) ∧ M2 w' ∧ Fr w w' (dB ++ rB) := by
  unfold OpR.agg
  obtain ⟨k, a, b, d, s, t⟩ := o
  simp only at hk hD hR ⊢
  subst hk
  have lga : ga < w.heap.size := World.block_lt_of_cell? w _ c2
  have hbx : w.heap.size ∉ dB := fun h => Nat.lt_irrefl _ (hlt _ h)
  have hbr : w.heap.size ∉ rB := fun h => Nat.lt_irrefl _ (hlr _ h)
  have HD : Hid _ := hD
  have HM : Hid _ := hMd
  have HR : Hid _ := hR
  have HM2 : Hid _ := hM2
  have hcl := cut_len b es
  have hct := cut_take b es
  clear hD hMd hR hM2
  go_enter Tryz.func76, Tryz.ntmps76
  go_wp2
  go_region_held3 (fun w' => w'.cell? ⟨ga, i + 2, none⟩ = some (.pointer (some ⟨aq, 0, none⟩)) ∧ w'.cell? ⟨w.heap.size, 1, none⟩ = some (.int .i64 a) ∧ w'.cell? ⟨w.heap.size, 4, none⟩ = some (.string s) ∧ w'.cell? ⟨w.heap.size, 2, none⟩ = some (.int .i64 b)) ((first | exact ⟨k0, k1, k2, k4⟩ | (go_split_ands; refine ⟨by go_keep, by go_keep, by go_keep, by go_keep⟩)))
    ((go_at_call 28; refine (HD.out _ ((below_box w _).drew)).mono ?_; rintro e w2 ⟨v1, rfl, hM, hf⟩; have k3 : w2.cell? ⟨ga, i + 3, none⟩ = some (.pointer (some ⟨bq, 0, none⟩)) := fr_cell hf (by go_simp) hga; have k0 : w2.cell? ⟨ga, i + 2, none⟩ = some (.pointer (some ⟨aq, 0, none⟩)) := fr_cell hf (by go_simp) hga; have k1 : w2.cell? ⟨w.heap.size, 1, none⟩ = some (.int .i64 a) := fr_cell hf (by go_simp) hbx; have k2 : w2.cell? ⟨w.heap.size, 4, none⟩ = some (.string s) := fr_cell hf (by go_simp) hbx; have k4 : w2.cell? ⟨w.heap.size, 2, none⟩ = some (.int .i64 b) := fr_cell hf (by go_simp) hbx))
  go_wp2
  have hM2 : Hid _ := HM.out _ _ hM
  go_region_held3 (fun w' => w'.cell? ⟨ga, i + 3, none⟩ = some (.pointer (some ⟨bq, 0, none⟩)) ∧ w'.cell? ⟨w.heap.size, 1, none⟩ = some (.int .i64 a) ∧ w'.cell? ⟨w.heap.size, 4, none⟩ = some (.string s)) ((first | exact ⟨j3, j1, j2⟩ | (go_split_ands; refine ⟨by go_keep, by go_keep, by go_keep⟩)))
    ((go_at_call 133; refine (HR.out _ _ hM2.out).mono ?_; rintro e w3 ⟨v2, rfl, hE1, hE2, hM3, hf2⟩; have j3 : w3.cell? ⟨ga, i + 3, none⟩ = some (.pointer (some ⟨bq, 0, none⟩)) := fr_cell hf2 (by simpa using k3) hgr; have j1 : w3.cell? ⟨w.heap.size, 1, none⟩ = some (.int .i64 a) := fr_cell hf2 (by simpa using k1) hbr; have j2 : w3.cell? ⟨w.heap.size, 4, none⟩ = some (.string s) := fr_cell hf2 (by simpa using k2) hbr; have j4 : w3.cell? ⟨w.heap.size, 2, none⟩ = some (.int .i64 b) := fr_cell hf2 (by simpa using k4) hbr))
  have hF : Hid _ := fr_two ((below_box w _).drew) hf (Below.refl _ _).drew hf2
  clear hf hf2 k0 k1 k2 k3 k4 j1 j2 j3
  obtain ⟨ag, g2, cap2, rfl, hcap, hag, hcl2⟩ := hE2
  have hE1' : Hid _ := hE1
  have lg3 : Hid (0 < es.length → g2 < w3.heap.size) := fun h => by
    have := (EnsAt.three hcl2 0 h).1
    exact World.block_lt_of_cell? _ _ this
  have HL0 : Hid (∀ wr, Below w3.heap.size w3 wr → ∀ j, j < (cutEn b es).length → ∃ x : En, (cutEn b es)[j]? = some x ∧ wr.cell? ⟨g2, j * 3, none⟩ = some (.string x.name) ∧ wr.cell? ⟨g2, j * 3 + 1, none⟩ = some (.bool x.dir) ∧ wr.cell? ⟨g2, j * 3 + 2, none⟩ = some (.int .i64 (x.size : Nat))) := fun wr hb j hj => by
    have hje : j < es.length := by rw [hcl] at hj; split at hj <;> omega
    have c1 : ∀ j x, (enCells es)[j]? = some x → wr.cell? ⟨g2, j, none⟩ = some x := fun j x hx => cell_kept (hcl2 j x hx) (hb.block _ (World.block_lt_of_cell? _ _ (hcl2 j x hx)))
    refine ⟨es[j], ?_, EnsAt.three c1 j hje⟩
    rw [hct, List.getElem?_take_of_lt hj, List.getElem?_eq_getElem hje]
  clear hE1 hcl2 hct
  generalize cutEn b es = es1 at *
  have HL : Hid _ := HL0.out
  clear HL0
  have hM3' : Hid _ := hM3
  have HF : Hid _ := hF.out
  clear hM3 hM
  obtain ⟨i0, hi0, hz0, hz1, hz2⟩ := info_parts entInfoL
  by_cases hb0 : 0 < b
  · by_cases hb1 : b < (es.length : Int)
    · -- cut
      obtain ⟨m, rfl⟩ := Int.eq_ofNat_of_zero_le (Int.le_of_lt hb0)
      have kb : (0 : Int) < (m : Int) := hb0
      have kc : (m : Int) < (es.length : Int) := hb1
      have kd : (0 : Int) ≤ (m : Int) := by omega
      have ke : (m : Int) ≤ (cap2 : Int) := by omega
      have hn1 : Hid (es1.length = m) := by show _ = _; rw [hcl, if_pos (by omega)]; omega
      rw [hn1.out] at HL
      obtain rfl := hag (by omega)
      clear hcl
      go_wp2
      go_loopw [29, 30] (fun bv iv wr => ∃ (j : Nat) (ao : Option Addr) (co : Nat), bv = .slice ao j co ∧ iv = .int .i64 j ∧ j ≤ m ∧ wr.ownsRow w3.heap.size 52 3 (.slice ao j co) j (enCells (es1.take j)) ∧ Below w3.heap.size w3 wr) (fun _ iv _ => m - (intOf iv).toNat)
      case atStart => exact ⟨0, none, 0, rfl, rfl, Nat.zero_le _, World.ownsRow_nil _ _ _ _, Below.refl _ _⟩
      case round =>
        obtain ⟨j, ao, co, rfl, rfl, hjn, ho, hbr⟩ := hrel
        have HO : Hid _ := ho
        have HBr : Hid _ := hbr
        clear ho hbr
        by_cases hlt : j < m
        · have j0 : (0 : Int) ≤ (j : Int) := by omega
          have j1 : (j : Int) < (m : Int) := by omega
          obtain ⟨⟨xn, xd, xs⟩, hx, p0, p1, p2⟩ := HL.out wr HBr.out j hlt
          have HT : Hid (enCells (es1.take (j + 1)) = enCells (es1.take j) ++ [.string xn, .bool xd, .int .i64 (xs : Nat)]) := by
            show _ = _
            rw [List.take_add_one, hx, Option.toList_some, enCells, enCells, List.flatMap_append, List.flatMap_singleton]
            rfl
          dsimp only at p0 p1 p2
          clear hx
          have HOd : Hid (wr.drew.ownsRow w3.heap.size 52 3 (.slice ao j co) j (enCells (es1.take j))) := HO.out
          have HAo : Hid (∀ m, (Value.slice ao j co).ownBlock = some m → w3.heap.size ≤ m ∧ m < wr.heap.size) := fun m hm => ⟨own_ge HO.out m hm, own_inside HO.out m hm⟩
          have lg2 : g2 < wr.heap.size := World.block_lt_of_cell? _ _ p0
          have ng2 : (Value.slice ao j co).ownBlock ≠ some g2 := fun e => by have := (HAo.out g2 e).1; have := lg3.out (by omega); omega
          have q0 : wr.cell? ⟨g2, j * 3, none⟩ = some (.string xn) := p0
          have q1 : wr.cell? ⟨g2, j * 3 + 1, none⟩ = some (.bool xd) := p1
          have q2 : wr.cell? ⟨g2, j * 3 + 2, none⟩ = some (.int .i64 (xs : Nat)) := p2
          clear p0 p1 p2
          have hB6 : Hid (Below w3.heap.size w3 wr.drew) := HBr.out.drew
          have hsz : wr.drew.heap.size = wr.heap.size := rfl
          generalize hxs : enCells (es1.take j) = ys at *
          clear hxs
          have hjj : j ≤ 40000 := by omega
          go_wp2
          go_region_held3 (fun w' => w'.cell? ⟨g2, j * 3, none⟩ = some (.string xn) ∧ w'.cell? ⟨g2, j * 3 + 1, none⟩ = some (.bool xd) ∧ w'.cell? ⟨g2, j * 3 + 2, none⟩ = some (.int .i64 (xs : Nat))) ((first | exact ⟨q0, q1, q2⟩ | (go_split_ands; refine ⟨by go_keep, by go_keep, by go_keep⟩) | (go_split_ands; refine ⟨by rw [hgrow.cell_far _ (by simp; omega) ng2.symm]; assumption, by rw [hgrow.cell_far _ (by simp; omega) ng2.symm]; assumption, by rw [hgrow.cell_far _ (by simp; omega) ng2.symm]; assumption⟩))) ((refine step_append_lies _ (by rfl) _ _ _ (by rfl) w3.heap.size 52 i0 _ 3 32 Tryz.underlying48 hi0 hz0 hz1 hz2 rfl (by omega) (.slice ao j co) j ys (by rfl) (HOd.out.alloc _) ⟨wr.heap.size, 0, none⟩ 1 1 [.string xn, .bool xd, .int .i64 (xs : Nat)] (by rfl) (by rfl) (World.news_of_block (cs := #[.string xn, .bool xd, .int .i64 (xs : Nat)]) (t := 52) (fr := (0, 0)) (heap_alloc_new wr.drew _)) (by simp [Value.oneCell']) (by omega) (by unfold maxLen; omega) (by omega) (by simp; have := HBr.out.size; omega) (wr.heap.size + 1) (by simp) ?_; intro gg cap w7 hown hgrow hat hlt7))
          go_wp2
          refine ⟨⟨j + 1, some ⟨gg, 0, none⟩, cap, rfl, by go_num, by omega, by rw [HT.out]; exact hown, ?_⟩, by simp [intOf]; omega⟩
          have hbb : Below w3.heap.size w3 (wr.alloc (.cells #[.string xn, .bool xd, .int .i64 (xs : Nat)] 52)).drew := (HBr.out.alloc HBr.out.size _).drew
          have hbs := HBr.out.size
          refine ⟨hgrow.os.trans hbb.os, hgrow.tape.trans hbb.tape, hgrow.output.trans hbb.output, Nat.le_trans hbb.size hgrow.size, fun n hn => ?_⟩
          refine (hgrow.block n (by simp; omega) (fun e => ?_)).trans (hbb.block n hn)
          have := (HAo.out n e.symm).1
          omega
        · have ej : j = m := by omega
          have HTe : Hid (es1.take j = es1) := by show _ = _; rw [ej, ← hn1.out, List.take_length]
          have ej2 := ej.symm
          clear ej
          subst ej2
          have kk1 : ¬ (m : Int) < (m : Int) := by omega
          have hE3 : EnsAt wr (.slice ao m co) es1 := by
            have := ensAt_of HO.out
            rw [HTe.out] at this
            exact this
          have hSm := sameEntries_true (EnsAt.below hE1'.out HBr.out) hE3 (by have := hn1.out; omega)
          go_wp2_with (go_at_call 134; refine hSm.mono ?_; rintro e w9 ⟨rfl, hb9⟩)
          go_ret
          have hb3 : Below w3.heap.size w3 w9 := HBr.out.trans (hb9.mono HBr.out.size)
          exact ⟨rfl, HM2.out _ _ hM3'.out hb3, HF.out.trans (Fr.of_below hb3 []) (by simp)⟩
    · -- all, though a number is told
      have kb : 0 < b := hb0
      have kc : ¬ (b < (es.length : Int)) := by omega
      have hn1 : Hid (es1.length = es.length) := by show _ = _; rw [hcl, if_neg (by omega)]
      rw [hn1.out] at HL
      clear hcl
      go_wp2
      go_loopw [29, 30] (fun bv iv wr => ∃ (j : Nat) (ao : Option Addr) (co : Nat), bv = .slice ao j co ∧ iv = .int .i64 j ∧ j ≤ es.length ∧ wr.ownsRow w3.heap.size 52 3 (.slice ao j co) j (enCells (es1.take j)) ∧ Below w3.heap.size w3 wr) (fun _ iv _ => es.length - (intOf iv).toNat)
      case atStart => exact ⟨0, none, 0, rfl, rfl, Nat.zero_le _, World.ownsRow_nil _ _ _ _, Below.refl _ _⟩
      case round =>
        obtain ⟨j, ao, co, rfl, rfl, hjn, ho, hbr⟩ := hrel
        have HO : Hid _ := ho
        have HBr : Hid _ := hbr
        clear ho hbr
        by_cases hlt : j < es.length
        · have j0 : (0 : Int) ≤ (j : Int) := by omega
          have j1 : (j : Int) < (es.length : Int) := by omega
          obtain ⟨⟨xn, xd, xs⟩, hx, p0, p1, p2⟩ := HL.out wr HBr.out j hlt
          have HT : Hid (enCells (es1.take (j + 1)) = enCells (es1.take j) ++ [.string xn, .bool xd, .int .i64 (xs : Nat)]) := by
            show _ = _
            rw [List.take_add_one, hx, Option.toList_some, enCells, enCells, List.flatMap_append, List.flatMap_singleton]
            rfl
          dsimp only at p0 p1 p2
          clear hx
          obtain rfl := hag (by omega)
          have HOd : Hid (wr.drew.ownsRow w3.heap.size 52 3 (.slice ao j co) j (enCells (es1.take j))) := HO.out
          have HAo : Hid (∀ m, (Value.slice ao j co).ownBlock = some m → w3.heap.size ≤ m ∧ m < wr.heap.size) := fun m hm => ⟨own_ge HO.out m hm, own_inside HO.out m hm⟩
          have lg2 : g2 < wr.heap.size := World.block_lt_of_cell? _ _ p0
          have ng2 : (Value.slice ao j co).ownBlock ≠ some g2 := fun e => by have := (HAo.out g2 e).1; have := lg3.out (by omega); omega
          have q0 : wr.cell? ⟨g2, j * 3, none⟩ = some (.string xn) := p0
          have q1 : wr.cell? ⟨g2, j * 3 + 1, none⟩ = some (.bool xd) := p1
          have q2 : wr.cell? ⟨g2, j * 3 + 2, none⟩ = some (.int .i64 (xs : Nat)) := p2
          clear p0 p1 p2
          have hB6 : Hid (Below w3.heap.size w3 wr.drew) := HBr.out.drew
          have hsz : wr.drew.heap.size = wr.heap.size := rfl
          generalize hxs : enCells (es1.take j) = ys at *
          clear hxs
          have hjj : j ≤ 40000 := by omega
          go_wp2
          go_region_held3 (fun w' => w'.cell? ⟨g2, j * 3, none⟩ = some (.string xn) ∧ w'.cell? ⟨g2, j * 3 + 1, none⟩ = some (.bool xd) ∧ w'.cell? ⟨g2, j * 3 + 2, none⟩ = some (.int .i64 (xs : Nat))) ((first | exact ⟨q0, q1, q2⟩ | (go_split_ands; refine ⟨by go_keep, by go_keep, by go_keep⟩) | (go_split_ands; refine ⟨by rw [hgrow.cell_far _ (by simp; omega) ng2.symm]; assumption, by rw [hgrow.cell_far _ (by simp; omega) ng2.symm]; assumption, by rw [hgrow.cell_far _ (by simp; omega) ng2.symm]; assumption⟩))) ((refine step_append_lies _ (by rfl) _ _ _ (by rfl) w3.heap.size 52 i0 _ 3 32 Tryz.underlying48 hi0 hz0 hz1 hz2 rfl (by omega) (.slice ao j co) j ys (by rfl) (HOd.out.alloc _) ⟨wr.heap.size, 0, none⟩ 1 1 [.string xn, .bool xd, .int .i64 (xs : Nat)] (by rfl) (by rfl) (World.news_of_block (cs := #[.string xn, .bool xd, .int .i64 (xs : Nat)]) (t := 52) (fr := (0, 0)) (heap_alloc_new wr.drew _)) (by simp [Value.oneCell']) (by omega) (by unfold maxLen; omega) (by omega) (by simp; have := HBr.out.size; omega) (wr.heap.size + 1) (by simp) ?_; intro gg cap w7 hown hgrow hat hlt7))
          go_wp2
          refine ⟨⟨j + 1, some ⟨gg, 0, none⟩, cap, rfl, by go_num, by omega, by rw [HT.out]; exact hown, ?_⟩, by simp [intOf]; omega⟩
          have hbb : Below w3.heap.size w3 (wr.alloc (.cells #[.string xn, .bool xd, .int .i64 (xs : Nat)] 52)).drew := (HBr.out.alloc HBr.out.size _).drew
          have hbs := HBr.out.size
          refine ⟨hgrow.os.trans hbb.os, hgrow.tape.trans hbb.tape, hgrow.output.trans hbb.output, Nat.le_trans hbb.size hgrow.size, fun n hn => ?_⟩
          refine (hgrow.block n (by simp; omega) (fun e => ?_)).trans (hbb.block n hn)
          have := (HAo.out n e.symm).1
          omega
        · have ej : j = es.length := by omega
          have HTe : Hid (es1.take j = es1) := by show _ = _; rw [ej, ← hn1.out, List.take_length]
          have ej2 := ej.symm
          clear ej
          subst ej2
          have kk1 : ¬ (es.length : Int) < (es.length : Int) := by omega
          have hE3 : EnsAt wr (.slice ao es.length co) es1 := by
            have := ensAt_of HO.out
            rw [HTe.out] at this
            exact this
          have hSm := sameEntries_true (EnsAt.below hE1'.out HBr.out) hE3 (by have := hn1.out; omega)
          go_wp2_with (go_at_call 134; refine hSm.mono ?_; rintro e w9 ⟨rfl, hb9⟩)
          go_ret
          have hb3 : Below w3.heap.size w3 w9 := HBr.out.trans (hb9.mono HBr.out.size)
          exact ⟨rfl, HM2.out _ _ hM3'.out hb3, HF.out.trans (Fr.of_below hb3 []) (by simp)⟩
  · -- all
    have kb : ¬ (0 < b) := hb0
    have hn1 : Hid (es1.length = es.length) := by show _ = _; rw [hcl, if_neg (by omega)]
    rw [hn1.out] at HL
    clear hcl
    go_wp2
    go_loopw [29, 30] (fun bv iv wr => ∃ (j : Nat) (ao : Option Addr) (co : Nat), bv = .slice ao j co ∧ iv = .int .i64 j ∧ j ≤ es.length ∧ wr.ownsRow w3.heap.size 52 3 (.slice ao j co) j (enCells (es1.take j)) ∧ Below w3.heap.size w3 wr) (fun _ iv _ => es.length - (intOf iv).toNat)
    case atStart => exact ⟨0, none, 0, rfl, rfl, Nat.zero_le _, World.ownsRow_nil _ _ _ _, Below.refl _ _⟩
    case round =>
      obtain ⟨j, ao, co, rfl, rfl, hjn, ho, hbr⟩ := hrel
      have HO : Hid _ := ho
      have HBr : Hid _ := hbr
      clear ho hbr
      by_cases hlt : j < es.length
      · have j0 : (0 : Int) ≤ (j : Int) := by omega
        have j1 : (j : Int) < (es.length : Int) := by omega
        obtain ⟨⟨xn, xd, xs⟩, hx, p0, p1, p2⟩ := HL.out wr HBr.out j hlt
        have HT : Hid (enCells (es1.take (j + 1)) = enCells (es1.take j) ++ [.string xn, .bool xd, .int .i64 (xs : Nat)]) := by
          show _ = _
          rw [List.take_add_one, hx, Option.toList_some, enCells, enCells, List.flatMap_append, List.flatMap_singleton]
          rfl
        dsimp only at p0 p1 p2
        clear hx
        obtain rfl := hag (by omega)
        have HOd : Hid (wr.drew.ownsRow w3.heap.size 52 3 (.slice ao j co) j (enCells (es1.take j))) := HO.out
        have HAo : Hid (∀ m, (Value.slice ao j co).ownBlock = some m → w3.heap.size ≤ m ∧ m < wr.heap.size) := fun m hm => ⟨own_ge HO.out m hm, own_inside HO.out m hm⟩
        have lg2 : g2 < wr.heap.size := World.block_lt_of_cell? _ _ p0
        have ng2 : (Value.slice ao j co).ownBlock ≠ some g2 := fun e => by have := (HAo.out g2 e).1; have := lg3.out (by omega); omega
        have q0 : wr.cell? ⟨g2, j * 3, none⟩ = some (.string xn) := p0
        have q1 : wr.cell? ⟨g2, j * 3 + 1, none⟩ = some (.bool xd) := p1
        have q2 : wr.cell? ⟨g2, j * 3 + 2, none⟩ = some (.int .i64 (xs : Nat)) := p2
        clear p0 p1 p2
        have hB6 : Hid (Below w3.heap.size w3 wr.drew) := HBr.out.drew
        have hsz : wr.drew.heap.size = wr.heap.size := rfl
        generalize hxs : enCells (es1.take j) = ys at *
        clear hxs
        have hjj : j ≤ 40000 := by omega
        go_wp2
        go_region_held3 (fun w' => w'.cell? ⟨g2, j * 3, none⟩ = some (.string xn) ∧ w'.cell? ⟨g2, j * 3 + 1, none⟩ = some (.bool xd) ∧ w'.cell? ⟨g2, j * 3 + 2, none⟩ = some (.int .i64 (xs : Nat))) ((first | exact ⟨q0, q1, q2⟩ | (go_split_ands; refine ⟨by go_keep, by go_keep, by go_keep⟩) | (go_split_ands; refine ⟨by rw [hgrow.cell_far _ (by simp; omega) ng2.symm]; assumption, by rw [hgrow.cell_far _ (by simp; omega) ng2.symm]; assumption, by rw [hgrow.cell_far _ (by simp; omega) ng2.symm]; assumption⟩))) ((refine step_append_lies _ (by rfl) _ _ _ (by rfl) w3.heap.size 52 i0 _ 3 32 Tryz.underlying48 hi0 hz0 hz1 hz2 rfl (by omega) (.slice ao j co) j ys (by rfl) (HOd.out.alloc _) ⟨wr.heap.size, 0, none⟩ 1 1 [.string xn, .bool xd, .int .i64 (xs : Nat)] (by rfl) (by rfl) (World.news_of_block (cs := #[.string xn, .bool xd, .int .i64 (xs : Nat)]) (t := 52) (fr := (0, 0)) (heap_alloc_new wr.drew _)) (by simp [Value.oneCell']) (by omega) (by unfold maxLen; omega) (by omega) (by simp; have := HBr.out.size; omega) (wr.heap.size + 1) (by simp) ?_; intro gg cap w7 hown hgrow hat hlt7))
        go_wp2
        refine ⟨⟨j + 1, some ⟨gg, 0, none⟩, cap, rfl, by go_num, by omega, by rw [HT.out]; exact hown, ?_⟩, by simp [intOf]; omega⟩
        have hbb : Below w3.heap.size w3 (wr.alloc (.cells #[.string xn, .bool xd, .int .i64 (xs : Nat)] 52)).drew := (HBr.out.alloc HBr.out.size _).drew
        have hbs := HBr.out.size
        refine ⟨hgrow.os.trans hbb.os, hgrow.tape.trans hbb.tape, hgrow.output.trans hbb.output, Nat.le_trans hbb.size hgrow.size, fun n hn => ?_⟩
        refine (hgrow.block n (by simp; omega) (fun e => ?_)).trans (hbb.block n hn)
        have := (HAo.out n e.symm).1
        omega
      · have ej : j = es.length := by omega
        have HTe : Hid (es1.take j = es1) := by show _ = _; rw [ej, ← hn1.out, List.take_length]
        have ej2 := ej.symm
        clear ej
        subst ej2
        have kk1 : ¬ (es.length : Int) < (es.length : Int) := by omega
        have hE3 : EnsAt wr (.slice ao es.length co) es1 := by
          have := ensAt_of HO.out
          rw [HTe.out] at this
          exact this
        have hSm := sameEntries_true (EnsAt.below hE1'.out HBr.out) hE3 (by have := hn1.out; omega)
        go_wp2_with (go_at_call 134; refine hSm.mono ?_; rintro e w9 ⟨rfl, hb9⟩)
        go_ret
        have hb3 : Below w3.heap.size w3 w9 := HBr.out.trans (hb9.mono HBr.out.size)
        exact ⟨rfl, HM2.out _ _ hM3'.out hb3, HF.out.trans (Fr.of_below hb3 []) (by simp)⟩
end Go.Proofs.YtdidjdoifpfmmaaGreatDoor
