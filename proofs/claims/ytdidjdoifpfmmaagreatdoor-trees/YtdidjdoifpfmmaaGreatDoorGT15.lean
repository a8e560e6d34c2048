import Derived.Test.YtdidjdoifpfmmaaGreatDoorGT14
import Derived.Deep.RegionHeld3
import Derived.Test.YtdidjdoifpfmmaaGreatDoorGT12
/- The program's node.put, newFile, newDirectory. -/
namespace Go.Proofs.YtdidjdoifpfmmaaGreatDoor
open Go.RowKit
set_option maxHeartbeats 1000000 in
theorem devClone (s : ByteArray) (w : World) (h : s.size ≤ 1000000) : Calls Tryz.prog 158 #[.string s] w fun e w' => e = .returned (.string s) ∧ Below w.heap.size w w' := by
  have c : Calls Tryz.prog 226 #[.string s] w fun e w' => e = .returned (.string s) ∧ Below w.heap.size w w' := Any.stringslite_Clone Tryz.laysM316 s w (by omega)
  go_enter Tryz.func158, Tryz.ntmps158
  go_wp2_with (go_at_call 226; refine c.mono ?_; rintro e w' ⟨rfl, hb⟩)
  go_ret
  exact ⟨rfl, hb⟩
theorem ownsMap_below {w w' : World} {b n : Nat} {D : DataW Unit} (h : w.ownsMap Tryz.prog 9 nodeR b n D) (hb : Below w.heap.size w w') : w'.ownsMap Tryz.prog 9 nodeR b n D :=
  h.kept (row := none) ⟨hb.os, hb.tape, hb.output, hb.size, fun i hi _ => hb.block i hi⟩ (by simp)
set_option maxRecDepth 100000 in
set_option maxHeartbeats 1000000 in
theorem devPut_any {w : World} {bd mb n : Nat} {D : DataW Unit} (ho : w.ownsMap Tryz.prog 9 nodeR mb n D) (hn : n ≤ 1000000) (c0 : w.cell? ⟨bd, 0, none⟩ = some (.map (some mb))) (k : ByteArray) (hk : k.size ≤ 1000) (nb : Nat) :
    Calls Tryz.prog 91 #[.pointer (some ⟨bd, 0, none⟩), .string k, .pointer (some ⟨nb, 0, none⟩)] w fun e w' =>
      e = .returned (.tuple #[]) ∧ w'.ownsMap Tryz.prog 9 nodeR mb (n + 1) (D.put (.string k.data.toList) (.lit (.int .i64 (nb : Nat)))) ∧ Fr w w' [mb] := by
  have hcl : ∀ w, Calls Tryz.prog 158 #[.string k] w fun e w' => e = .returned (.string k) ∧ Below w.heap.size w w' := fun w => devClone k w (by omega)
  have l0 : bd < w.drew.heap.size := World.block_lt_of_cell? _ _ c0
  have hne : bd ≠ mb := by
    rintro rfl
    obtain ⟨es, clock, h1, _⟩ := ho
    simp [World.cell?, h1] at c0
  go_enter Tryz.func91, Tryz.ntmps91
  go_region_held3 (fun w' => w'.cell? ⟨bd, 0, none⟩ = some (.map (some mb))) ((first | exact c0 | exact cell_kept (cell_kept c0 (hb.block _ l0)) (ht2.grown.block _ (Nat.lt_of_lt_of_le l0 hb.size) (by simpa using hne)) | exact cell_kept c0 (hb.block _ l0) | go_keep)) ((go_at_call 158; refine (hcl _).mono ?_; rintro e w1 ⟨rfl, hb⟩; obtain ⟨w2, hupd, ho2, ht2⟩ := (ownsMap_below ho.drew hb).store (t := 175) (e := 111) strKeyed Tryz.underlying175 (by simp [maxLen]; omega) (keyOf_name k (by omega)) (nodeR_mk nb)))
  go_end0
  exact ⟨rfl, ho2, ((Fr.refl w [mb]).drew.trans (Fr.of_below hb []) (by simp)).grown ht2.grown (fun k hk => .inl (by simp at hk; simp [hk]))⟩
/-- A node that was made: its two cells. -/
def NewNode (w w' : World) (v : Value) (m : Option Nat) (d : ByteArray) : Prop := ∃ b, v = .pointer (some ⟨b, 0, none⟩) ∧ w.heap.size ≤ b ∧ b < w'.heap.size ∧ w'.cell? ⟨b, 0, none⟩ = some (.map m) ∧ w'.cell? ⟨b, 1, none⟩ = some (.string d)
theorem nodeInfo : (Tryz.prog.info? 177).map (fun i => (i.zero, i.size, i.bytes)) = some (some (.agg #[.map none, .string ByteArray.empty]), 2, 24) := by kernel_rfl
theorem node_news (W : World) (t : TypeId) (a b : Value) : (W.alloc (.cells #[a, b] t)).cell? ⟨W.heap.size, 0, none⟩ = some a ∧ (W.alloc (.cells #[a, b] t)).cell? ⟨W.heap.size, 1, none⟩ = some b := by
  have := World.news_of_block (cs := #[a, b]) (t := t) (fr := (0, 0)) (heap_alloc_new W (.cells #[a, b] t))
  exact ⟨this 0 a rfl, this 1 b rfl⟩
set_option maxRecDepth 100000 in
set_option maxHeartbeats 1000000 in
theorem devNewFile (s : ByteArray) (w : World) (h : s.size ≤ 1000000) : Calls Tryz.prog 164 #[.string s] w fun e w' => ∃ v, e = .returned v ∧ NewNode w w' v none s ∧ Below w.heap.size w w' := by
  obtain ⟨i0, hi, hz0, hz1, hz2⟩ := info_parts nodeInfo
  have c := devClone s w h
  go_enter Tryz.func164, Tryz.ntmps164
  go_wp2_with (go_at_call 158; refine c.mono ?_; rintro e w1 ⟨rfl, hb⟩)
  go_ret
  have hs := hb.size
  obtain ⟨n0, n1⟩ := node_news w1 177 (.map none) (.string s)
  exact ⟨_, rfl, ⟨w1.heap.size, rfl, hs, by simp, n0, n1⟩, hb.alloc hs _⟩
set_option maxRecDepth 100000 in
set_option maxHeartbeats 1000000 in
theorem devNewDir (w : World) : Calls Tryz.prog 92 #[] w fun e w' => ∃ v mb, e = .returned v ∧ NewNode w w' v (some mb) ⟨#[]⟩ ∧ w.heap.size ≤ mb ∧ w'.ownsMap (H := Unit) Tryz.prog 9 nodeR mb 0 (.map []) ∧ Below w.heap.size w w' := by
  obtain ⟨i0, hi, hz0, hz1, hz2⟩ := info_parts nodeInfo
  have hmm : ∀ (t : TypeId) (w : World), (Instr.makeMap t none).run Tryz.prog w = .ok (.map (some w.heap.size)) (w.alloc (.map #[] 0)) := fun t w => run_makeMap t w
  go_enter Tryz.func92, Tryz.ntmps92
  go_wp2
  go_ret
  obtain ⟨n0, n1⟩ := node_news (w.alloc (.map #[] 0)) 177 (.map (some w.heap.size)) (.string ⟨#[]⟩)
  exact ⟨_, w.heap.size, rfl, ⟨(w.alloc (.map #[] 0)).heap.size, by simp, by simp, by simp, n0, n1⟩, Nat.le_refl _, (World.ownsMap_made w Tryz.prog 9 nodeR).alloc _, ((Below.refl _ w).alloc (Nat.le_refl _) _).alloc (by simp) _⟩
end Go.Proofs.YtdidjdoifpfmmaaGreatDoor
/- The document's Put and Mkdir. -/
namespace Go.Proofs.YtdidjdoifpfmmaaGreatDoor
open Go.RowKit
def setDat (L : List It) (i : Nat) (d : ByteArray) : List It := L.modify i fun x => { x with data := d }
theorem setDat_length (L : List It) (i : Nat) (d : ByteArray) : (setDat L i d).length = L.length := by simp [setDat]
theorem setDat_cells (L : List It) (i : Nat) (d : ByteArray) (hi : i < L.length) : itCells (setDat L i d) = (itCells L).set (i * 3 + 2) (.string d) := by
  induction L generalizing i with
  | nil => simp at hi
  | cons x L ih =>
    cases i with
    | zero => simp [setDat, itCells, It.cells]
    | succ i =>
      have h1 := ih i (by simpa using hi)
      simp only [setDat, itCells, List.modify_succ_cons, List.flatMap_cons] at h1 ⊢
      rw [h1, show (i + 1) * 3 + 2 = i * 3 + 2 + x.cells.length by show _ = _ + 3; omega]
      rw [List.set_append_right _ _ (by omega)]
      congr 2
def putOf (L : List It) (s d : ByteArray) : List It × Nat :=
  if (namesOf s).2 = false ∨ (namesOf s).1.length = 0 then (L, 5)
  else if 1536 < d.size then (L, 11)
  else if spotOf L s ≠ 0 then (L, spotOf L s)
  else if 0 ≤ findAt L s then (if dirAt L (findAt L s) = true then (L, 7) else (setDat L (findAt L s).toNat d, 0))
  else if roomOf L s = false then (L, 10) else (L ++ [⟨s, false, d⟩], 0)
/-- A tree of the document's that its archive owns. -/
def TreeOwn (w : World) (v : Value) (L : List It) : Prop := w.ownsRow 0 308 3 v L.length (itCells L)
theorem TreeOwn.below {w w' : World} {v : Value} {L : List It} (h : TreeOwn w v L) (hb : Below w.heap.size w w') : TreeOwn w' v L := by
  obtain ⟨h1, h2⟩ := h
  refine ⟨h1, h2.imp id ?_⟩
  rintro ⟨g, cap, cur, hv, hB, hh, r⟩
  exact ⟨g, cap, cur, hv, hB, by rw [hb.block g (Array.getElem?_eq_some_iff.1 hh).1]; exact hh, r⟩
theorem TreeOwn.lt {w : World} {v : Value} {L : List It} (h : TreeOwn w v L) (g : Nat) (hg : v.ownBlock = some g) : g < w.heap.size := by
  rcases h.2 with ⟨hv, _⟩ | ⟨g', cap, cur, hv, _, hb, _⟩
  · rw [hv] at hg; simp [Value.ownBlock] at hg
  · rw [hv] at hg
    simp [Value.ownBlock] at hg
    subst hg
    exact (Array.getElem?_eq_some_iff.1 hb).1
theorem TreeOwn.set {w : World} {g n cap : Nat} {L : List It} (h : TreeOwn w (.slice (some ⟨g, 0, none⟩) n cap) L) (hn : n = L.length) (i : Nat) (hi : i < L.length) (d : ByteArray) : TreeOwn (w.setCell ⟨g, i * 3 + 2, none⟩ (.string d)) (.slice (some ⟨g, 0, none⟩) n cap) (setDat L i d) := by
  subst hn
  obtain ⟨hh, h1, h2⟩ := has_of_owns h
  have := hh.set (i * 3 + 2) (.string d)
  rw [← setDat_cells L i d hi] at this
  unfold TreeOwn
  rw [setDat_length]
  exact this.owns (by rw [itCells_length, setDat_length]) (by decide) h2
theorem itInfo : (Tryz.prog.info? 308).map (fun i => (i.zero, i.size, i.bytes)) = some (some (.agg #[.string ByteArray.empty, .bool false, .string ByteArray.empty]), 3, 40) := by kernel_rfl
theorem three_news (W : World) (t : TypeId) (a b c : Value) : ∀ j u, [a, b, c][j]? = some u → (W.alloc (.cells #[a, b, c] t)).cell? ((⟨W.heap.size, 0, none⟩ : Addr).add j) = some u := by
  have := World.news_of_block (cs := #[a, b, c]) (t := t) (fr := (0, 0)) (heap_alloc_new W (.cells #[a, b, c] t))
  exact this
/-- What a call of the tree leaves. -/
def TreeDone (w w' : World) (v v' : Value) (L' : List It) : Prop := TreeOwn w' v' L' ∧ (∀ g, v'.ownBlock = some g → v.ownBlock = some g ∨ w.heap.size ≤ g) ∧ Fr w w' v.ownBlock.toList
theorem treeDone_same {w w' : World} {v : Value} {L : List It} (h : TreeOwn w v L) (hb : Below w.heap.size w w') : TreeDone w w' v v L := ⟨h.below hb, fun _ hg => .inl hg, Fr.of_below hb _⟩
set_option maxRecDepth 100000 in
set_option maxHeartbeats 2000000 in
theorem refPut_any (L : List It) (s d : ByteArray) (v : Value) (w : World) (h : TreeOwn w v L) (hl : L.length ≤ 30000) (hs : s.size ≤ 1000000) (hd : d.size ≤ 1000000) (hsz : ∀ x ∈ L, x.path.size ≤ 1000000) :
    Calls Tryz.prog 123 #[v, .string s, .string d] w fun e w' => ∃ v', e = .returned (.tuple #[v', .int .i64 ((putOf L s d).2 : Nat)]) ∧ TreeDone w w' v v' (putOf L s d).1 := by
  have hN := refNames_any s w hs
  have hI := itsAt_of h
  obtain ⟨av, cv, hv⟩ : ∃ av cv, v = .slice av L.length cv := slice_formR h
  have HSp : Hid (∀ w1, Below w.heap.size w w1 → Calls Tryz.prog 194 #[v, .string s] w1 fun e w' => e = .returned (.int .i64 (spotOf L s : Nat)) ∧ Below w1.heap.size w1 w') := fun w1 hb => refSpot_any L s v w1 (hI.below hb (Nat.le_refl _)) (by omega) hs
  have HFi : Hid (∀ w1, Below w.heap.size w w1 → Calls Tryz.prog 195 #[v, .string s] w1 fun e w' => e = .returned (.int .i64 (findAt L s)) ∧ w1 = w') := fun w1 hb => refFind_any L s v w1 (hI.below hb (Nat.le_refl _)) (by omega)
  by_cases hbad : (namesOf s).2 = false ∨ (namesOf s).1.length = 0
  · have he : Hid (putOf L s d = (L, 5)) := by show putOf L s d = _; unfold putOf; rw [if_pos hbad]
    have HD : Hid (∀ w', Below w.heap.size w w' → TreeDone w w' v v L) := fun w' hb => treeDone_same h hb
    clear h hI HSp HFi
    subst hv
    cases hb2 : (namesOf s).2
    · rw [hb2] at hN
      go_enter Tryz.func123, Tryz.ntmps123
      go_wp2_with (go_at_call 193; refine hN.mono ?_; rintro e w1 ⟨nv, rfl, ho, hb⟩)
      refine bodyPost_ret (results_tmp2 rfl _ _ _) rfl ?_
      exact ⟨_, by rw [he.out]; rfl, by rw [he.out]; exact HD.out _ hb⟩
    · have h0 : (namesOf s).1.length = 0 := by
        rcases hbad with hq | hq
        · rw [hb2] at hq; cases hq
        · exact hq
      rw [hb2] at hN
      go_enter Tryz.func123, Tryz.ntmps123
      go_wp2_with (go_at_call 193; refine hN.mono ?_; rintro e w1 ⟨nv, rfl, ho, hb⟩; obtain ⟨an, gn, cn, rfl, _⟩ := strsAt_of ho)
      refine bodyPost_ret (results_tmp2 rfl _ _ _) rfl ?_
      exact ⟨_, by rw [he.out]; rfl, by rw [he.out]; exact HD.out _ hb⟩
  · have hok : (namesOf s).2 = true := by cases hq : (namesOf s).2 with
      | false => exact absurd (.inl hq) hbad
      | true => rfl
    have hpos : (namesOf s).1.length ≠ 0 := fun e => hbad (.inr e)
    have HRo : Hid (∀ w1, Below w.heap.size w w1 → Calls Tryz.prog 196 #[v, .string s] w1 fun e w' => e = .returned (.bool (roomOf L s)) ∧ Below w1.heap.size w1 w') := fun w1 hb => refRoom_any L s v w1 (hI.below hb (Nat.le_refl _)) (by omega) hs hsz hok hpos
    rw [hok] at hN
    have HNm : Hid (∀ w1 nv, NamesAt w w1 s nv → ∃ an n cn, nv = .slice an n cn ∧ n ≠ 0) := fun w1 nv hn => by
      obtain ⟨an, gn, cn, hq, _⟩ := strsAt_of hn.1
      exact ⟨an, _, cn, hq, hpos⟩
    have hput : Hid (putOf L s d = if 1536 < d.size then (L, 11) else if spotOf L s ≠ 0 then (L, spotOf L s) else if 0 ≤ findAt L s then (if dirAt L (findAt L s) = true then (L, 7) else (setDat L (findAt L s).toNat d, 0)) else if roomOf L s = false then (L, 10) else (L ++ [⟨s, false, d⟩], 0)) := by
      show putOf L s d = _
      unfold putOf
      rw [if_neg hbad]
    have hcode : spotOf L s ≤ 7 := by
      unfold spotOf
      rw [if_neg hbad]
      split
      · exact findF_codes _ _ _ _
      · split <;> omega
    have HD : Hid (∀ w', Below w.heap.size w w' → TreeDone w w' v v L) := fun w' hb => treeDone_same h hb
    have HT : Hid _ := h
    clear hbad hok hpos hI h
    subst hv
    by_cases hbig : 1536 < d.size
    · rw [if_pos hbig] at hput
      have i1 : (1536 : Int) < (d.size : Int) := by omega
      go_enter Tryz.func123, Tryz.ntmps123
      go_wp2_with (go_at_call 193; refine hN.mono ?_; rintro e w1 ⟨nv, rfl, hnn⟩; have hb := hnn.2; obtain ⟨an, n, cn, rfl, hn0⟩ := HNm.out _ _ hnn; have n0 : ((n : Int) == 0) = false := (by simp; omega); clear hnn)
      refine bodyPost_ret (results_tmp2 rfl _ _ _) rfl ?_
      exact ⟨_, by rw [hput.out]; rfl, by rw [hput.out]; exact HD.out _ hb⟩
    · rw [if_neg hbig] at hput
      have i1 : ¬ (1536 : Int) < (d.size : Int) := by omega
      by_cases hsp : spotOf L s = 0
      · rw [if_neg (by simp [hsp])] at hput
        rw [hsp] at HSp
        rcases findAt_cases L s with ⟨hf, _⟩ | ⟨i, hi, hf, _⟩
        · rw [hf] at hput HFi
          rw [if_neg (by omega)] at hput
          cases hro : roomOf L s
          · rw [hro] at HRo
            rw [if_pos hro] at hput
            go_enter Tryz.func123, Tryz.ntmps123
            go_wp2_with (first
              | (go_at_call 193; refine hN.mono ?_; rintro e w1 ⟨nv, rfl, hnn⟩; have hb := hnn.2; obtain ⟨an, n, cn, rfl, hn0⟩ := HNm.out _ _ hnn; have n0 : ((n : Int) == 0) = false := (by simp; omega); have hSp := HSp.out w1 hb; clear hnn hN HNm)
              | (go_at_call 194; refine hSp.mono ?_; rintro e w2 ⟨rfl, hb2⟩; have hb3 := hb.trans (hb2.mono hb.size); have hFi := HFi.out w2 hb3; clear hSp)
              | (go_at_call 195; refine hFi.mono ?_; rintro e w3 ⟨rfl, rfl⟩; clear hFi; have hRo := HRo.out w2 hb3)
              | (go_at_call 196; refine hRo.mono ?_; rintro e w4 ⟨rfl, hb4⟩; have hb5 := hb3.trans (hb4.mono hb3.size); clear hRo))
            refine bodyPost_ret (results_tmp2 rfl _ _ _) rfl ?_
            exact ⟨_, by rw [hput.out]; rfl, by rw [hput.out]; exact HD.out _ hb5⟩
          · rw [hro] at HRo
            rw [if_neg (by simp [hro])] at hput
            obtain ⟨i0, hi0, hz0, hz1, hz2⟩ := info_parts itInfo
            go_enter Tryz.func123, Tryz.ntmps123
            go_wp2_with (first
              | (go_at_call 193; refine hN.mono ?_; rintro e w1 ⟨nv, rfl, hnn⟩; have hb := hnn.2; obtain ⟨an, n, cn, rfl, hn0⟩ := HNm.out _ _ hnn; have n0 : ((n : Int) == 0) = false := (by simp; omega); have hSp := HSp.out w1 hb; clear hnn hN HNm)
              | (go_at_call 194; refine hSp.mono ?_; rintro e w2 ⟨rfl, hb2⟩; have hb3 := hb.trans (hb2.mono hb.size); have hFi := HFi.out w2 hb3; clear hSp)
              | (go_at_call 195; refine hFi.mono ?_; rintro e w3 ⟨rfl, rfl⟩; clear hFi; have hRo := HRo.out w2 hb3)
              | (go_at_call 196; refine hRo.mono ?_; rintro e w4 ⟨rfl, hb4⟩; have hb5 := hb3.trans (hb4.mono hb3.size); have hT : TreeOwn w4 (.slice av L.length cv) L := TreeOwn.below HT.out hb5; have HT4 : Hid _ := hT; clear hRo hT)
              | (at_builtin; refine wpList_append_lies _ rfl _ _ 207 rfl 0 308 i0 (.agg #[.string ByteArray.empty, .bool false, .string ByteArray.empty]) 3 40 Tryz.underlying207 hi0 hz0 hz1 hz2 rfl (by decide) (.slice av L.length cv) L.length (itCells L) rfl (World.ownsRow.alloc HT4.out _) ⟨w4.heap.size, 0, none⟩ 1 1 [.string s, .bool false, .string d] rfl rfl (three_news _ _ _ _ _) (by intro u hu; simp at hu; rcases hu with rfl | rfl | rfl <;> rfl) (by decide) (by unfold maxLen; omega) (by omega) (Nat.zero_le _) (w4.heap.size + 1) (by simp) ?_; intro g cap w5 hown hgrow hat hlt5))
            refine bodyPost_ret (results_tmp2 rfl _ _ _) rfl ?_
            refine ⟨.slice (some ⟨g, 0, none⟩) (L.length + 1) cap, by rw [hput.out]; rfl, ?_⟩
            rw [hput.out]
            refine ⟨?_, ?_, ?_⟩
            · show w5.ownsRow 0 _ 3 _ (L ++ [(⟨s, false, d⟩ : It)]).length (itCells (L ++ [(⟨s, false, d⟩ : It)]))
              rw [List.length_append, List.length_singleton, show itCells (L ++ [(⟨s, false, d⟩ : It)]) = itCells L ++ [.string s, .bool false, .string d] by simp [itCells, It.cells]]
              exact hown
            · intro g' hg'
              simp [Value.ownBlock] at hg'
              subst hg'
              have := hb5.size
              exact hat.imp id (fun h => by omega)
            · have f5 : Fr w w4 (Value.slice av L.length cv).ownBlock.toList := Fr.of_below hb5 _
              exact (f5.alloc _).grown hgrow (fun k hk => .inl (by rw [hk]; simp))
        · have i0' : (0 : Int) ≤ (i : Int) := by omega
          have i1' : (i : Int) < (L.length : Int) := by omega
          have hda : dirAt L (i : Nat) = L[i].dir := by unfold dirAt; rw [Int.toNat_natCast, List.getElem?_eq_getElem hi]; rfl
          rw [hf] at hput HFi
          rw [if_pos i0', hda, Int.toNat_natCast] at hput
          obtain ⟨g, cap, hvv, _, hgl⟩ := World.ownsRow.form HT.out (by omega)
          simp only [Value.slice.injEq] at hvv
          obtain ⟨rfl, _, rfl⟩ := hvv
          have CI : Hid (∀ w1, Below w.heap.size w w1 → w1.cell? ⟨g, i * 3 + 1, none⟩ = some (.bool L[i].dir)) := fun w1 hb => by
            obtain ⟨hh, _, _⟩ := has_of_owns (TreeOwn.below (L := L) (v := .slice (some ⟨g, 0, none⟩) L.length cv) HT.out hb)
            rw [hh.cell _ (by rw [itCells_length]; omega), itCells_get L i hi 1 (by decide)]; rfl
          cases hdd : L[i].dir
          · rw [hdd] at CI
            rw [if_neg (by simp [hdd])] at hput
            go_enter Tryz.func123, Tryz.ntmps123
            go_wp2_with (first
              | (go_at_call 193; refine hN.mono ?_; rintro e w1 ⟨nv, rfl, hnn⟩; have hb := hnn.2; obtain ⟨an, n, cn, rfl, hn0⟩ := HNm.out _ _ hnn; have n0 : ((n : Int) == 0) = false := (by simp; omega); have hSp := HSp.out w1 hb; clear hnn hN HNm)
              | (go_at_call 194; refine hSp.mono ?_; rintro e w2 ⟨rfl, hb2⟩; have hb3 := hb.trans (hb2.mono hb.size); have hFi := HFi.out w2 hb3; clear hSp)
              | (go_at_call 195; refine hFi.mono ?_; rintro e w3 ⟨rfl, rfl⟩; clear hFi; have ci := CI.out w2 hb3; have hT : TreeOwn w2 (.slice (some ⟨g, 0, none⟩) L.length cv) L := TreeOwn.below HT.out hb3; obtain ⟨hh, _, _⟩ := has_of_owns hT; have cd := hh.cell (i * 3 + 2) (by rw [itCells_length]; omega); rw [itCells_get L i hi 2 (by decide)] at cd; have cd2 : w2.cell? ⟨g, i * 3 + 2, none⟩ = some (.string L[i].data) := cd; have fd := hh.frozen (i * 3 + 2); clear hh cd hT))
            refine bodyPost_ret (results_tmp2 rfl _ _ _) rfl ?_
            refine ⟨.slice (some ⟨g, 0, none⟩) L.length cv, by rw [hput.out]; rfl, ?_⟩
            rw [hput.out]
            exact ⟨(TreeOwn.below (L := L) HT.out hb3).set rfl i hi d, fun _ hg => .inl hg, (Fr.of_below hb3 _).setCell _ _ (.inl (by simp [Value.ownBlock]))⟩
          · rw [hdd] at CI
            rw [if_pos hdd] at hput
            go_enter Tryz.func123, Tryz.ntmps123
            go_wp2_with (first
              | (go_at_call 193; refine hN.mono ?_; rintro e w1 ⟨nv, rfl, hnn⟩; have hb := hnn.2; obtain ⟨an, n, cn, rfl, hn0⟩ := HNm.out _ _ hnn; have n0 : ((n : Int) == 0) = false := (by simp; omega); have hSp := HSp.out w1 hb; clear hnn hN HNm)
              | (go_at_call 194; refine hSp.mono ?_; rintro e w2 ⟨rfl, hb2⟩; have hb3 := hb.trans (hb2.mono hb.size); have hFi := HFi.out w2 hb3; clear hSp)
              | (go_at_call 195; refine hFi.mono ?_; rintro e w3 ⟨rfl, rfl⟩; clear hFi; have ci := CI.out w2 hb3))
            refine bodyPost_ret (results_tmp2 rfl _ _ _) rfl ?_
            exact ⟨_, by rw [hput.out]; rfl, by rw [hput.out]; exact HD.out _ hb3⟩
      · rw [if_pos hsp] at hput
        have e1 : ((spotOf L s : Int) != 0) = true := by simp; omega
        go_enter Tryz.func123, Tryz.ntmps123
        go_wp2_with (first
          | (go_at_call 193; refine hN.mono ?_; rintro e w1 ⟨nv, rfl, hnn⟩; have hb := hnn.2; obtain ⟨an, n, cn, rfl, hn0⟩ := HNm.out _ _ hnn; have n0 : ((n : Int) == 0) = false := (by simp; omega); have hSp := HSp.out w1 hb; clear hnn hN HNm)
          | (go_at_call 194; refine hSp.mono ?_; rintro e w2 ⟨rfl, hb2⟩; have hb3 := hb.trans (hb2.mono hb.size); have hFi := HFi.out w2 hb3; clear hSp))
        refine bodyPost_ret (results_tmp2 rfl _ _ _) rfl ?_
        exact ⟨_, by rw [hput.out]; rfl, by rw [hput.out]; exact HD.out _ hb3⟩
end Go.Proofs.YtdidjdoifpfmmaaGreatDoor
/- The document's Mkdir and Remove. -/
namespace Go.Proofs.YtdidjdoifpfmmaaGreatDoor
open Go.RowKit
def mkdirOf (L : List It) (s : ByteArray) : List It × Nat :=
  if spotOf L s ≠ 0 then (L, spotOf L s) else if 0 ≤ findAt L s then (L, 8) else if roomOf L s = false then (L, 10) else (L ++ [⟨s, true, ⟨#[]⟩⟩], 0)
theorem spot_zero {L : List It} {s : ByteArray} (h : spotOf L s = 0) : (namesOf s).2 = true ∧ (namesOf s).1.length ≠ 0 := by
  unfold spotOf at h
  split at h
  · cases h
  · rename_i hb
    refine ⟨?_, fun e => hb (.inr e)⟩
    cases hq : (namesOf s).2 with
    | false => exact absurd (.inl hq) hb
    | true => rfl
theorem spot_codes (L : List It) (s : ByteArray) : spotOf L s ≤ 7 := by
  unfold spotOf
  split
  · omega
  · split
    · exact findF_codes _ _ _ _
    · split <;> omega
set_option maxRecDepth 100000 in
set_option maxHeartbeats 2000000 in
theorem refMkdir_any (L : List It) (s : ByteArray) (v : Value) (w : World) (h : TreeOwn w v L) (hl : L.length ≤ 30000) (hs : s.size ≤ 1000000) (hsz : ∀ x ∈ L, x.path.size ≤ 1000000) :
    Calls Tryz.prog 124 #[v, .string s] w fun e w' => ∃ v', e = .returned (.tuple #[v', .int .i64 ((mkdirOf L s).2 : Nat)]) ∧ TreeDone w w' v v' (mkdirOf L s).1 := by
  have hI := itsAt_of h
  obtain ⟨av, cv, hv⟩ : ∃ av cv, v = .slice av L.length cv := slice_formR h
  have hSp := refSpot_any L s v w hI (by omega) hs
  have HFi : Hid (∀ w1, Below w.heap.size w w1 → Calls Tryz.prog 195 #[v, .string s] w1 fun e w' => e = .returned (.int .i64 (findAt L s)) ∧ w1 = w') := fun w1 hb => refFind_any L s v w1 (hI.below hb (Nat.le_refl _)) (by omega)
  have hput : Hid (mkdirOf L s = if spotOf L s ≠ 0 then (L, spotOf L s) else if 0 ≤ findAt L s then (L, 8) else if roomOf L s = false then (L, 10) else (L ++ [⟨s, true, ⟨#[]⟩⟩], 0)) := by
    show mkdirOf L s = _
    rfl
  have HD : Hid (∀ w', Below w.heap.size w w' → TreeDone w w' v v L) := fun w' hb => treeDone_same h hb
  have HT : Hid _ := h
  have hcode := spot_codes L s
  by_cases hsp : spotOf L s = 0
  · rw [if_neg (by simp [hsp])] at hput
    obtain ⟨hok, hpos⟩ := spot_zero hsp
    have HRo : Hid (∀ w1, Below w.heap.size w w1 → Calls Tryz.prog 196 #[v, .string s] w1 fun e w' => e = .returned (.bool (roomOf L s)) ∧ Below w1.heap.size w1 w') := fun w1 hb => refRoom_any L s v w1 (hI.below hb (Nat.le_refl _)) (by omega) hs hsz hok hpos
    rw [hsp] at hSp
    clear hI h hok hpos
    subst hv
    rcases findAt_cases L s with ⟨hf, _⟩ | ⟨i, hi, hf, _⟩
    · rw [hf] at hput HFi
      rw [if_neg (by omega)] at hput
      cases hro : roomOf L s
      · rw [hro] at HRo
        rw [if_pos hro] at hput
        go_enter Tryz.func124, Tryz.ntmps124
        go_wp2_with (first
          | (go_at_call 194; refine hSp.mono ?_; rintro e w2 ⟨rfl, hb3⟩; have hFi := HFi.out w2 hb3; clear hSp)
          | (go_at_call 195; refine hFi.mono ?_; rintro e w3 ⟨rfl, rfl⟩; clear hFi; have hRo := HRo.out w2 hb3)
          | (go_at_call 196; refine hRo.mono ?_; rintro e w4 ⟨rfl, hb4⟩; have hb5 := hb3.trans (hb4.mono hb3.size); clear hRo))
        refine bodyPost_ret (results_tmp2 rfl _ _ _) rfl ?_
        exact ⟨_, by rw [hput.out]; rfl, by rw [hput.out]; exact HD.out _ hb5⟩
      · rw [hro] at HRo
        rw [if_neg (by simp [hro])] at hput
        obtain ⟨i0, hi0, hz0, hz1, hz2⟩ := info_parts itInfo
        go_enter Tryz.func124, Tryz.ntmps124
        go_wp2_with (first
          | (go_at_call 194; refine hSp.mono ?_; rintro e w2 ⟨rfl, hb3⟩; have hFi := HFi.out w2 hb3; clear hSp)
          | (go_at_call 195; refine hFi.mono ?_; rintro e w3 ⟨rfl, rfl⟩; clear hFi; have hRo := HRo.out w2 hb3)
          | (go_at_call 196; refine hRo.mono ?_; rintro e w4 ⟨rfl, hb4⟩; have hb5 := hb3.trans (hb4.mono hb3.size); have hT : TreeOwn w4 (.slice av L.length cv) L := TreeOwn.below HT.out hb5; have HT4 : Hid _ := hT; clear hRo hT)
          | (at_builtin; refine wpList_append_lies _ rfl _ _ 207 rfl 0 308 i0 (.agg #[.string ByteArray.empty, .bool false, .string ByteArray.empty]) 3 40 Tryz.underlying207 hi0 hz0 hz1 hz2 rfl (by decide) (.slice av L.length cv) L.length (itCells L) rfl (World.ownsRow.alloc HT4.out _) ⟨w4.heap.size, 0, none⟩ 1 1 [.string s, .bool true, .string ⟨#[]⟩] rfl rfl (three_news _ _ _ _ _) (by intro u hu; simp at hu; rcases hu with rfl | rfl | rfl <;> rfl) (by decide) (by unfold maxLen; omega) (by omega) (Nat.zero_le _) (w4.heap.size + 1) (by simp) ?_; intro g cap w5 hown hgrow hat hlt5))
        refine bodyPost_ret (results_tmp2 rfl _ _ _) rfl ?_
        refine ⟨.slice (some ⟨g, 0, none⟩) (L.length + 1) cap, by rw [hput.out]; rfl, ?_⟩
        rw [hput.out]
        refine ⟨?_, ?_, ?_⟩
        · show w5.ownsRow 0 _ 3 _ (L ++ [(⟨s, true, ⟨#[]⟩⟩ : It)]).length (itCells (L ++ [(⟨s, true, ⟨#[]⟩⟩ : It)]))
          rw [List.length_append, List.length_singleton, show itCells (L ++ [(⟨s, true, ⟨#[]⟩⟩ : It)]) = itCells L ++ [.string s, .bool true, .string ⟨#[]⟩] by simp [itCells, It.cells]]
          exact hown
        · intro g' hg'
          simp [Value.ownBlock] at hg'
          subst hg'
          have := hb5.size
          exact hat.imp id (fun h => by omega)
        · have f5 : Fr w w4 (Value.slice av L.length cv).ownBlock.toList := Fr.of_below hb5 _
          exact (f5.alloc _).grown hgrow (fun k hk => .inl (by rw [hk]; simp))
    · have i0' : (0 : Int) ≤ (i : Int) := by omega
      rw [hf] at hput HFi
      rw [if_pos i0'] at hput
      go_enter Tryz.func124, Tryz.ntmps124
      go_wp2_with (first
        | (go_at_call 194; refine hSp.mono ?_; rintro e w2 ⟨rfl, hb3⟩; have hFi := HFi.out w2 hb3; clear hSp)
        | (go_at_call 195; refine hFi.mono ?_; rintro e w3 ⟨rfl, rfl⟩; clear hFi))
      refine bodyPost_ret (results_tmp2 rfl _ _ _) rfl ?_
      exact ⟨_, by rw [hput.out]; rfl, by rw [hput.out]; exact HD.out _ hb3⟩
  · rw [if_pos hsp] at hput
    have e1 : ((spotOf L s : Int) != 0) = true := by simp; omega
    clear hI h
    subst hv
    go_enter Tryz.func124, Tryz.ntmps124
    go_wp2_with (first
      | (go_at_call 194; refine hSp.mono ?_; rintro e w2 ⟨rfl, hb3⟩; have hFi := HFi.out w2 hb3; clear hSp))
    refine bodyPost_ret (results_tmp2 rfl _ _ _) rfl ?_
    exact ⟨_, by rw [hput.out]; rfl, by rw [hput.out]; exact HD.out _ hb3⟩
end Go.Proofs.YtdidjdoifpfmmaaGreatDoor
/- The program's below, place, isFull. -/
namespace Go.Proofs.YtdidjdoifpfmmaaGreatDoor
open Go.RowKit
/-- The package-level variables that the tree's calls read. -/
structure Glob (a : Nat → Addr) (w : World) : Prop where
  err : ∀ k, k < 12 → w.cell? ⟨k, 0, none⟩ = some (errV a k)
  maxl : ∃ m, w.cell? ⟨15, 0, none⟩ = some (.int .i64 m)
theorem Glob.below {a : Nat → Addr} {w w' : World} (h : Glob a w) {B : Nat} (hb : Below B w w') (hB : 18 ≤ B) : Glob a w' :=
  ⟨fun k hk => cell_kept (h.err k hk) (hb.block k (by omega)), by obtain ⟨m, hm⟩ := h.maxl; exact ⟨m, cell_kept hm (hb.block _ (by omega))⟩⟩
theorem Glob.up {a : Nat → Addr} {w w' : World} (h : Glob a w) (hb : Below w.heap.size w w') : Glob a w' :=
  ⟨fun k hk => cell_kept (h.err k hk) (hb.block k (World.block_lt_of_cell? _ _ (h.err k hk))), by obtain ⟨m, hm⟩ := h.maxl; exact ⟨m, cell_kept hm (hb.block _ (World.block_lt_of_cell? _ _ hm))⟩⟩
theorem names_empty (s : ByteArray) (h : (namesOf s).2 = true) : (namesOf s).1.length = 0 ↔ s = ⟨#[]⟩ := by
  constructor
  · intro h0
    have := names_join s h
    rw [List.length_eq_zero_iff.1 h0] at this
    exact this.symm
  · rintro rfl
    rfl
/-- May a path be of something below the root? -/
def lowOk (s : ByteArray) : Prop := (namesOf s).2 = true ∧ (namesOf s).1.length ≠ 0
theorem low_not {s : ByteArray} (h : ¬ lowOk s) : s = ⟨#[]⟩ ∨ (s ≠ ⟨#[]⟩ ∧ (namesOf s).2 = false) := by
  by_cases h0 : s = ⟨#[]⟩
  · exact .inl h0
  · refine .inr ⟨h0, ?_⟩
    cases hn : (namesOf s).2
    · rfl
    · exact absurd ⟨hn, fun e => h0 ((names_empty s hn).1 e)⟩ h
set_option maxRecDepth 100000 in
set_option maxHeartbeats 1000000 in
theorem devBelow_ok {a : Nat → Addr} {w : World} (G : Glob a w) (s : ByteArray) (hs : s.size ≤ 1000000) (h : lowOk s) :
    Calls Tryz.prog 155 #[.string s] w fun e w' => ∃ v, e = .returned (.tuple #[v, .nilIface]) ∧ StrsAt w' v (namesOf s).1 ∧ Below w.heap.size w w' := by
  obtain ⟨m, hm⟩ := G.maxl
  have h0 : s ≠ ⟨#[]⟩ := fun e => h.2 ((names_empty s h.1).2 e)
  have he : s.toList.isEmpty = false := by rw [str_empty, decide_eq_false h0]
  have c : Calls Tryz.prog 159 #[.string s] w fun e w' => ∃ v, e = .returned (.tuple #[v, .nilIface]) ∧ StrsAt w' v (namesOf s).1 ∧ Below w.heap.size w w' := by
    refine (devSplit_any s m a w hs hm (G.err 4 (by decide))).mono ?_
    rintro e w' ⟨v, rfl, ⟨_, v1, rfl, h1⟩ | ⟨hf, _⟩, hb⟩
    · exact ⟨v1, rfl, h1, hb⟩
    · rw [h.1] at hf; cases hf
  go_enter Tryz.func155, Tryz.ntmps155
  go_wp2_with (go_at_call 159; refine c.mono ?_; rintro e w' ⟨v, rfl, h1, hb⟩)
  refine bodyPost_ret (results_tmp2 rfl _ _ _) rfl ?_
  exact ⟨v, rfl, h1, hb⟩
set_option maxRecDepth 100000 in
set_option maxHeartbeats 1000000 in
theorem devBelow_err {a : Nat → Addr} {w : World} (G : Glob a w) (s : ByteArray) (hs : s.size ≤ 1000000) (h : ¬ lowOk s) :
    Calls Tryz.prog 155 #[.string s] w fun e w' => e = .returned (.tuple #[.slice none 0 0, errV a 4]) ∧ Below w.heap.size w w' := by
  obtain ⟨m, hm⟩ := G.maxl
  have h4 := G.err 4 (by decide)
  rcases low_not h with h0 | ⟨h0, hf⟩
  · have he : s.toList.isEmpty = true := by rw [str_empty, decide_eq_true h0]
    go_enter Tryz.func155, Tryz.ntmps155
    go_wp2
    go_region
    go_wp2
    refine bodyPost_ret (results_tmp2 rfl _ _ _) rfl ?_
    exact ⟨rfl, (Below.refl _ _).drew⟩
  · have he : s.toList.isEmpty = false := by rw [str_empty, decide_eq_false h0]
    have c : Calls Tryz.prog 159 #[.string s] w fun e w' => e = .returned (.tuple #[.slice none 0 0, errV a 4]) ∧ Below w.heap.size w w' := by
      refine (devSplit_any s m a w hs hm h4).mono ?_
      rintro e w' ⟨v, rfl, ⟨ht, v1, rfl, h1⟩ | ⟨_, rfl⟩, hb⟩
      · rw [hf] at ht; cases ht
      · exact ⟨rfl, hb⟩
    go_enter Tryz.func155, Tryz.ntmps155
    go_wp2_with (go_at_call 159; refine c.mono ?_; rintro e w' ⟨rfl, hb⟩)
    refine bodyPost_ret (results_tmp2 rfl _ _ _) rfl ?_
    exact ⟨rfl, hb⟩
theorem spot_low {L : List It} {s : ByteArray} (h : lowOk s) : spotOf L s = spotN L (namesOf s).1 := spotOf_N L s h.1 h.2
theorem spot_path {L : List It} {s : ByteArray} (h : ¬ lowOk s) : spotOf L s = 5 := by
  unfold spotOf
  rw [if_pos]
  cases hn : (namesOf s).2
  · exact .inl rfl
  · exact .inr (Classical.not_not.1 fun h0 => h ⟨hn, h0⟩)
/-- An archive's tree: its root stands in its first cell. -/
structure ArcAt (w : World) (q : Nat) (L : List It) (blk mblk : ByteArray → Nat) : Prop where
  root : w.cell? ⟨q, 0, none⟩ = some (.pointer (some ⟨blk ⟨#[]⟩, 0, none⟩))
  tree : TreeAt w L blk mblk
  ok : TreeOk L
theorem ArcAt.below {w w' : World} {q : Nat} {L : List It} {blk mblk : ByteArray → Nat} (h : ArcAt w q L blk mblk) (hb : Below w.heap.size w w') : ArcAt w' q L blk mblk :=
  ⟨cell_kept h.root (hb.block _ (World.block_lt_of_cell? _ _ h.root)), h.tree.below hb, h.ok⟩
section
variable {a : Nat → Addr} {w : World} {q : Nat} {L : List It} {blk mblk : ByteArray → Nat}
set_option maxRecDepth 100000 in
set_option maxHeartbeats 1000000 in
theorem devPlace_ok (G : Glob a w) (h : ArcAt w q L blk mblk) (s : ByteArray) (hs : s.size ≤ 1000000) (h0 : spotOf L s = 0) (n : ByteArray) (hn : (namesOf s).1 = (namesOf s).1.take ((namesOf s).1.length - 1) ++ [n]) :
    Calls Tryz.prog 89 #[.pointer (some ⟨q, 0, none⟩), .string s] w fun e w' => e = .returned (.tuple #[.pointer (some ⟨blk (upJoin (namesOf s).1), 0, none⟩), .string n, .nilIface]) ∧ Below w.heap.size w w' := by
  have hlow : lowOk s := spot_zero h0
  rw [spot_low hlow] at h0
  have c := devBelow_ok G s hs hlow
  have hr := h.root
  have hsz := names_sizes s
  have hfew := names_few s hlow.1
  have HN : Hid _ := hn
  clear hn
  go_enter Tryz.func89, Tryz.ntmps89
  go_wp2_with (go_at_call 155; refine c.mono ?_; rintro e w1 ⟨v, rfl, h1, hb⟩; have hr' := (h.below hb).root)
  have h' := h.below hb
  have G' := G.up hb
  have cA := devAbove_ok h'.tree h'.ok a (namesOf s).1 n HN.out v h1 (names_are s) (by omega) (G'.err 5 (by decide)) (G'.err 6 (by decide)) h0
  go_wp2_with (go_at_call 156; refine cA.mono ?_; rintro e w2 ⟨rfl, hb2⟩)
  refine bodyPost_ret (results_tmp3 rfl _ _ _) rfl ?_
  exact ⟨rfl, hb.trans (hb2.mono hb.size)⟩
set_option maxRecDepth 100000 in
set_option maxHeartbeats 1000000 in
theorem devPlace_err (G : Glob a w) (h : ArcAt w q L blk mblk) (s : ByteArray) (hs : s.size ≤ 1000000) (h0 : spotOf L s ≠ 0) :
    Calls Tryz.prog 89 #[.pointer (some ⟨q, 0, none⟩), .string s] w fun e w' => e = .returned (.tuple #[.pointer none, .string ⟨#[]⟩, errV a (spotOf L s - 1)]) ∧ Below w.heap.size w w' := by
  by_cases hlow : lowOk s
  · rw [spot_low hlow] at h0 ⊢
    have c := devBelow_ok G s hs hlow
    have hr := h.root
    have hfew := names_few s hlow.1
    have hne := hlow.2
    clear hlow
    go_enter Tryz.func89, Tryz.ntmps89
    go_wp2_with (go_at_call 155; refine c.mono ?_; rintro e w1 ⟨v, rfl, h1, hb⟩; have hr' := (h.below hb).root)
    have h' := h.below hb
    have G' := G.up hb
    have cA := devAbove_err h'.tree h'.ok a (namesOf s).1 hne v h1 (names_are s) (by omega) (G'.err 5 (by decide)) (G'.err 6 (by decide)) h0
    go_wp2_with (go_at_call 156; refine cA.mono ?_; rintro e w2 ⟨rfl, hb2⟩)
    refine bodyPost_ret (results_tmp3 rfl _ _ _) rfl ?_
    exact ⟨rfl, hb.trans (hb2.mono hb.size)⟩
  · rw [spot_path hlow]
    have c := devBelow_err G s hs hlow
    unfold errV at c
    go_enter Tryz.func89, Tryz.ntmps89
    go_wp2_with (go_at_call 155; refine c.mono ?_; rintro e w1 ⟨rfl, hb⟩)
    refine bodyPost_ret (results_tmp3 rfl _ _ _) rfl ?_
    exact ⟨rfl, hb⟩
set_option maxRecDepth 100000 in
set_option maxHeartbeats 1000000 in
theorem devFull_any (h : ArcAt w q L blk mblk) (p : ByteArray) (hd : IsDir L p) :
    Calls Tryz.prog 90 #[.pointer (some ⟨q, 0, none⟩), .pointer (some ⟨blk p, 0, none⟩)] w fun e w' => e = .returned (.bool (!(decide ((kidsFold p L).length < 16) && decide (L.length < 256)))) ∧ Below w.heap.size w w' := by
  obtain ⟨c0, _, hdr⟩ := h.tree.dir p hd
  have hlen := hdr.len h.ok
  have hr := h.root
  have hfew := kids_few h.ok p
  have cC := devCount_any h.ok 300000 ⟨#[]⟩ w (by omega) h.tree (.inl (.inl rfl))
  rw [cnt_root h.ok] at cC
  have hL := h.ok.few
  by_cases h16 : (kidsFold p L).length < 16
  · have i16 : ¬ (16 : Int) ≤ ((kidsFold p L).length : Int) := by omega
    rw [decide_eq_true h16, Bool.true_and]
    go_enter Tryz.func90, Tryz.ntmps90
    go_wp2_with (go_at_call 157; refine cC.mono ?_; rintro e w1 ⟨rfl, hb⟩)
    go_ret
    refine ⟨ret_eq (congrArg Value.bool ?_), hb⟩
    rw [Bool.eq_iff_iff]
    simp
    omega
  · have i16 : (16 : Int) ≤ ((kidsFold p L).length : Int) := by omega
    rw [decide_eq_false h16, Bool.false_and]
    go_enter Tryz.func90, Tryz.ntmps90
    go_wp2
    go_ret
    exact ⟨rfl, Below.refl _ _⟩
end
end Go.Proofs.YtdidjdoifpfmmaaGreatDoor
