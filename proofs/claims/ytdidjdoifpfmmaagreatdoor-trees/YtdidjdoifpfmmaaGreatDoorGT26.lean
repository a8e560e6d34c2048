import Derived.Test.YtdidjdoifpfmmaaGreatDoorGT24
import Derived.Test.YtdidjdoifpfmmaaGreatDoorGT25
import Derived.Test.YtdidjdoifpfmmaaGreatDoorRefList2
import Derived.Deep.AppendLies
import Derived.Sort.OwnSorted
import Derived.Test.YtdidjdoifpfmmaaGreatDoorGT8
import Derived.Test.YtdidjdoifpfmmaaGreatDoorGT18
/- The program's node.entries. -/
namespace Go.Proofs.YtdidjdoifpfmmaaGreatDoor
open Go.RowKit Go.Maps Go.Sort Go.Shelf
open Go.Proofs (encStr)
theorem sorts_dev (m : Nat) : AnyZ.SortsIn Tryz.prog Tryz.sorted234_ren Fence.wide m :=
  ⟨fun blk off cap ss W hH hblk hsz => callsIn_wide.2 (AnyM.slices_Sort_string Tryz.sort271 blk off cap ss W hH hblk hsz),
   fun p cap W => callsIn_wide.2 (AnyM.slices_Sort_string_none Tryz.sort271 p cap W)⟩
/-- maps.Keys. -/
theorem devKeys (mb : Option Nat) (W : World) : Calls Tryz.prog 232 #[.map mb] W fun e w' => e = .returned (.func (.func 272) #[] #[.pointer (some ⟨W.heap.size, 0, none⟩)]) ∧ w' = W.alloc (.cells #[.map mb] 175) :=
  callsIn_wide.1 (AnyZ.keys_in Tryz.keys235 Fence.wide 5 trivial rfl mb W)
set_option maxHeartbeats 1000000 in
/-- slices.Sorted of a map's keys. -/
theorem devSorted (b nn : Nat) (D0 : DataW Unit) (R : Value → Option (DataW Unit × List MemPlace)) (w : World) (hown : w.ownsMap Tryz.prog 9 R b nn D0) (hmax : Maps.size D0 ≤ maxLen) (hbytes : Maps.size D0 * 16 ≤ 140737488355328) :
    Calls Tryz.prog 231 #[.func (.func 272) #[] #[.pointer (some ⟨w.heap.size, 0, none⟩)]] (w.alloc (.cells #[.map (some b)] 175)) fun e w' => ∃ (v : Value) (ss : List (List UInt8)), e = .returned v ∧ ss.Perm (strKeys D0) ∧
      w'.ownsRow (w.alloc (.cells #[.map (some b)] 175)).heap.size 9 1 v ss.length ((ss.mergeSort (fun x y => decide (x ≤ y))).map encStr) ∧ (v = .slice none 0 0 ↔ ss = []) ∧ Below (w.alloc (.cells #[.map (some b)] 175)).heap.size (w.alloc (.cells #[.map (some b)] 175)) w' := by
  have hbl := hown.lt
  have hseq : SeqGives Fence.wide 2 Tryz.prog 272 #[.pointer (some ⟨w.heap.size, 0, none⟩)] encStr (fun ss => ss.Perm (strKeys D0)) (Maps.size D0) (w.alloc (.cells #[.map (some b)] 175)) :=
    AnyZ.keys_gives (ρ := Tryz.keys235_ren) { Tryz.keys235 with } Fence.wide _ trivial rfl (by omega) w.heap.size b nn D0 _ (by simp) (by simp) (by
      obtain ⟨es, clock, hb, Ft, hs, hD⟩ := hown
      exact ⟨es, clock, (Below.heap_alloc _ _ b hbl).trans hb, Ft, hs, hD⟩)
  exact callsIn_wide.1 (AnyZ.sorted_in Tryz.sorted234 Fence.wide 5 trivial trivial trivial trivial rfl (by omega) (sorts_dev _) (enters_of Tryz.func271 (by kernel_rfl) rfl) 272 #[.pointer (some ⟨w.heap.size, 0, none⟩)] trivial (enters_of Tryz.func272 (by kernel_rfl) rfl) _ _ hmax hbytes _ hseq)
theorem entInfoD : (Tryz.prog.info? 52).map (fun i => (i.zero, i.size, i.bytes)) = some (some (.agg #[.string ByteArray.empty, .bool false, .int .i64 0]), 3, 32) := by kernel_rfl
section
variable {a : Nat → Addr} {w : World} {q : Nat} {L : List It} {blk mblk : ByteArray → Nat}
theorem node_cells (h : TreeAt w L blk mblk) (ok : TreeOk L) {i : Nat} (hi : i < L.length) : ∃ o : Option Nat, w.cell? ⟨blk L[i].path, 0, none⟩ = some (.map o) ∧ o.isSome = L[i].dir ∧ w.cell? ⟨blk L[i].path, 1, none⟩ = some (.string L[i].data) := by
  cases hd : L[i].dir
  · obtain ⟨c0, c1⟩ := h.file _ (List.getElem_mem hi) hd
    exact ⟨none, c0, rfl, c1⟩
  · obtain ⟨c0, c1, _⟩ := h.dir L[i].path (.inr ⟨_, List.getElem_mem hi, rfl, hd⟩)
    rw [ok.bare _ (List.getElem_mem hi) hd]
    exact ⟨_, c0, rfl, c1⟩
theorem strs_enc (l : List ByteArray) : (l.map fun k => k.data.toList).map encStr = strs l := by
  unfold strs
  rw [List.map_map]
  apply List.map_congr_left
  intro x _
  simp [encStr]
set_option maxRecDepth 100000 in
set_option maxHeartbeats 4000000 in
theorem devEntries_any (h : TreeAt w L blk mblk) (ok : TreeOk L) (p : ByteArray) (hd : IsDir L p) :
    Calls Tryz.prog 163 #[.pointer (some ⟨blk p, 0, none⟩)] w fun e w' => ∃ lv, e = .returned lv ∧ w'.ownsRow w.heap.size 52 3 lv (kidsFold p L).length (enCells ((kidsFold p L).map (enOf L p))) ∧ Below w.heap.size w w' := by
  obtain ⟨c0, _, hdr⟩ := h.dir p hd
  have hdr0 := hdr
  obtain ⟨D, ho, hh, ha⟩ := hdr
  have hsz := dir_size ok ho hh
  have hkf := kids_few ok p
  have HK : Hid (∀ ss : List (List UInt8), ss.Perm (strKeys D) → ss.length = (kidsFold p L).length ∧ (ss.mergeSort (fun x y => decide (x ≤ y))).map encStr = strs (kidsFold p L)) := fun ss hs => by
    have hp := hs.trans (kids_keys ok ho hh).symm
    refine ⟨by rw [hp.length_eq, List.length_map], ?_⟩
    rw [kids_merge hp, strs_enc]
  have cK : Calls Tryz.prog 232 #[.map (some (mblk p))] w _ := devKeys (some (mblk p)) w
  have cS := devSorted (mblk p) _ D nodeR w ho (by rw [hsz]; unfold maxLen; omega) (by omega)
  have HD : Hid _ := hdr0
  clear hdr0 hh ha hsz
  go_enter Tryz.func163, Tryz.ntmps163
  go_wp2_with (first
    | (go_at_call 232; refine cK.mono ?_; rintro e w1 ⟨rfl, rfl⟩)
    | (go_at_call 231; refine cS.mono ?_; rintro e w3 ⟨v, ss, rfl, hS, hrow, _, hb3⟩; obtain ⟨hsl, hsm⟩ := HK.out ss hS; rw [hsl, hsm] at hrow; clear hsl hsm hS; obtain ⟨ak, ck, rfl⟩ : ∃ ak ck, v = .slice ak (kidsFold p L).length ck := slice_formR hrow))
  have HKv : Hid _ := hrow
  clear hrow
  obtain ⟨i0, hi0, hz0, hz1, hz2⟩ := info_parts entInfoD
  have HB4 : Hid (RowKit.Below w.heap.size w w3) := by
    have h1 : RowKit.Below w.heap.size w (w.alloc (.cells #[.map (some (mblk p))] 175)) := (RowKit.Below.refl _ w).alloc (Nat.le_refl _) _
    exact h1.trans (hb3.mono (by simp))
  have HT3 : Hid _ := h.below HB4.out
  have hw3 : Hid (w.heap.size ≤ w3.heap.size) := HB4.out.size
  clear hb3
  have HG : Hid (∀ wr, RowKit.Below w3.heap.size w3 wr → ∀ k ∈ kidsFold p L, wr.cell? ⟨blk p, 0, none⟩ = some (.map (some (mblk p))) ∧ (Instr.lookup 175 (.map (some (mblk p))) (.string k) false).run Tryz.prog wr = .ok (.pointer (some ⟨blk (joinB p k), 0, none⟩)) wr ∧ ∃ (i : Nat) (hi : i < L.length) (o : Option Nat), blk (joinB p k) < w3.heap.size ∧ findAt L (joinB p k) = (i : Nat) ∧ wr.cell? ⟨blk (joinB p k), 0, none⟩ = some (.map o) ∧ o.isSome = L[i].dir ∧ wr.cell? ⟨blk (joinB p k), 1, none⟩ = some (.string L[i].data)) := fun wr hbr k hk => by
    have hTr : TreeAt wr L blk mblk := TreeAt.below HT3.out hbr
    obtain ⟨e0, _, edr⟩ := hTr.dir p hd
    have hname := ((mem_kids ok p k).1 hk).1
    refine ⟨e0, edr.get k (by have := name_size hname; omega) hk, ?_⟩
    rcases find_kid ok (p := p) hname with ⟨_, hno⟩ | ⟨i, hi, hfi, hip, _⟩
    · exact absurd hk hno
    · obtain ⟨o, n0, n1, n2⟩ := node_cells hTr ok hi
      rw [hip] at n0 n2
      obtain ⟨o', n0', _⟩ := node_cells (blk := blk) (mblk := mblk) HT3.out ok hi
      rw [hip] at n0'
      exact ⟨i, hi, o, World.block_lt_of_cell? _ _ n0', hfi, n0, n1, n2⟩
  have HDs : Hid (∀ i (hi : i < L.length), L[i].data.size ≤ 1536) := fun i hi => ok.data _ (List.getElem_mem hi)
  clear cK cS
  generalize hKK : kidsFold p L = K at *
  have HKK : Hid (kidsFold p L = K) := hKK
  clear hKK
  go_loopw [3, 14] (fun ov iv wr => ∃ (j : Nat) (ao : Option Addr) (co : Nat), ov = .slice ao j co ∧ iv = .int .i64 j ∧ j ≤ K.length ∧ wr.ownsRow w.heap.size 52 3 (.slice ao j co) j (enCells ((K.take j).map (enOf L p))) ∧ RowKit.Below w3.heap.size w3 wr ∧ (∀ n, ao = some n → w3.heap.size ≤ n.block)) (fun _ iv _ => K.length - (intOf iv).toNat)
  case atStart => exact ⟨0, none, 0, rfl, rfl, Nat.zero_le _, World.ownsRow_nil _ _ _ _, RowKit.Below.refl _ _, by simp⟩
  case round =>
    obtain ⟨j, ao, co, rfl, rfl, hjl, ho, hbr, hao⟩ := hrel
    by_cases hlt : j < K.length
    · have j1 : (j : Int) < (K.length : Int) := by omega
      obtain ⟨gk, ckk, hvk, _, hgk⟩ := World.ownsRow.form HKv.out (by omega)
      simp only [Value.slice.injEq] at hvk
      obtain ⟨rfl, _, rfl⟩ := hvk
      obtain ⟨e0, hget, i, hi, o, hbl, hfi, n0, n1, n2⟩ := HG.out wr hbr K[j] (List.getElem_mem hlt)
      have HO : Hid _ := ho
      have HBr : Hid _ := hbr
      have ck : wr.cell? ⟨gk, j, none⟩ = some (.string K[j]) := by
        obtain ⟨hh, _, _⟩ := has_of_owns (owns_base HKv.out)
        rw [hbr.cell hgk, hh.cell j (by rw [strs_length]; exact hlt)]
        simp [strs, hlt]
      have HE : Hid (enCells ((K.take (j + 1)).map (enOf L p)) = enCells ((K.take j).map (enOf L p)) ++ [.string K[j], .bool L[i].dir, .int .i64 (L[i].data.size : Nat)]) := by
        show _ = _
        have e1 : enOf L p K[j] = ⟨K[j], L[i].dir, L[i].data.size⟩ := by
          unfold enOf
          rw [hfi]
          have hda : dirAt L (i : Nat) = L[i].dir := by unfold dirAt; rw [Int.toNat_natCast, List.getElem?_eq_getElem hi]; rfl
          have hdt : datAt L (i : Nat) = L[i].data := by unfold datAt; rw [Int.toNat_natCast, List.getElem?_eq_getElem hi]; rfl
          rw [hda, hdt]
        rw [List.take_succ_eq_append_getElem hlt, List.map_append, List.map_singleton, e1]
        simp [enCells, En.cells]
      have hds := HDs.out i hi
      have HAo : Hid _ := hao
      clear hao hfi ho hbr
      rw [← n1] at HE
      have n1' : Hid _ := n1
      clear n1
      have nbp : some (blk (joinB p K[j])) ≠ (Value.slice ao j co).ownBlock := by
        intro e
        cases ao with
        | none => cases e
        | some n =>
          have h1 := HAo.out n rfl
          have : blk (joinB p K[j]) = n.block := by simpa [Value.ownBlock] using e
          omega
      have hbw : blk (joinB p K[j]) < wr.heap.size := World.block_lt_of_cell? _ _ n0
      generalize blk (joinB p K[j]) = bp at *
      generalize hkj : K[j] = kj at *
      clear hkj
      generalize hdd : L[i].data = dd at *
      clear hdd
      have hcD : ∀ W : World, W.cell? ⟨bp, 0, none⟩ = some (.map o) → Calls Tryz.prog 162 #[.pointer (some ⟨bp, 0, none⟩)] W fun e w' => e = .returned (.bool o.isSome) ∧ W = w' := fun W hW => devIsDir_any bp o W hW
      have HCD : Hid _ := hcD
      clear hcD
      have hws : Hid (w.heap.size ≤ wr.heap.size) := Nat.le_trans hw3.out HBr.out.size
      generalize enCells ((K.take j).map (enOf L p)) = xs at *
      have hjj : j ≤ 40000 := by omega
      go_wp2
      go_region_held3 (fun w' => w'.cell? ⟨bp, 0, none⟩ = some (.map o) ∧ w'.cell? ⟨bp, 1, none⟩ = some (.string dd)) ((first | exact ⟨n0, n2⟩ | (go_split_ands; refine ⟨by go_keep, by go_keep⟩) | (go_split_ands; refine ⟨by rw [hgrow.cell_far _ (by simp; omega) nbp]; assumption, by rw [hgrow.cell_far _ (by simp; omega) nbp]; assumption⟩))) ((first | (go_at_call 162; go_split_ands; refine Calls.mono (HCD.out _ (by assumption)) ?_; rintro e w6 ⟨rfl, rfl⟩) | (refine step_append_lies _ (by rfl) _ _ _ (by rfl) w.heap.size 52 i0 _ 3 32 Tryz.underlying48 hi0 hz0 hz1 hz2 rfl (by omega) (.slice ao j co) j xs (by rfl) (World.ownsRow.alloc HO.out _) ⟨wr.heap.size, 0, none⟩ 1 1 [.string kj, .bool o.isSome, .int .i64 (dd.size : Nat)] (by rfl) (by rfl) (World.news_of_block (cs := #[.string kj, .bool o.isSome, .int .i64 (dd.size : Nat)]) (t := 52) (fr := (0, 0)) (heap_alloc_new wr _)) (by simp [Value.oneCell']) (by omega) (by unfold maxLen; omega) (by omega) (by have := hws.out; simp; omega) (wr.heap.size + 1) (by simp) ?_; intro gg cap w7 hown hgrow hat hlt7)))
      all_goals
        go_wp2
        refine ⟨⟨j + 1, some ⟨gg, 0, none⟩, cap, rfl, by go_num, by omega, by rw [HE.out]; exact hown, ?_, ?_⟩, by simp [intOf]; omega⟩
        · have hszz := HBr.out.size
          refine ⟨hgrow.os.trans HBr.out.os, hgrow.tape.trans HBr.out.tape, hgrow.output.trans HBr.out.output, by have h2 := hgrow.size; simp at h2; omega, fun n hn => ?_⟩
          refine (hgrow.block n (by simp; omega) (fun e => ?_)).trans (Eq.trans (by first | exact heap_alloc_old _ _ (by omega) | exact heap_alloc_old _ _ _ (by omega)) (HBr.out.block n hn))
          cases ao with
          | none => cases e
          | some m =>
            have h1 := HAo.out m rfl
            have : n = m.block := by simpa [Value.ownBlock] using e
            omega
        · intro m hm
          cases hm
          show w3.heap.size ≤ gg
          rcases hat with e | e
          · cases ao with
            | none => cases e
            | some m =>
              have h1 := HAo.out m rfl
              have : m.block = gg := by simpa [Value.ownBlock] using e
              omega
          · have := HBr.out.size
            omega
    · have ej : j = K.length := by omega
      subst ej
      have HO : Hid _ := ho
      have HBr : Hid _ := hbr
      clear ho hbr
      have kk1 : ¬ (K.length : Int) < (K.length : Int) := by omega
      go_wp2
      go_ret
      refine ⟨_, rfl, ?_, HB4.out.trans (HBr.out.mono HB4.out.size)⟩
      have := HO.out
      rw [List.take_length] at this
      rw [HKK.out]
      exact this
end
end Go.Proofs.YtdidjdoifpfmmaaGreatDoor
/- The program's Archive.entries, of the tree. -/
namespace Go.Proofs.YtdidjdoifpfmmaaGreatDoor
open Go.RowKit
section
variable {a : Nat → Addr} {w : World} {q : Nat} {L : List It} {blk mblk : ByteArray → Nat}
theorem list_at (ok : TreeOk L) {s : ByteArray} (h : listErr L s = 0) : (namesOf s).2 = true ∧ (findF L ⟨#[]⟩ (-1) (namesOf s).1).2 = 0 ∧ IsDir L s := by
  unfold listErr at h
  cases h0 : (namesOf s).2
  · rw [h0, if_pos rfl] at h; cases h
  · rw [h0, if_neg (by simp)] at h
    by_cases hf : (findF L ⟨#[]⟩ (-1) (namesOf s).1).2 = 0
    · refine ⟨rfl, hf, ?_⟩
      rw [if_neg (by simp [hf])] at h
      rcases found_at ok h0 hf with ⟨hd, _⟩ | ⟨x, hx, hxp, hxd, hc, _⟩
      · exact hd
      · exfalso
        rw [not_or] at hc
        rw [if_pos ⟨by omega, by simpa using hc.2⟩] at h
        cases h
    · rw [if_pos hf] at h; exact absurd h hf
theorem list_err (ok : TreeOk L) {s : ByteArray} (h : listErr L s ≠ 0) : ((namesOf s).2 = false ∧ listErr L s = 5) ∨ ((namesOf s).2 = true ∧ (findF L ⟨#[]⟩ (-1) (namesOf s).1).2 ≠ 0 ∧ listErr L s = (findF L ⟨#[]⟩ (-1) (namesOf s).1).2) ∨
    ((namesOf s).2 = true ∧ (findF L ⟨#[]⟩ (-1) (namesOf s).1).2 = 0 ∧ listErr L s = 7 ∧ ∃ x ∈ L, x.path = s ∧ x.dir = false) := by
  cases h0 : (namesOf s).2
  · refine .inl ⟨rfl, ?_⟩
    unfold listErr
    rw [h0, if_pos rfl]
  · by_cases hf : (findF L ⟨#[]⟩ (-1) (namesOf s).1).2 = 0
    · refine .inr (.inr ⟨rfl, hf, ?_⟩)
      unfold listErr at h ⊢
      rw [h0, if_neg (by simp), if_neg (by simp [hf])] at h ⊢
      rcases found_at ok h0 hf with ⟨hd, hc⟩ | ⟨x, hx, hxp, hxd, hc, _⟩
      · exfalso
        rw [if_neg] at h
        · exact h rfl
        · rintro ⟨h1, h2⟩
          rcases hc with hc | hc
          · omega
          · rw [hc] at h2; cases h2
      · rw [not_or] at hc
        rw [if_pos ⟨by omega, by simpa using hc.2⟩]
        exact ⟨rfl, x, hx, hxp, hxd⟩
    · refine .inr (.inl ⟨rfl, hf, ?_⟩)
      unfold listErr
      rw [h0, if_neg (by simp), if_pos hf]
set_option maxRecDepth 100000 in
set_option maxHeartbeats 2000000 in
theorem devArcEnt_ok (G : Glob a w) (h : ArcAt w q L blk mblk) (s : ByteArray) (hs : s.size ≤ 1000000) (h0 : listErr L s = 0) :
    Calls Tryz.prog 94 #[.pointer (some ⟨q, 0, none⟩), .int .i64 0, .string s] w fun e w' => ∃ lv, e = .returned (.tuple #[lv, .nilIface]) ∧ w'.ownsRow w.heap.size 52 3 lv (kidsFold s L).length (enCells ((kidsFold s L).map (enOf L s))) ∧ Below w.heap.size w w' := by
  obtain ⟨hn, hf, hd⟩ := list_at h.ok h0
  have c := devSplit_ok G s hs hn
  have hfew := names_few s hn
  have HJ : Hid _ := names_join s hn
  go_enter Tryz.func94, Tryz.ntmps94
  go_wp2_with (go_at_call 159; refine c.mono ?_; rintro e w1 ⟨v, rfl, h1, hb⟩; have hr' := (h.below hb).root)
  have h' := h.below hb
  have G' := G.up hb
  have cF := devFind_ok h'.tree h'.ok a _ v h1 (names_are s) (by omega) (G'.err 5 (by decide)) (G'.err 6 (by decide)) hf
  rw [HJ.out] at cF
  go_wp2_with (go_at_call 161; refine cF.mono ?_; rintro e w2 ⟨rfl, hb2⟩)
  have h'' := h'.below hb2
  have cD := devIsDir_any _ _ w2 (h''.tree.dir s hd).1
  have cE := devEntries_any h''.tree h''.ok s hd
  go_wp2_with (first
    | (go_at_call 162; refine cD.mono ?_; rintro e w' ⟨rfl, rfl⟩)
    | (go_at_call 163; refine cE.mono ?_; rintro e w3 ⟨lv, rfl, ho, hb3⟩))
  refine bodyPost_ret (results_tmp2 rfl _ _ _) rfl ?_
  have hs1 := hb.size
  have hs2 := hb2.size
  refine ⟨lv, rfl, ?_, hb.trans ((hb2.trans (hb3.mono hs2)).mono hs1)⟩
  exact ⟨ho.1, ho.2.imp id (fun ⟨g, cap, cur, hv, hB, r⟩ => ⟨g, cap, cur, hv, by omega, r⟩)⟩
set_option maxRecDepth 100000 in
set_option maxHeartbeats 2000000 in
theorem devArcEnt_err (G : Glob a w) (h : ArcAt w q L blk mblk) (s : ByteArray) (hs : s.size ≤ 1000000) (h0 : listErr L s ≠ 0) :
    Calls Tryz.prog 94 #[.pointer (some ⟨q, 0, none⟩), .int .i64 0, .string s] w fun e w' => e = .returned (.tuple #[.slice none 0 0, errV a (listErr L s - 1)]) ∧ Below w.heap.size w w' := by
  rcases list_err h.ok h0 with ⟨hn, e5⟩ | ⟨hn, hf, ef⟩ | ⟨hn, hf, e7, x, hx, hxp, hxd⟩
  · rw [e5]
    have c := devSplit_err G s hs hn
    unfold errV at c
    go_enter Tryz.func94, Tryz.ntmps94
    go_wp2_with (go_at_call 159; refine c.mono ?_; rintro e w1 ⟨rfl, hb⟩)
    refine bodyPost_ret (results_tmp2 rfl _ _ _) rfl ?_
    exact ⟨rfl, hb⟩
  · rw [ef]
    have c := devSplit_ok G s hs hn
    have hfew := names_few s hn
    clear ef h0
    generalize hj : (findF L ⟨#[]⟩ (-1) (namesOf s).1).2 - 1 = j
    have HJ : Hid _ := hj
    clear hj
    go_enter Tryz.func94, Tryz.ntmps94
    go_wp2_with (go_at_call 159; refine c.mono ?_; rintro e w1 ⟨v, rfl, h1, hb⟩; have hr' := (h.below hb).root)
    have h' := h.below hb
    have G' := G.up hb
    have cF := devFind_err h'.tree h'.ok a _ v h1 (names_are s) (by omega) (G'.err 5 (by decide)) (G'.err 6 (by decide)) hf
    rw [HJ.out] at cF
    unfold errV at cF
    go_wp2_with (go_at_call 161; refine cF.mono ?_; rintro e w2 ⟨rfl, hb2⟩)
    refine bodyPost_ret (results_tmp2 rfl _ _ _) rfl ?_
    exact ⟨rfl, hb.trans (hb2.mono hb.size)⟩
  · rw [e7]
    have c := devSplit_ok G s hs hn
    have hfew := names_few s hn
    have HJ : Hid _ := names_join s hn
    have HC : Hid (∀ w2, ArcAt w2 q L blk mblk → w2.cell? ⟨blk s, 0, none⟩ = some (.map none)) := fun w2 h2 => by
      have := (h2.tree.file x hx hxd).1
      rw [hxp] at this
      exact this
    clear hxp e7 h0
    go_enter Tryz.func94, Tryz.ntmps94
    go_wp2_with (go_at_call 159; refine c.mono ?_; rintro e w1 ⟨v, rfl, h1, hb⟩; have hr' := (h.below hb).root)
    have h' := h.below hb
    have G' := G.up hb
    have cF := devFind_ok h'.tree h'.ok a _ v h1 (names_are s) (by omega) (G'.err 5 (by decide)) (G'.err 6 (by decide)) hf
    rw [HJ.out] at cF
    go_wp2_with (go_at_call 161; refine cF.mono ?_; rintro e w2 ⟨rfl, hb2⟩)
    have e0 := HC.out w2 (h'.below hb2)
    have e6 := (G'.up hb2).err 6 (by decide)
    have cD := devIsDir_any _ _ w2 e0
    go_wp2_with (go_at_call 162; refine cD.mono ?_; rintro e w' ⟨rfl, rfl⟩)
    go_region
    go_wp2
    refine bodyPost_ret (results_tmp2 rfl _ _ _) rfl ?_
    exact ⟨rfl, (hb.trans (hb2.mono hb.size)).drew⟩
end
end Go.Proofs.YtdidjdoifpfmmaaGreatDoor
/- package plain's List: what it does with each entry. -/
namespace Go.Proofs.YtdidjdoifpfmmaaGreatDoor
open Go.RowKit
/-- What plain.List keeps while it goes over entries: whether it is over, whether it went on, the error and its place, the entries, how many are wanted. -/
structure Yd (w : World) (bo bx be ba bl bm : Nat) (B : Int) (lv : Value) (en : List En) (ov : Bool) (base : Nat) : Prop where
  o : RowIs w bo 4 [.bool ov]
  x : RowIs w bx 4 [.bool false]
  e : RowIs w be 3 [.int .i64 0]
  a : RowIs w ba 3 [.int .i64 (-1)]
  l : RowIs w bl 48 [lv]
  m : RowIs w bm 3 [.int .i64 B]
  own : w.ownsRow base 52 3 lv en.length (enCells en)
  lt : bo < base ∧ bx < base ∧ be < base ∧ ba < base ∧ bl < base ∧ bm < base
  ne : [bo, bx, be, ba, bl, bm].Nodup
def ovN (B : Int) (n : Nat) : Bool := decide (0 < B) && decide ((n : Int) + 1 = B)
def enV (x : En) : Value := .agg #[.string x.name, .bool x.dir, .int .i64 (x.size : Nat)]
theorem enCells_snoc (en : List En) (x : En) : enCells (en ++ [x]) = enCells en ++ [.string x.name, .bool x.dir, .int .i64 (x.size : Nat)] := by simp [enCells, En.cells]
section
variable {w : World} {bo bx be ba bl bm : Nat} {B : Int} {lv : Value} {en : List En} {ov : Bool} {base : Nat}
theorem own_base {e : TypeId} {size n : Nat} {xs : List Value} (h : w.ownsRow base e size lv n xs) (g : Nat) (hg : lv.ownBlock = some g) : base ≤ g := own_ge h g hg
theorem Yd.grown (Y : Yd w bo bx be ba bl bm B lv en ov base) {o1 o2 : Obj} {w3 : World} {g cap : Nat} {x : En} (_hB : base ≤ w.heap.size) (hown : w3.ownsRow base 52 3 (.slice (some ⟨g, 0, none⟩) (en.length + 1) cap) (en.length + 1) (enCells en ++ [.string x.name, .bool x.dir, .int .i64 (x.size : Nat)])) (hg : ((w.alloc o1).alloc o2).grownBy w3 lv.ownBlock) (ov' : Bool) :
    RowIs w3 bl 48 [lv] ∧ RowIs (w3.setCell ⟨bl, 0, none⟩ (.slice (some ⟨g, 0, none⟩) (en.length + 1) cap)) bl 48 [.slice (some ⟨g, 0, none⟩) (en.length + 1) cap] ∧ RowIs (w3.setCell ⟨bl, 0, none⟩ (.slice (some ⟨g, 0, none⟩) (en.length + 1) cap)) bm 3 [.int .i64 B] ∧ RowIs (w3.setCell ⟨bl, 0, none⟩ (.slice (some ⟨g, 0, none⟩) (en.length + 1) cap)) bo 4 [.bool ov] ∧
    Yd ((w3.setCell ⟨bl, 0, none⟩ (.slice (some ⟨g, 0, none⟩) (en.length + 1) cap)).setCell ⟨bo, 0, none⟩ (.bool ov')) bo bx be ba bl bm B (.slice (some ⟨g, 0, none⟩) (en.length + 1) cap) (en ++ [x]) ov' base ∧ Fr w ((w3.setCell ⟨bl, 0, none⟩ (.slice (some ⟨g, 0, none⟩) (en.length + 1) cap)).setCell ⟨bo, 0, none⟩ (.bool ov')) (bo :: bl :: lv.ownBlock.toList) := by
  obtain ⟨l1, l2, l3, l4, l5, l6⟩ := Y.lt
  have hne := Y.ne
  simp only [List.nodup_cons, List.mem_cons, List.not_mem_nil, or_false, not_or] at hne
  obtain ⟨⟨n1, n2, n3, n4, n5⟩, ⟨n6, n7, n8, n9⟩, ⟨n10, n11, n12⟩, ⟨n13, n14⟩, n15, _⟩ := hne
  have f1 : Fr w w3 lv.ownBlock.toList := (((Fr.refl w _).alloc o1).alloc o2).grown hg (fun k hk => .inl (by rw [hk]; simp))
  have far : ∀ b, b < base → b ∉ lv.ownBlock.toList := fun b hb hm => by
    rw [Option.mem_toList] at hm
    have := own_base Y.own b hm
    omega
  have ro := f1.row Y.o (far _ l1)
  have rx := f1.row Y.x (far _ l2)
  have re := f1.row Y.e (far _ l3)
  have ra := f1.row Y.a (far _ l4)
  have rl := f1.row Y.l (far _ l5)
  have rm := f1.row Y.m (far _ l6)
  have hgb : base ≤ g := own_ge hown g (by simp [Value.ownBlock])
  have own2 : ((w3.setCell ⟨bl, 0, none⟩ (.slice (some ⟨g, 0, none⟩) (en.length + 1) cap)).setCell ⟨bo, 0, none⟩ (.bool ov')).ownsRow base 52 3 (.slice (some ⟨g, 0, none⟩) (en.length + 1) cap) (en.length + 1) (enCells en ++ [.string x.name, .bool x.dir, .int .i64 (x.size : Nat)]) := by
    have hf : Fr w3 ((w3.setCell ⟨bl, 0, none⟩ (.slice (some ⟨g, 0, none⟩) (en.length + 1) cap)).setCell ⟨bo, 0, none⟩ (.bool ov')) [bl, bo] := ((Fr.refl w3 _).setCell _ _ (.inl (by simp))).setCell _ _ (.inl (by simp))
    refine owns_fr hown hf (fun k hk => ?_)
    simp [Value.ownBlock] at hk
    subst hk
    simp
    omega
  refine ⟨rl, rl.set 0 _, rm.other _ (by show bm ≠ bl; omega), ro.other _ (by show bo ≠ bl; omega), ⟨(ro.other _ (by show bo ≠ bl; omega)).set 0 _, (rx.other _ (by show bx ≠ bl; omega)).other _ (by show bx ≠ bo; omega), (re.other _ (by show be ≠ bl; omega)).other _ (by show be ≠ bo; omega), (ra.other _ (by show ba ≠ bl; omega)).other _ (by show ba ≠ bo; omega), (rl.set 0 _).other _ (by show bl ≠ bo; omega), (rm.other _ (by show bm ≠ bl; omega)).other _ (by show bm ≠ bo; omega), ?_, Y.lt, Y.ne⟩, ?_⟩
  · rw [List.length_append, List.length_singleton, enCells_snoc]
    exact own2
  · exact ((f1.wider (fun y hy => by simp at hy; simp [hy])).setCell _ _ (.inl (by simp))).setCell _ _ (.inl (by simp))
set_option maxRecDepth 100000 in
set_option maxHeartbeats 4000000 in
theorem yield_next (Y : Yd w bo bx be ba bl bm B lv en false base) (hB : base ≤ w.heap.size) (hen : en.length ≤ 1000) (x : En) :
    Calls Tryz.prog 48 #[enV x, .nilIface, .pointer (some ⟨bo, 0, none⟩), .pointer (some ⟨bx, 0, none⟩), .pointer (some ⟨be, 0, none⟩), .pointer (some ⟨ba, 0, none⟩), .pointer (some ⟨bl, 0, none⟩), .pointer (some ⟨bm, 0, none⟩)] w fun e w' =>
      e = .returned (.bool (!(ovN B en.length))) ∧ ∃ lv', Yd w' bo bx be ba bl bm B lv' (en ++ [x]) (ovN B en.length) base ∧ Fr w w' (bo :: bl :: lv.ownBlock.toList) := by
  unfold enV
  obtain ⟨i0, hi0, hz0, hz1, hz2⟩ := info_parts entInfoD
  obtain ⟨xn, xd, xs⟩ := x
  have b1 : Below w.heap.size w (w.alloc (.cells #[.string xn, .bool xd, .int .i64 (xs : Nat)] 52)) := (Below.refl _ w).alloc (Nat.le_refl _) _
  have c1 : (w.alloc (.cells #[.string xn, .bool xd, .int .i64 (xs : Nat)] 52)).cell? ⟨bo, 0, none⟩ = some (.bool false) := by rw [b1.cell Y.o.lt]; exact Y.o.cell 0
  have c2 : (w.alloc (.cells #[.string xn, .bool xd, .int .i64 (xs : Nat)] 52)).cell? ⟨bl, 0, none⟩ = some lv := by rw [b1.cell Y.l.lt]; exact Y.l.cell 0
  have HG : Hid _ := fun (g cap : Nat) (w3 : World) (o2 : Obj) (ov' : Bool) hown hg => Y.grown (o1 := .cells #[.string xn, .bool xd, .int .i64 (xs : Nat)] 52) (o2 := o2) (w3 := w3) (g := g) (cap := cap) (x := ⟨xn, xd, xs⟩) hB hown hg ov'
  have HO : Hid _ := Y.own
  obtain ⟨al, cl, rfl⟩ : ∃ al cl, lv = .slice al en.length cl := slice_formR Y.own
  clear Y b1
  generalize hxs : enCells en = ecs at *
  clear hxs
  have HC : Hid (∀ (g cap : Nat) (w3 : World) (o2 : Obj), w3.ownsRow base 52 3 (.slice (some ⟨g, 0, none⟩) (en.length + 1) cap) (en.length + 1) (ecs ++ [.string xn, .bool xd, .int .i64 (xs : Nat)]) → ((w.alloc (.cells #[.string xn, .bool xd, .int .i64 (xs : Nat)] 52)).alloc o2).grownBy w3 (Value.slice al en.length cl).ownBlock →
      w3.cell? ⟨bl, 0, none⟩ = some (.slice al en.length cl) ∧ w3.frozen? ⟨bl, 0, none⟩ = false ∧ (w3.setCell ⟨bl, 0, none⟩ (.slice (some ⟨g, 0, none⟩) (en.length + 1) cap)).cell? ⟨bl, 0, none⟩ = some (.slice (some ⟨g, 0, none⟩) (en.length + 1) cap) ∧ (w3.setCell ⟨bl, 0, none⟩ (.slice (some ⟨g, 0, none⟩) (en.length + 1) cap)).cell? ⟨bm, 0, none⟩ = some (.int .i64 B) ∧ (w3.setCell ⟨bl, 0, none⟩ (.slice (some ⟨g, 0, none⟩) (en.length + 1) cap)).cell? ⟨bo, 0, none⟩ = some (.bool false) ∧ (w3.setCell ⟨bl, 0, none⟩ (.slice (some ⟨g, 0, none⟩) (en.length + 1) cap)).frozen? ⟨bo, 0, none⟩ = false) := fun g cap w3 o2 h1 h2 => by
    obtain ⟨r1, r2, r3, r4, _, _⟩ := HG.out g cap w3 o2 true h1 h2
    exact ⟨r1.cell 0, r1.frozen 0, r2.cell 0, r3.cell 0, r4.cell 0, r4.frozen 0⟩
  have HW : Hid (∀ j u, [Value.string xn, .bool xd, .int .i64 (xs : Nat)][j]? = some u → ((w.alloc (.cells #[.string xn, .bool xd, .int .i64 (xs : Nat)] 52)).alloc (.cells #[.string xn, .bool xd, .int .i64 (xs : Nat)] 52)).cell? ((⟨w.heap.size + 1, 0, none⟩ : Addr).add j) = some u) := by
    have := World.news_of_block (cs := #[.string xn, .bool xd, .int .i64 (xs : Nat)]) (t := 52) (fr := (0, 0)) (heap_alloc_new (w.alloc (.cells #[.string xn, .bool xd, .int .i64 (xs : Nat)] 52)) (.cells #[.string xn, .bool xd, .int .i64 (xs : Nat)] 52))
    rw [show (w.alloc (.cells #[.string xn, .bool xd, .int .i64 (xs : Nat)] 52)).heap.size = w.heap.size + 1 by simp] at this
    exact this
  by_cases h0 : (0 : Int) < B
  · by_cases h1 : (en.length : Int) + 1 = B
    · have HV : Hid (ovN B en.length = true) := by show ovN B en.length = true; unfold ovN; rw [decide_eq_true h0, decide_eq_true h1]; rfl
      have hq : ((en.length : Int) + 1 == B) = true := by simpa using h1
      go_enter Tryz.func48, Tryz.ntmps48
      go_wp2_with (at_builtin; refine wpList_append_lies _ rfl _ _ 48 rfl base 52 i0 _ 3 32 Tryz.underlying48 hi0 hz0 hz1 hz2 rfl (by decide) (.slice al en.length cl) en.length ecs rfl ((World.ownsRow.alloc HO.out _).alloc _) ⟨w.heap.size + 1, 0, none⟩ 1 1 [.string xn, .bool xd, .int .i64 (xs : Nat)] rfl rfl HW.out (by simp [Value.oneCell']) (by decide) (by unfold maxLen; omega) (by omega) (by simp; omega) (w.heap.size + 2) (by simp) ?_; intro g cap w3 hown hgrow hat hlt3; obtain ⟨k1, k1f, k2, k3, k4, k4f⟩ := HC.out g cap w3 _ hown hgrow)
      go_ret
      rw [HV.out]
      exact ⟨rfl, ⟨_, (HG.out g cap w3 _ true hown hgrow).2.2.2.2.1⟩, (HG.out g cap w3 _ true hown hgrow).2.2.2.2.2⟩
    · have HV : Hid (ovN B en.length = false) := by show ovN B en.length = false; unfold ovN; rw [decide_eq_false h1, Bool.and_false]
      have hq : ((en.length : Int) + 1 == B) = false := by simpa using h1
      go_enter Tryz.func48, Tryz.ntmps48
      go_wp2_with (at_builtin; refine wpList_append_lies _ rfl _ _ 48 rfl base 52 i0 _ 3 32 Tryz.underlying48 hi0 hz0 hz1 hz2 rfl (by decide) (.slice al en.length cl) en.length ecs rfl ((World.ownsRow.alloc HO.out _).alloc _) ⟨w.heap.size + 1, 0, none⟩ 1 1 [.string xn, .bool xd, .int .i64 (xs : Nat)] rfl rfl HW.out (by simp [Value.oneCell']) (by decide) (by unfold maxLen; omega) (by omega) (by simp; omega) (w.heap.size + 2) (by simp) ?_; intro g cap w3 hown hgrow hat hlt3; obtain ⟨k1, k1f, k2, k3, k4, k4f⟩ := HC.out g cap w3 _ hown hgrow)
      go_ret
      rw [HV.out]
      exact ⟨rfl, ⟨_, (HG.out g cap w3 _ false hown hgrow).2.2.2.2.1⟩, (HG.out g cap w3 _ false hown hgrow).2.2.2.2.2⟩
  · have HV : Hid (ovN B en.length = false) := by show ovN B en.length = false; unfold ovN; rw [decide_eq_false h0]; rfl
    go_enter Tryz.func48, Tryz.ntmps48
    go_wp2_with (at_builtin; refine wpList_append_lies _ rfl _ _ 48 rfl base 52 i0 _ 3 32 Tryz.underlying48 hi0 hz0 hz1 hz2 rfl (by decide) (.slice al en.length cl) en.length ecs rfl ((World.ownsRow.alloc HO.out _).alloc _) ⟨w.heap.size + 1, 0, none⟩ 1 1 [.string xn, .bool xd, .int .i64 (xs : Nat)] rfl rfl HW.out (by simp [Value.oneCell']) (by decide) (by unfold maxLen; omega) (by omega) (by simp; omega) (w.heap.size + 2) (by simp) ?_; intro g cap w3 hown hgrow hat hlt3; obtain ⟨k1, k1f, k2, k3, k4, k4f⟩ := HC.out g cap w3 _ hown hgrow)
    go_ret
    rw [HV.out]
    exact ⟨rfl, ⟨_, (HG.out g cap w3 _ false hown hgrow).2.2.2.2.1⟩, (HG.out g cap w3 _ false hown hgrow).2.2.2.2.2⟩
/-- What plain.List keeps where an error was told. -/
structure Ye (w : World) (bo bx be ba bl : Nat) (n : Nat) : Prop where
  x : RowIs w bx 4 [.bool false]
  e : RowIs w be 3 [.int .i64 (n : Nat)]
  a : RowIs w ba 3 [.int .i64 (-1)]
  l : RowIs w bl 48 [.slice none 0 0]
set_option maxRecDepth 100000 in
set_option maxHeartbeats 4000000 in
theorem yield_err {a : Nat → Addr} (Y : Yd w bo bx be ba bl bm B (.slice none 0 0) [] false base) (hS : Sents a w) (_hS12 : 12 < bo ∧ 12 < be ∧ 12 < ba) (k : Nat) (hk : k < 12) (_ev : Value) :
    Calls Tryz.prog 48 #[.agg #[.string ByteArray.empty, .bool false, .int .i64 0], .iface 452 (.pointer (some (a k))), .pointer (some ⟨bo, 0, none⟩), .pointer (some ⟨bx, 0, none⟩), .pointer (some ⟨be, 0, none⟩), .pointer (some ⟨ba, 0, none⟩), .pointer (some ⟨bl, 0, none⟩), .pointer (some ⟨bm, 0, none⟩)] w fun e w' =>
      e = .returned (.bool true) ∧ Ye w' bo bx be ba bl (k + 1) ∧ Fr w w' [be, ba, bo] := by
  have b1 : Below w.heap.size w (w.alloc (.cells #[.string ByteArray.empty, .bool false, .int .i64 0] 52)) := (Below.refl _ w).alloc (Nat.le_refl _) _
  have c1 : (w.alloc (.cells #[.string ByteArray.empty, .bool false, .int .i64 0] 52)).cell? ⟨bo, 0, none⟩ = some (.bool false) := by rw [b1.cell Y.o.lt]; exact Y.o.cell 0
  have cN := number_E (hS.below b1) k hk
  have hne := Y.ne
  simp only [List.nodup_cons, List.mem_cons, List.not_mem_nil, or_false, not_or] at hne
  obtain ⟨⟨n1, n2, n3, n4, n5⟩, ⟨n6, n7, n8, n9⟩, ⟨n10, n11, n12⟩, ⟨n13, n14⟩, n15, _⟩ := hne
  have HW : Hid (∀ w2, Below (w.alloc (.cells #[.string ByteArray.empty, .bool false, .int .i64 0] 52)).heap.size (w.alloc (.cells #[.string ByteArray.empty, .bool false, .int .i64 0] 52)) w2 → w2.cell? ⟨be, 0, none⟩ = some (.int .i64 0) ∧ w2.frozen? ⟨be, 0, none⟩ = false ∧ (w2.setCell ⟨be, 0, none⟩ (.int .i64 ((k + 1 : Nat) : Int))).cell? ⟨ba, 0, none⟩ = some (.int .i64 (-1)) ∧ (w2.setCell ⟨be, 0, none⟩ (.int .i64 ((k + 1 : Nat) : Int))).frozen? ⟨ba, 0, none⟩ = false ∧
      ((w2.setCell ⟨be, 0, none⟩ (.int .i64 ((k + 1 : Nat) : Int))).setCell ⟨ba, 0, none⟩ (.int .i64 (-1))).cell? ⟨bo, 0, none⟩ = some (.bool false) ∧ ((w2.setCell ⟨be, 0, none⟩ (.int .i64 ((k + 1 : Nat) : Int))).setCell ⟨ba, 0, none⟩ (.int .i64 (-1))).frozen? ⟨bo, 0, none⟩ = false ∧
      Ye (((w2.setCell ⟨be, 0, none⟩ (.int .i64 ((k + 1 : Nat) : Int))).setCell ⟨ba, 0, none⟩ (.int .i64 (-1))).setCell ⟨bo, 0, none⟩ (.bool true)) bo bx be ba bl (k + 1) ∧ Fr w (((w2.setCell ⟨be, 0, none⟩ (.int .i64 ((k + 1 : Nat) : Int))).setCell ⟨ba, 0, none⟩ (.int .i64 (-1))).setCell ⟨bo, 0, none⟩ (.bool true)) [be, ba, bo]) := fun w2 hb => by
    have f2 : Fr w w2 [] := (Fr.of_below b1 []).trans (Fr.of_below hb []) (by simp)
    have re := f2.row Y.e (by simp)
    have ra := f2.row Y.a (by simp)
    have ro := f2.row Y.o (by simp)
    have rx := f2.row Y.x (by simp)
    have rl := f2.row Y.l (by simp)
    have ra1 := ra.other (a := ⟨be, 0, none⟩) (.int .i64 ((k + 1 : Nat) : Int)) (by show ba ≠ be; omega)
    have ro2 := (ro.other (a := ⟨be, 0, none⟩) (.int .i64 ((k + 1 : Nat) : Int)) (by show bo ≠ be; omega)).other (a := ⟨ba, 0, none⟩) (.int .i64 (-1)) (by show bo ≠ ba; omega)
    refine ⟨re.cell 0, re.frozen 0, ra1.cell 0, ra1.frozen 0, ro2.cell 0, ro2.frozen 0, ⟨?_, ?_, ?_, ?_⟩, ?_⟩
    · exact ((rx.other _ (by show bx ≠ be; omega)).other _ (by show bx ≠ ba; omega)).other _ (by show bx ≠ bo; omega)
    · exact ((re.set 0 _).other _ (by show be ≠ ba; omega)).other _ (by show be ≠ bo; omega)
    · exact ((ra1.set 0 _)).other _ (by show ba ≠ bo; omega)
    · exact ((rl.other _ (by show bl ≠ be; omega)).other _ (by show bl ≠ ba; omega)).other _ (by show bl ≠ bo; omega)
    · exact (((f2.wider (cs := [be, ba, bo]) (by simp)).setCell _ _ (.inl (by simp))).setCell _ _ (.inl (by simp))).setCell _ _ (.inl (by simp))
  clear Y b1
  generalize hn : k + 1 = n at cN HW ⊢
  clear hn
  go_enter Tryz.func48, Tryz.ntmps48
  go_wp2_with (go_at_call 43; refine cN.mono ?_; rintro e w2 ⟨rfl, hb2⟩; obtain ⟨k1, k2, k3, k4, k5, k6, k7, k8⟩ := HW.out w2 hb2)
  go_ret
  exact ⟨rfl, k7, k8⟩
end
end Go.Proofs.YtdidjdoifpfmmaaGreatDoor
