import Derived.Test.YtdidjdoifpfmmaaGreatDoorEnded
import Derived.Test.YtdidjdoifpfmmaaGreatDoorFour
namespace Go.Proofs.YtdidjdoifpfmmaaGreatDoor
open Go.RowKit

theorem textOf_extract (r : ByteArray) : textOf (r.extract 64 r.size) = (textOf r).drop 64 := by
  have h : (r.extract 64 r.size).data.toList = r.data.toList.drop 64 := by
    rw [ByteArray.data_extract, Array.toList_extract]
    simp
    exact List.take_of_length_le (by simp)
  unfold textOf
  rw [h, List.map_drop]
theorem endOf_list (K : List Nat) (s : St) (r : List Nat) (n : Nat) : (ofList (endOf K s r n)).list = endOf K s r n := by
  unfold endOf
  split <;> rfl
theorem endOf_ok (K : List Nat) (s : St) (r : List Nat) (n : Nat) : (ofList (endOf K s r n)).Ok := by
  unfold endOf
  split <;> exact mix_ok _ _ _
theorem lastOf_take (r : List Nat) (h : r.length < 56) : (lastOfE r).take 56 = r ++ [128] ++ List.replicate (55 - r.length) 0 := by
  unfold lastOfE
  rw [List.take_append, List.take_of_length_le (by simp; omega), List.take_replicate]
  congr 2
  simp; omega

/-- The end of a text is the last of its blocks. -/
theorem end_eq (K : List Nat) (s : St) (T r : List Nat) (q : Nat) (hr : r = T.drop (64 * q)) (hq : 64 * q + r.length = T.length) (h : r.length < 64) :
    stAt K s (pad T) (blocksOf T.length) = ofList (endOf K (stAt K s T q) r T.length) := by
  have hc : stAt K s (pad T) q = stAt K s T q := stAt_congr K s _ _ q fun k hk => blockAt_pad T k (by omega)
  unfold endOf
  by_cases h56 : r.length < 56
  · have hb : blocksOf T.length = q + 1 := by unfold blocksOf; omega
    rw [if_pos h56, hb, stAt, hc, blockAt_last T r q hr hq h56, putLen_end _ _ (lastOf_len r h), lastOf_take r h56]
  · have hb : blocksOf T.length = q + 1 + 1 := by unfold blocksOf; omega
    obtain ⟨e1, e2⟩ := blockAt_full T r q hr hq (by omega) h
    rw [if_neg h56, hb, stAt, stAt, hc, e1, e2, putLen_end _ _ (by simp)]
    rfl

/-- A table in memory. -/
def GlobAt (w : World) (g : Nat) (l : List Nat) : Prop := ∃ t fz, w.heap[g]? = some (.cells (u32s l).toArray t fz)
theorem GlobAt.lt {w : World} {g : Nat} {l : List Nat} (h : GlobAt w g l) : g < w.heap.size := by
  obtain ⟨t, fz, h⟩ := h
  rcases Nat.lt_or_ge g w.heap.size with h' | h'
  · exact h'
  · rw [Array.getElem?_eq_none h'] at h; cases h
theorem GlobAt.below {w w' : World} {g B : Nat} {l : List Nat} (h : GlobAt w g l) (hb : Below B w w') (hg : g < B) : GlobAt w' g l := by
  obtain ⟨t, fz, h⟩ := h
  exact ⟨t, fz, by rw [hb.block g hg]; exact h⟩
theorem GlobAt.tab {w : World} {g : Nat} {l : List Nat} (h : GlobAt w g l) : TabU w g l := fun j hj => by
  obtain ⟨t, fz, h⟩ := h
  rw [cell_of_row w g j _ t fz h]
  simpa using u32s_get l j hj

set_option maxHeartbeats 4000000 in
set_option maxRecDepth 100000 in
theorem of_any (K : List Nat) (hK : K.length = 64) (dK : ∀ x ∈ K, x < 4294967296) (s0 : St) (ok0 : s0.Ok) (t : ByteArray) (ht : t.size ≤ 1000000) (w : World) (hR : GlobAt w 14 K) (hS : GlobAt w 13 s0.list) :
    Calls Tryz.prog 109 #[.string t] w fun e w' => e = .returned (.agg (bytes (outs (stAt K s0 (pad (textOf t)) (blocksOf t.size)).list)).toArray) ∧ Below w.heap.size w w' := by
  have hg1 := hR.lt
  have hg2 := hS.lt
  have hT := hR.tab
  have hlT := textOf_len t
  obtain ⟨tS, fS, hS⟩ := hS
  have hsz0 : (Tryz.prog.info? 293).map (·.size) = some (u32s s0.list).toArray.size := by rw [List.size_toArray, u32s_length]; kernel_rfl
  have hz0 : Hid ((8 : Nat) = (u32s s0.list).toArray.size) := by show _ = _; rw [List.size_toArray, u32s_length]; rfl
  have hone0 := u32s_one s0.list
  go_enter Tryz.func109, Tryz.ntmps109
  refine seq_at ?_
  go_wp2
  show Code.wp _ _ _ _ (w.alloc (.cells (bytes (List.replicate 32 0)).toArray 121))
  have hA := RowIs.new w 121 (bytes (List.replicate 32 0))
  have hbA : Below w.heap.size w (w.alloc (.cells (bytes (List.replicate 32 0)).toArray 121)) := (Below.refl _ _).alloc (Nat.le_refl _) _
  have hzA : Hid ((w.alloc (.cells (bytes (List.replicate 32 0)).toArray 121)).heap.size = w.heap.size + 1) := by show _ = _; simp
  generalize w.alloc (.cells (bytes (List.replicate 32 0)).toArray 121) = WA at hA hbA hzA ⊢
  have hSA : WA.heap[13]? = some (.cells (u32s s0.list).toArray tS fS) := by rw [hbA.block _ hg2]; exact hS
  refine seq_at ?_
  go_wp2_with (first | (refine wpList_load_row rfl 293 _ rfl 13 rfl _ _ _ _ hSA Tryz.underlying293 rfl hsz0 ?_) | (refine wpList_store_row rfl 293 _ _ rfl WA.heap.size _ rfl rfl _ _ (heap_alloc_new WA _) hsz0 hz0.out hone0 ?_))
  show Code.wp _ _ _ _ ((WA.alloc (.cells (u32s (List.replicate 8 0)).toArray 293)).setRow WA.heap.size (u32s s0.list).toArray)
  have r1 : RowIs ((WA.alloc (.cells (u32s (List.replicate 8 0)).toArray 293)).setRow WA.heap.size (u32s s0.list).toArray) WA.heap.size 293 (u32s s0.list) := (RowIs.new WA 293 (u32s (List.replicate 8 0))).setRow _
  have hb1 : Below WA.heap.size WA ((WA.alloc (.cells (u32s (List.replicate 8 0)).toArray 293)).setRow WA.heap.size (u32s s0.list).toArray) := ((Below.refl _ _).alloc (Nat.le_refl _) _).setRow _ (Nat.le_refl _)
  have r0 := hA.below hb1 hA.lt
  have hb2 := hbA.trans (hb1.mono hbA.size)
  generalize (WA.alloc (.cells (u32s (List.replicate 8 0)).toArray 293)).setRow WA.heap.size (u32s s0.list).toArray = W0 at r1 r0 hb2 ⊢
  have hgs : Hid (WA.heap.size = w.heap.size + 1) := hzA.out
  generalize WA.heap.size = gs at r1 hgs ⊢
  clear hA hbA hzA hSA hS hsz0 hz0 hone0 hb1
  refine seq_at ?_
  go_wp2
  show Code.wp _ _ _ _ _
  refine wp_seq_k ?_
  intro KK hKK
  have HK : Hid _ := hKK
  clear hKK
  refine wp_block ?_
  go_loopw [4] (fun rr wr => ∃ (k : Nat) (r : ByteArray), rr = .string r ∧ textOf r = (textOf t).drop (64 * k) ∧ 64 * k + r.size = t.size ∧ RowIs wr gs 293 (u32s (stAt K s0 (textOf t) k).list) ∧ RowIs wr w.heap.size 121 (bytes (List.replicate 32 0)) ∧ Below w.heap.size w wr) (fun rr _ => match rr with | .string r => r.size | _ => 0)
  case atStart => exact ⟨0, t, rfl, rfl, by omega, r1, r0, hb2⟩
  case round =>
    clear r1 r0 hb2
    obtain ⟨k, r, rfl, htr, hkr, r1, r0, hb⟩ := hrel
    have ok := stAt_ok K s0 (textOf t) ok0 k
    have hlr := textOf_len r
    by_cases h64 : 64 ≤ r.size
    · have hblk : bytes ((textOf r).take 64) ++ (bytes (List.replicate 64 0)).drop 64 = bytes (blockAt (textOf t) k) := by
        have e : (bytes (List.replicate 64 0)).drop 64 = [] := List.drop_eq_nil_of_le (by rw [bytes_length]; simp)
        rw [e, List.append_nil, htr]; rfl
      have h3 := RowIs.new wr 189 (bytes (List.replicate 64 0))
      have hcp := run_copy_str (P := Tryz.prog) (wr.alloc (.cells (bytes (List.replicate 64 0)).toArray 189)) 124 9 3 5 wr.heap.size 64 64 64 r _ _ Tryz.underlying124 (by kernel_rfl) h3 (Nat.min_eq_right h64) (by rw [bytes_length]; simp)
      have k3 := h3.setRow (bytes ((textOf r).take 64) ++ (bytes (List.replicate 64 0)).drop 64)
      have kb : Below wr.heap.size wr ((wr.alloc (.cells (bytes (List.replicate 64 0)).toArray 189)).setRow wr.heap.size (bytes ((textOf r).take 64) ++ (bytes (List.replicate 64 0)).drop 64).toArray) := ((Below.refl _ _).alloc (Nat.le_refl _) _).setRow _ (Nat.le_refl _)
      generalize (wr.alloc (.cells (bytes (List.replicate 64 0)).toArray 189)).setRow wr.heap.size (bytes ((textOf r).take 64) ++ (bytes (List.replicate 64 0)).drop 64).toArray = W1 at hcp k3 kb
      rw [hblk] at k3
      have q1 := r1.below kb r1.lt
      have q0 := r0.below kb r0.lt
      have qb := hb.trans (kb.mono hb.size)
      have lb := blockAt_len (textOf t) k (by omega)
      have db := blockAt_lt (textOf t) k (textOf_lt t)
      have hm := mixed_any K hK dK _ ok (blockAt (textOf t) k) lb db W1 (hT.below qb hg1) (Nat.lt_of_lt_of_le hg1 qb.size)
      have hst : Hid ((stAt K s0 (textOf t) (k + 1)).list = mix K (stAt K s0 (textOf t) k) (blockAt (textOf t) k)) := rfl
      have hlM : (mix K (stAt K s0 (textOf t) k) (blockAt (textOf t) k)).length = 8 := rfl
      have hszs : (Tryz.prog.info? 293).map (·.size) = some (u32s (stAt K s0 (textOf t) k).list).toArray.size := by rw [List.size_toArray, u32s_length]; kernel_rfl
      have hszc : (Tryz.prog.info? 189).map (·.size) = some (bytes (blockAt (textOf t) k)).toArray.size := by rw [List.size_toArray, bytes_length, lb]; kernel_rfl
      have hz : (u32s (stAt K s0 (textOf t) k).list).toArray.size = 8 := by rw [List.size_toArray, u32s_length]; rfl
      generalize mix K (stAt K s0 (textOf t) k) (blockAt (textOf t) k) = M at hm hst hlM
      generalize stAt K s0 (textOf t) k = st at r1 q1 hm hszs hz
      generalize blockAt (textOf t) k = bk at k3 hm hszc
      have hsz : (Tryz.prog.info? 293).map (·.size) = some (u32s M).toArray.size := by rw [List.size_toArray, u32s_length, hlM]; kernel_rfl
      have hz2 : (u32s st.list).toArray.size = (u32s M).toArray.size := by rw [hz, List.size_toArray, u32s_length, hlM]
      have hone := u32s_one M
      have hkr2 : Hid (64 * (k + 1) + (r.extract 64 r.size).size = t.size) := by
        show _ = _
        rw [← textOf_len (r.extract 64 r.size), textOf_extract, List.length_drop]; omega
      have htr2 : Hid (textOf (r.extract 64 r.size) = (textOf t).drop (64 * (k + 1))) := by
        show _ = _
        rw [textOf_extract, htr, List.drop_drop]; congr 1
      have h64i : (64 : Int) ≤ (r.size : Int) := by omega
      clear r1 r0 h3 htr hkr
      go_upto_region 6 with fail
      show Code.wp _ _ _ _ (wr.alloc (.cells (bytes (List.replicate 64 0)).toArray 189))
      generalize wr.alloc (.cells (bytes (List.replicate 64 0)).toArray 189) = WB at hcp ⊢
      go_wp2_with (first | (at_builtin; refine wpList_copy _ rfl _ _ 124 9 rfl _ _ rfl rfl hcp ?_) | (refine wpList_load_row rfl 293 _ rfl gs rfl _ _ _ _ q1.heap Tryz.underlying293 rfl hszs ?_) | (refine wpList_load_row rfl 189 _ rfl wr.heap.size rfl _ _ _ _ k3.heap Tryz.underlying189 rfl hszc ?_) | (go_at_call 183; refine hm.mono ?_; rintro e w2 ⟨rfl, hb2⟩; have i1 := q1.below hb2 q1.lt; have i0 := q0.below hb2 q0.lt; have ib := qb.trans (hb2.mono qb.size)) | (refine wpList_store_row rfl 293 _ _ rfl gs _ rfl rfl _ _ i1.heap hsz hz2 hone ?_; have m1 := i1.setRow (u32s M); have m0 := i0.otherRow (g2 := gs) (u32s M).toArray (by rw [hgs.out]; omega); have mb := ib.setRow (g := gs) (u32s M).toArray (by rw [hgs.out]; omega); generalize w2.setRow gs (u32s M).toArray = W3 at m1 m0 mb ⊢))
      refine ⟨⟨k + 1, r.extract 64 r.size, rfl, htr2.out, hkr2.out, by rw [hst.out]; exact m1, m0, mb⟩, ?_⟩
      show (r.extract 64 r.size).size < r.size
      rw [← textOf_len (r.extract 64 r.size), textOf_extract, List.length_drop]
      omega
    · have h64i : ¬ (64 : Int) ≤ (r.size : Int) := by omega
      have hE : Hid (∀ v : Int, v = 8 * (t.size : Int) → Calls Tryz.prog 185 #[.agg (u32s (stAt K s0 (textOf t) k).list).toArray, .string r, .int .u64 v] wr fun e w' => e = .returned (.agg (u32s (endOf K (stAt K s0 (textOf t) k) (textOf r) t.size)).toArray) ∧ Below wr.heap.size wr w') := by
        intro v hv
        rw [hv]
        exact ended_any K hK dK _ ok r (by omega) t.size ht wr (hT.below hb hg1) (Nat.lt_of_lt_of_le hg1 hb.size)
      have hEnd : Hid (stAt K s0 (pad (textOf t)) (blocksOf t.size) = ofList (endOf K (stAt K s0 (textOf t) k) (textOf r) t.size)) := by
        have h := end_eq K s0 (textOf t) (textOf r) k htr (by omega) (by omega)
        rw [hlT] at h
        exact h
      have hTo : Hid (∀ w1, Calls Tryz.prog 184 #[.agg (u32s (endOf K (stAt K s0 (textOf t) k) (textOf r) t.size)).toArray] w1 fun e w' => e = .returned (.agg (bytes (outs (endOf K (stAt K s0 (textOf t) k) (textOf r) t.size))).toArray) ∧ Below w1.heap.size w1 w') := by
        intro w1
        have h := told_any (ofList (endOf K (stAt K s0 (textOf t) k) (textOf r) t.size)) (endOf_ok _ _ _ _) w1
        rw [endOf_list] at h
        exact h
      have hOut : Hid ((stAt K s0 (pad (textOf t)) (blocksOf t.size)).list = endOf K (stAt K s0 (textOf t) k) (textOf r) t.size) := by
        show _ = _
        rw [hEnd.out, endOf_list]
      have hszs : (Tryz.prog.info? 293).map (·.size) = some (u32s (stAt K s0 (textOf t) k).list).toArray.size := by rw [List.size_toArray, u32s_length]; kernel_rfl
      have hlO : (outs (endOf K (stAt K s0 (textOf t) k) (textOf r) t.size)).length = 32 := by
        rw [← endOf_list]; rfl
      clear hEnd htr
      generalize endOf K (stAt K s0 (textOf t) k) (textOf r) t.size = E at hE hTo hOut hlO
      generalize stAt K s0 (textOf t) k = st at r1 hE hszs ok
      obtain ⟨O, HO⟩ : ∃ O, Hid (outs E = O) := ⟨_, rfl⟩
      rw [HO.out] at hlO hTo
      have hszO : (Tryz.prog.info? 121).map (·.size) = some (bytes O).toArray.size := by rw [List.size_toArray, bytes_length, hlO]; kernel_rfl
      have hzO : (bytes (List.replicate 32 0)).toArray.size = (bytes O).toArray.size := by rw [List.size_toArray, List.size_toArray, bytes_length, bytes_length, hlO]; simp
      have honeO := bytes_one O
      go_wp2
      refine HK.out _ _ ?_
      clear HK
      go_wp2_with (first | (refine wpList_load_row rfl 293 _ rfl gs rfl _ _ _ _ r1.heap Tryz.underlying293 rfl hszs ?_) | (go_at_call 185; refine (hE.out _ (by omega)).mono ?_; rintro e w2 ⟨rfl, hb2⟩; have i0 := r0.below hb2 r0.lt; have ib := hb.trans (hb2.mono hb.size)) | (go_at_call 184; refine (hTo.out w2).mono ?_; rintro e w3 ⟨rfl, hb3⟩; have j0 := i0.below hb3 i0.lt; have jb := ib.trans (hb3.mono ib.size)) | (refine wpList_store_row rfl 121 _ _ rfl w.heap.size _ rfl rfl _ _ j0.heap hszO hzO honeO ?_))
      have hB2 : Below w.heap.size w (w3.setRow w.heap.size (bytes O).toArray) := jb.setRow _ (Nat.le_refl _)
      have hg3 := setRow_heap w3 w.heap.size _ (bytes O).toArray _ _ j0.heap
      refine bodyPost_ret (v := .agg (bytes O).toArray) ?_ rfl ⟨by rw [hOut.out, HO.out], hB2⟩
      exact results_cell_row (P := Tryz.prog) Tryz.results109 _ _ w.heap.size _ _ _ _ rfl hg3 Tryz.underlying121 rfl hszO
end Go.Proofs.YtdidjdoifpfmmaaGreatDoor
