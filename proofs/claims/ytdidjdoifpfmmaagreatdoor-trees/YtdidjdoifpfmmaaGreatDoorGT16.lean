import Derived.Test.YtdidjdoifpfmmaaGreatDoorGT15
/- The document's Remove. -/
namespace Go.Proofs.YtdidjdoifpfmmaaGreatDoor
open Go.RowKit
def removeOf (L : List It) (s : ByteArray) : List It × Nat :=
  if spotOf L s ≠ 0 then (L, spotOf L s) else if findAt L s < 0 then (L, 6) else if 0 < (kidsFold s L).length then (L, 9) else (L.eraseIdx (findAt L s).toNat, 0)
/-- The first k, without the one at i. -/
def sifted (L : List It) (i k : Nat) : List It := (L.take k).eraseIdx i
theorem sifted_step (L : List It) (i k : Nat) (hk : k < L.length) : sifted L i (k + 1) = if k = i then sifted L i k else sifted L i k ++ [L[k]] := by
  unfold sifted
  rw [List.take_succ_eq_append_getElem hk]
  by_cases h : k = i
  · subst h
    have hl : (L.take k).length = k := by simp; omega
    rw [if_pos rfl, List.eraseIdx_append_of_length_le (by omega), hl, Nat.sub_self, List.eraseIdx_of_length_le (l := L.take k) (by omega)]
    simp
  · rw [if_neg h]
    rcases Nat.lt_or_ge i k with h1 | h1
    · rw [List.eraseIdx_append_of_lt_length (by simp; omega)]
    · rw [List.eraseIdx_of_length_le (by simp; omega), List.eraseIdx_of_length_le (by simp; omega)]
theorem sifted_length (L : List It) (i k : Nat) : (sifted L i k).length ≤ k := by
  unfold sifted
  have := List.length_eraseIdx_le (L.take k) i
  rw [List.length_take] at this
  omega
set_option maxRecDepth 100000 in
set_option maxHeartbeats 2000000 in
theorem refRemove_any (L : List It) (s : ByteArray) (v : Value) (w : World) (h : TreeOwn w v L) (hl : L.length ≤ 30000) (hs : s.size ≤ 1000000) (hsz : ∀ x ∈ L, x.path.size ≤ 1000000) :
    Calls Tryz.prog 125 #[v, .string s] w fun e w' => ∃ v', e = .returned (.tuple #[v', .int .i64 ((removeOf L s).2 : Nat)]) ∧ TreeDone w w' v v' (removeOf L s).1 := by
  have hI := itsAt_of h
  obtain ⟨av, cv, hv⟩ : ∃ av cv, v = .slice av L.length cv := slice_formR h
  have hSp := refSpot_any L s v w hI (by omega) hs
  have HFi : Hid (∀ w1, Below w.heap.size w w1 → Calls Tryz.prog 195 #[v, .string s] w1 fun e w' => e = .returned (.int .i64 (findAt L s)) ∧ w1 = w') := fun w1 hb => refFind_any L s v w1 (hI.below hb (Nat.le_refl _)) (by omega)
  have HKi : Hid (∀ w1, Below w.heap.size w w1 → Calls Tryz.prog 197 #[v, .string s] w1 fun e w' => ∃ kv, e = .returned kv ∧ w'.ownsRow w1.heap.size 9 1 kv (kidsFold s L).length (strs (kidsFold s L)) ∧ Below w1.heap.size w1 w') := fun w1 hb => refKids_any L s v w1 (hI.below hb (Nat.le_refl _)) (by omega) hsz
  have hput : Hid (removeOf L s = if spotOf L s ≠ 0 then (L, spotOf L s) else if findAt L s < 0 then (L, 6) else if 0 < (kidsFold s L).length then (L, 9) else (L.eraseIdx (findAt L s).toNat, 0)) := by
    show removeOf L s = _
    rfl
  have HD : Hid (∀ w', Below w.heap.size w w' → TreeDone w w' v v L) := fun w' hb => treeDone_same h hb
  have HT : Hid (TreeOwn w v L) := h
  have hcode := spot_codes L s
  by_cases hsp : spotOf L s = 0
  · rw [if_neg (by simp [hsp])] at hput
    rw [hsp] at hSp
    clear hI h
    subst hv
    rcases findAt_cases L s with ⟨hf, _⟩ | ⟨i, hi, hf, _⟩
    · rw [hf] at hput HFi
      rw [if_pos (by omega)] at hput
      go_enter Tryz.func125, Tryz.ntmps125
      go_wp2_with (first
        | (go_at_call 194; refine hSp.mono ?_; rintro e w2 ⟨rfl, hb3⟩; have hFi := HFi.out w2 hb3; clear hSp)
        | (go_at_call 195; refine hFi.mono ?_; rintro e w3 ⟨rfl, rfl⟩; clear hFi))
      refine bodyPost_ret (results_tmp2 rfl _ _ _) rfl ?_
      exact ⟨_, by rw [hput.out]; rfl, by rw [hput.out]; exact HD.out _ hb3⟩
    · have i0' : ¬ (i : Int) < 0 := by omega
      rw [hf] at hput HFi
      rw [if_neg i0', Int.toNat_natCast] at hput
      generalize kidsFold s L = kl at *
      by_cases hk0 : 0 < kl.length
      · rw [if_pos hk0] at hput
        have k1 : (0 : Int) < (kl.length : Int) := by omega
        go_enter Tryz.func125, Tryz.ntmps125
        go_wp2_with (first
          | (go_at_call 194; refine hSp.mono ?_; rintro e w2 ⟨rfl, hb3⟩; have hFi := HFi.out w2 hb3; clear hSp)
          | (go_at_call 195; refine hFi.mono ?_; rintro e w3 ⟨rfl, rfl⟩; clear hFi; have hKi := HKi.out w2 hb3)
          | (go_at_call 197; refine hKi.mono ?_; rintro e w4 ⟨kv, rfl, hk4, hb4⟩; have hb5 := hb3.trans (hb4.mono hb3.size); obtain ⟨ak, ck, rfl⟩ := slice_formR hk4; clear hKi hk4))
        refine bodyPost_ret (results_tmp2 rfl _ _ _) rfl ?_
        exact ⟨_, by rw [hput.out]; rfl, by rw [hput.out]; exact HD.out _ hb5⟩
      · rw [if_neg hk0] at hput
        have k1 : ¬ (0 : Int) < (kl.length : Int) := by omega
        obtain ⟨i0, hi0, hz0, hz1, hz2⟩ := info_parts itInfo
        obtain ⟨gt, capt, hvv, _, hgl⟩ := World.ownsRow.form HT.out (by omega)
        simp only [Value.slice.injEq] at hvv
        obtain ⟨rfl, _, rfl⟩ := hvv
        go_enter Tryz.func125, Tryz.ntmps125
        go_wp2_with (first
          | (go_at_call 194; refine hSp.mono ?_; rintro e w2 ⟨rfl, hb3⟩; have hFi := HFi.out w2 hb3; clear hSp)
          | (go_at_call 195; refine hFi.mono ?_; rintro e w3 ⟨rfl, rfl⟩; clear hFi; have hKi := HKi.out w2 hb3)
          | (go_at_call 197; refine hKi.mono ?_; rintro e w4 ⟨kv, rfl, hk4, hb4⟩; have hb5 := hb3.trans (hb4.mono hb3.size); obtain ⟨ak, ck, rfl⟩ := slice_formR hk4; clear hKi hk4))
        clear k1 hk0
        go_loopw [9, 10] (fun ov kv wr => ∃ (k : Nat) (ao : Option Addr) (co : Nat), ov = .slice ao (sifted L i k).length co ∧ kv = .int .i64 k ∧ k ≤ L.length ∧ wr.ownsRow w.heap.size 308 3 (.slice ao (sifted L i k).length co) (sifted L i k).length (itCells (sifted L i k)) ∧ Below w.heap.size w wr) (fun _ kv _ => L.length - (intOf kv).toNat)
        case atStart => exact ⟨0, none, 0, by simp [sifted], rfl, Nat.zero_le _, by simpa [sifted, itCells] using World.ownsRow_nil _ _ _ _, hb5⟩
        case round =>
          obtain ⟨k, ao, co, rfl, rfl, hk, ho, hbr⟩ := hrel
          by_cases hlt : k < L.length
          · have hst := sifted_step L i k hlt
            have hsl := sifted_length L i k
            have kk1 : (k : Int) < (L.length : Int) := by omega
            have kk0 : (0 : Int) ≤ (k : Int) := by omega
            by_cases hki : k = i
            · rw [if_pos hki] at hst
              have hne : ((k : Int) != (i : Int)) = false := by simp; omega
              have HS : Hid _ := hst
              have HO : Hid (wr.ownsRow w.heap.size 308 3 (.slice ao (sifted L i k).length co) (sifted L i k).length (itCells (sifted L i k))) := ho
              clear hst ho hki
              go_wp2
              exact ⟨⟨k + 1, ao, co, by rw [HS.out], by go_num, by omega, by rw [HS.out]; exact HO.out, hbr⟩, by simp [intOf]; omega⟩
            · rw [if_neg hki] at hst
              have hne : ((k : Int) != (i : Int)) = true := by simp; omega
              obtain ⟨hh, _, _⟩ := has_of_owns (TreeOwn.below (L := L) (v := .slice (some ⟨gt, 0, none⟩) L.length cv) HT.out hbr)
              have q0 := hh.cell (k * 3 + 0) (by rw [itCells_length]; omega)
              have q1 := hh.cell (k * 3 + 1) (by rw [itCells_length]; omega)
              have q2 := hh.cell (k * 3 + 2) (by rw [itCells_length]; omega)
              rw [itCells_get L k hlt 0 (by decide)] at q0
              rw [itCells_get L k hlt 1 (by decide)] at q1
              rw [itCells_get L k hlt 2 (by decide)] at q2
              have r0 : wr.cell? ⟨gt, k * 3, none⟩ = some (.string L[k].path) := q0
              have r1 : wr.cell? ⟨gt, k * 3 + 1, none⟩ = some (.bool L[k].dir) := q1
              have r2 : wr.cell? ⟨gt, k * 3 + 2, none⟩ = some (.string L[k].data) := q2
              have HS : Hid _ := hst
              have ho' : wr.ownsRow w.heap.size 308 3 (.slice ao (sifted L i k).length co) (sifted L i k).length (itCells (sifted L i k)) := ho
              clear hst ho hki hh q0 q1 q2
              generalize hso : sifted L i k = so at *
              generalize hm : so.length = m at *
              have HM : Hid _ := hm
              have HSo : Hid _ := hso
              have HO : Hid (wr.ownsRow w.heap.size 308 3 (.slice ao m co) m (itCells so)) := ho'
              clear ho' hm hso
              go_wp2_with (at_builtin; refine wpList_append_lies _ rfl _ _ 207 rfl w.heap.size 308 i0 (.agg #[.string ByteArray.empty, .bool false, .string ByteArray.empty]) 3 40 Tryz.underlying207 hi0 hz0 hz1 hz2 rfl (by decide) (.slice ao m co) m (itCells so) rfl (World.ownsRow.alloc HO.out _) ⟨wr.heap.size, 0, none⟩ 1 1 [.string L[k].path, .bool L[k].dir, .string L[k].data] rfl rfl (three_news _ _ _ _ _) (by intro u hu; simp at hu; rcases hu with rfl | rfl | rfl <;> rfl) (by decide) (by unfold maxLen; omega) (by omega) (by have := hbr.size; simp; omega) (wr.heap.size + 1) (by simp) ?_; intro g cap w5 hown hgrow hat hlt5)
              refine ⟨⟨k + 1, some ⟨g, 0, none⟩, cap, by rw [HS.out, List.length_append, HM.out]; rfl, by go_num, by omega, ?_, ?_⟩, by simp [intOf]; omega⟩
              · rw [HS.out, List.length_append, HM.out, List.length_singleton, show itCells (so ++ [L[k]]) = itCells so ++ [.string L[k].path, .bool L[k].dir, .string L[k].data] by simp [itCells, It.cells]]
                exact hown
              · refine ⟨hgrow.os.trans hbr.os, hgrow.tape.trans hbr.tape, hgrow.output.trans hbr.output, by have h1 := hbr.size; have h2 := hgrow.size; simp at h2; omega, fun n hn => ?_⟩
                have hszz := hbr.size
                rw [hgrow.block n (by simp; omega) (fun e => ?_), heap_alloc_old _ _ (by omega), hbr.block n hn]
                have := own_ge HO.out n e.symm
                omega
          · have ek : k = L.length := by omega
            subst ek
            have hfin : sifted L i L.length = L.eraseIdx i := by unfold sifted; rw [List.take_length]
            have kk1 : ¬ (L.length : Int) < (L.length : Int) := by omega
            have HFn : Hid _ := hfin
            have HO : Hid (wr.ownsRow w.heap.size 308 3 (.slice ao (sifted L i L.length).length co) (sifted L i L.length).length (itCells (sifted L i L.length))) := ho
            clear hfin ho
            go_wp2
            refine bodyPost_ret (results_tmp2 rfl _ _ _) rfl ?_
            refine ⟨.slice ao (sifted L i L.length).length co, by rw [hput.out]; rfl, ?_⟩
            rw [hput.out]
            have ho2 := HO.out
            refine ⟨?_, fun g hg => .inr (own_ge ho2 g hg), Fr.of_below hbr _⟩
            show wr.ownsRow 0 _ 3 _ (L.eraseIdx i).length (itCells (L.eraseIdx i))
            have ho3 := owns_base0 ho2
            rw [HFn.out] at ho3 ⊢
            exact ho3
  · rw [if_pos hsp] at hput
    have e1 : ((spotOf L s : Int) != 0) = true := by simp; omega
    clear hI h
    subst hv
    go_enter Tryz.func125, Tryz.ntmps125
    go_wp2_with (first
      | (go_at_call 194; refine hSp.mono ?_; rintro e w2 ⟨rfl, hb3⟩; have hFi := HFi.out w2 hb3; clear hSp))
    refine bodyPost_ret (results_tmp2 rfl _ _ _) rfl ?_
    exact ⟨_, by rw [hput.out]; rfl, by rw [hput.out]; exact HD.out _ hb3⟩
end Go.Proofs.YtdidjdoifpfmmaaGreatDoor
/- A tree that is changed: one more, other bytes, one less. -/
namespace Go.Proofs.YtdidjdoifpfmmaaGreatDoor
open Go.RowKit
theorem ownsMap_tight {w : World} {b n : Nat} {D : DataW Unit} (h : w.ownsMap Tryz.prog 9 nodeR b n D) : w.ownsMap Tryz.prog 9 nodeR b (Maps.size D) D := by
  obtain ⟨es, clock, h1, h2, h3, rfl⟩ := h
  exact ⟨es, clock, h1, h2, by simp [Maps.size, length_sorted], rfl⟩
theorem key_ne {k n : ByteArray} (h : k ≠ n) : (Lit.string k.data.toList) ≠ .string n.data.toList := fun e => h (ba_ext (by simpa using e))
theorem isKey (k : ByteArray) : WideAt.IsKeyLit (.string k.data.toList) := by simp [WideAt.IsKeyLit]
section
variable {w w' : World} {L L' : List It} {p : ByteArray} {mb : Nat} {blk blk' : ByteArray → Nat}
theorem dir_put {D : DataW Unit} {m : Nat} {n : ByteArray} {nb : Nat} (hh : ∀ k : ByteArray, Maps.has D (.string k.data.toList) = true ↔ k ∈ kidsFold p L) (ha : ∀ k ∈ kidsFold p L, ∀ z, D.atKey (.string k.data.toList) z = .lit (.int .i64 (blk (joinB p k) : Nat)))
    (hm : Maps.IsMap D) (ho : w'.ownsMap Tryz.prog 9 nodeR mb m (D.put (.string n.data.toList) (.lit (.int .i64 (nb : Nat))))) (hk : ∀ k, k ∈ kidsFold p L' ↔ k ∈ kidsFold p L ∨ k = n) (hb : ∀ k, k ∈ kidsFold p L → k ≠ n → blk' (joinB p k) = blk (joinB p k)) (hn : blk' (joinB p n) = nb) : DirAt w' L' p mb blk' := by
  refine ⟨_, ownsMap_tight ho, fun k => ?_, fun k hk' z => ?_⟩
  · rw [hk k]
    by_cases e : k = n
    · subst e
      rw [Maps.has_put_same hm (isKey _)]
      simp
    · rw [Maps.has_put_other (key_ne e), hh k]
      simp [e]
  · by_cases e : k = n
    · subst e
      rw [Maps.atKey_put_same hm (isKey _), hn]
    · have hk2 : k ∈ kidsFold p L := by
        rcases (hk k).1 hk' with h | h
        · exact h
        · exact absurd h e
      rw [Maps.atKey_put_other (key_ne e), ha k hk2, hb k hk2 e]
theorem dir_del {D : DataW Unit} {m : Nat} {n : ByteArray} (hh : ∀ k : ByteArray, Maps.has D (.string k.data.toList) = true ↔ k ∈ kidsFold p L) (ha : ∀ k ∈ kidsFold p L, ∀ z, D.atKey (.string k.data.toList) z = .lit (.int .i64 (blk (joinB p k) : Nat)))
    (ho : w'.ownsMap Tryz.prog 9 nodeR mb m (D.del (.string n.data.toList))) (hk : ∀ k, k ∈ kidsFold p L' ↔ k ∈ kidsFold p L ∧ k ≠ n) : DirAt w' L' p mb blk := by
  refine ⟨_, ownsMap_tight ho, fun k => ?_, fun k hk' z => ?_⟩
  · rw [hk k]
    by_cases e : k = n
    · subst e
      rw [Maps.has_del_same]
      simp
    · rw [Maps.has_del_other (key_ne e), hh k]
      simp [e]
  · obtain ⟨h1, h2⟩ := (hk k).1 hk'
    rw [Maps.atKey_del_other (key_ne h2), ha k h1]
theorem dir_same (h : DirAt w L p mb blk) (hw : w'.heap[mb]? = w.heap[mb]?) (hk : ∀ k, k ∈ kidsFold p L' ↔ k ∈ kidsFold p L) (hb : ∀ k, k ∈ kidsFold p L → blk' (joinB p k) = blk (joinB p k)) : DirAt w' L' p mb blk' := by
  obtain ⟨D, ho, hh, ha⟩ := h.kept hw
  exact ⟨D, ho, fun k => by rw [hk, hh], fun k hk' z => by rw [ha k ((hk k).1 hk'), hb k ((hk k).1 hk')]⟩
end
def upd (f : ByteArray → Nat) (s : ByteArray) (v : Nat) : ByteArray → Nat := fun x => if x = s then v else f x
theorem upd_same (f : ByteArray → Nat) (s : ByteArray) (v : Nat) : upd f s v s = v := by unfold upd; rw [if_pos rfl]
theorem upd_other (f : ByteArray → Nat) {s x : ByteArray} (v : Nat) (h : x ≠ s) : upd f s v x = f x := by unfold upd; rw [if_neg h]
/-! ### one more -/
theorem isDir_snoc {L : List It} {y : It} {q : ByteArray} : IsDir (L ++ [y]) q ↔ IsDir L q ∨ (y.path = q ∧ y.dir = true) := by
  unfold IsDir
  constructor
  · rintro (h | ⟨z, hz, h1, h2⟩)
    · exact .inl (.inl h)
    · rcases List.mem_append.1 hz with hz | hz
      · exact .inl (.inr ⟨z, hz, h1, h2⟩)
      · rw [List.mem_singleton.1 hz] at h1 h2; exact .inr ⟨h1, h2⟩
  · rintro ((h | ⟨z, hz, h1, h2⟩) | ⟨h1, h2⟩)
    · exact .inl h
    · exact .inr ⟨z, by simp [hz], h1, h2⟩
    · exact .inr ⟨y, by simp, h1, h2⟩
theorem TreeOk.snoc {L : List It} (ok : TreeOk L) {p n : ByteArray} (hn : isName (textOf n) = true) (hd : IsDir L p) (hno : n ∉ kidsFold p L) (hs : (joinB p n).size ≤ 262144) (hl : L.length < 256) (dir : Bool) (d : ByteArray) (hd1 : d.size ≤ 1536) (hd2 : dir = true → d = ⟨#[]⟩) : TreeOk (L ++ [⟨joinB p n, dir, d⟩]) := by
  have hnot : ∀ x ∈ L, x.path ≠ joinB p n := fun x hx e => hno ((mem_kids ok p n).2 ⟨hn, x, hx, e⟩)
  refine ⟨?_, ?_, ?_, ?_, by simp; omega, ?_⟩
  · rw [List.map_append, List.nodup_append]
    refine ⟨ok.apart, by simp, fun a ha b hb => ?_⟩
    simp at hb
    obtain ⟨x, hx, rfl⟩ := List.mem_map.1 ha
    rw [hb]
    exact hnot x hx
  · intro x hx
    rcases List.mem_append.1 hx with hx | hx
    · obtain ⟨q, k, e, hk, hdq⟩ := ok.up x hx
      exact ⟨q, k, e, hk, isDir_snoc.2 (.inl hdq)⟩
    · rw [List.mem_singleton.1 hx]
      exact ⟨p, n, rfl, hn, isDir_snoc.2 (.inl hd)⟩
  · intro x hx
    rcases List.mem_append.1 hx with hx | hx
    · exact ok.size x hx
    · rw [List.mem_singleton.1 hx]; exact hs
  · intro x hx
    rcases List.mem_append.1 hx with hx | hx
    · exact ok.data x hx
    · rw [List.mem_singleton.1 hx]; exact hd1
  · intro x hx hxd
    rcases List.mem_append.1 hx with hx | hx
    · exact ok.bare x hx hxd
    · rw [List.mem_singleton.1 hx] at hxd ⊢; exact hd2 hxd
theorem kids_snoc {L : List It} (ok : TreeOk L) {p n : ByteArray} (hn : isName (textOf n) = true) (dir : Bool) (d : ByteArray) (ok' : TreeOk (L ++ [⟨joinB p n, dir, d⟩])) (q k : ByteArray) : k ∈ kidsFold q (L ++ [⟨joinB p n, dir, d⟩]) ↔ k ∈ kidsFold q L ∨ (q = p ∧ k = n) := by
  rw [mem_kids ok', mem_kids ok]
  constructor
  · rintro ⟨hk, x, hx, e⟩
    rcases List.mem_append.1 hx with hx | hx
    · exact .inl ⟨hk, x, hx, e⟩
    · rw [List.mem_singleton.1 hx] at e
      obtain ⟨e1, e2⟩ := joinB_inj hn hk e
      exact .inr ⟨e1.symm, e2.symm⟩
  · rintro (⟨hk, x, hx, e⟩ | ⟨rfl, rfl⟩)
    · exact ⟨hk, x, by simp [hx], e⟩
    · exact ⟨hn, ⟨joinB q k, dir, d⟩, by simp, rfl⟩
/-- A tree with one more: what the map of its directory, and the new node, must be. -/
theorem TreeAt.snoc {w w' : World} {L : List It} {blk mblk : ByteArray → Nat} (h : TreeAt w L blk mblk) (ok : TreeOk L) {p n : ByteArray} (hn : isName (textOf n) = true) (hd : IsDir L p) (hno : n ∉ kidsFold p L) {dir : Bool} {d : ByteArray} (ok' : TreeOk (L ++ [⟨joinB p n, dir, d⟩]))
    (f : Fr w w' [mblk p]) (nb nm : Nat) (hnm : ∀ q, IsDir L q → mblk q ≠ nm) (D : DataW Unit) (hh : ∀ k : ByteArray, Maps.has D (.string k.data.toList) = true ↔ k ∈ kidsFold p L) (ha : ∀ k ∈ kidsFold p L, ∀ z, D.atKey (.string k.data.toList) z = .lit (.int .i64 (blk (joinB p k) : Nat)))
    (hm : Maps.IsMap D) (m : Nat) (ho : w'.ownsMap Tryz.prog 9 nodeR (mblk p) m (D.put (.string n.data.toList) (.lit (.int .i64 (nb : Nat)))))
    (hfile : dir = false → w'.cell? ⟨nb, 0, none⟩ = some (.map none) ∧ w'.cell? ⟨nb, 1, none⟩ = some (.string d))
    (hdir : dir = true → w'.cell? ⟨nb, 0, none⟩ = some (.map (some nm)) ∧ w'.cell? ⟨nb, 1, none⟩ = some (.string ⟨#[]⟩) ∧ ∃ m, w'.ownsMap (H := Unit) Tryz.prog 9 nodeR nm m (.map [])) :
    TreeAt w' (L ++ [⟨joinB p n, dir, d⟩]) (upd blk (joinB p n) nb) (upd mblk (joinB p n) nm) := by
  have hnot : ∀ x ∈ L, x.path ≠ joinB p n := fun x hx e => hno ((mem_kids ok p n).2 ⟨hn, x, hx, e⟩)
  have hdne : ∀ q, IsDir L q → q ≠ joinB p n := by
    rintro q (rfl | ⟨y, hy, rfl, _⟩) e
    · exact joinB_ne p n hn e.symm
    · exact hnot y hy e
  have hkne : ∀ q k, k ∈ kidsFold q L → joinB q k ≠ joinB p n := by
    intro q k hk e
    obtain ⟨_, x, hx, e2⟩ := (mem_kids ok q k).1 hk
    exact hnot x hx (e2.trans e)
  have blt : ∀ q, IsDir L q → blk q ≠ mblk p := by
    intro q hq e
    obtain ⟨c0, _, _⟩ := h.dir q hq
    obtain ⟨_, _, D', ⟨es, clock, h1, _⟩, _⟩ := h.dir p hd
    rw [e] at c0
    simp [World.cell?, h1] at c0
  refine ⟨?_, ?_, ?_⟩
  · intro q hq
    by_cases e : q = joinB p n
    · subst e
      have hdd : dir = true := by
        rcases isDir_snoc.1 hq with hq | ⟨_, hq⟩
        · exact absurd rfl (hdne _ hq)
        · exact hq
      obtain ⟨c0, c1, m', hm'⟩ := hdir hdd
      rw [upd_same, upd_same]
      refine ⟨c0, c1, .map [], ownsMap_tight hm', fun k => ?_, fun k hk => ?_⟩
      · constructor
        · intro hx; cases hx
        · intro hk
          exfalso
          rw [kids_snoc ok hn dir d ok'] at hk
          rcases hk with hk | ⟨e1, _⟩
          · obtain ⟨hkn, x, hx, ex⟩ := (mem_kids ok _ k).1 hk
            have hx2 := Under.dir ok (p := joinB p n) (x := x.path) (by rw [ex]; exact .one k hkn) ⟨x, hx, rfl⟩
            exact hdne _ hx2 rfl
          · have := joinB_gt p n hn
            rw [e1] at this
            omega
      · exfalso
        rw [kids_snoc ok hn dir d ok'] at hk
        rcases hk with hk | ⟨e1, _⟩
        · obtain ⟨hkn, x, hx, ex⟩ := (mem_kids ok _ k).1 hk
          have hx2 := Under.dir ok (p := joinB p n) (x := x.path) (by rw [ex]; exact .one k hkn) ⟨x, hx, rfl⟩
          exact hdne _ hx2 rfl
        · have := joinB_gt p n hn
          rw [e1] at this
          omega
    · have hq2 : IsDir L q := by
        rcases isDir_snoc.1 hq with hq | ⟨hq, _⟩
        · exact hq
        · exact absurd hq.symm e
      obtain ⟨c0, c1, hdr⟩ := h.dir q hq2
      have hb := f.block _ (World.block_lt_of_cell? _ _ c0) (by simpa using blt q hq2)
      rw [upd_other blk nb e, upd_other mblk nm e]
      refine ⟨cell_kept c0 hb, cell_kept c1 hb, ?_⟩
      by_cases eq : q = p
      · subst eq
        refine dir_put hh ha hm ho (fun k => ?_) (fun k hk _ => upd_other blk nb (hkne _ k hk)) (upd_same _ _ _)
        rw [kids_snoc ok hn dir d ok']
        simp
      · refine dir_same hdr (f.block _ hdr.lt (by simp; exact fun e2 => eq (h.apart q p hq2 hd e2))) (fun k => ?_) (fun k hk => upd_other blk nb (hkne _ k hk))
        rw [kids_snoc ok hn dir d ok']
        simp [eq]
  · intro x hx hxd
    rcases List.mem_append.1 hx with hx | hx
    · obtain ⟨c0, c1⟩ := h.file x hx hxd
      have hb := f.block _ (World.block_lt_of_cell? _ _ c0) (by
        simp
        intro e
        obtain ⟨_, _, D', ⟨es, clock, h1, _⟩, _⟩ := h.dir p hd
        rw [e] at c0
        simp [World.cell?, h1] at c0)
      rw [upd_other blk nb (hnot x hx)]
      exact ⟨cell_kept c0 hb, cell_kept c1 hb⟩
    · rw [List.mem_singleton.1 hx] at hxd ⊢
      rw [upd_same]
      exact hfile hxd
  · intro q r hq hr e
    by_cases e1 : q = joinB p n
    · by_cases e2 : r = joinB p n
      · rw [e1, e2]
      · exfalso
        have hr2 : IsDir L r := by
          rcases isDir_snoc.1 hr with hr | ⟨hr, _⟩
          · exact hr
          · exact absurd hr.symm e2
        rw [e1, upd_same, upd_other mblk nm e2] at e
        exact hnm r hr2 e.symm
    · have hq2 : IsDir L q := by
        rcases isDir_snoc.1 hq with hq | ⟨hq, _⟩
        · exact hq
        · exact absurd hq.symm e1
      by_cases e2 : r = joinB p n
      · exfalso
        rw [e2, upd_same, upd_other mblk nm e1] at e
        exact hnm q hq2 e
      · have hr2 : IsDir L r := by
          rcases isDir_snoc.1 hr with hr | ⟨hr, _⟩
          · exact hr
          · exact absurd hr.symm e2
        rw [upd_other mblk nm e1, upd_other mblk nm e2] at e
        exact h.apart q r hq2 hr2 e
/-- The blocks of a tree with one more. -/
theorem blocks_snoc {L : List It} {blk mblk : ByteArray → Nat} {s : ByteArray} {dir : Bool} {d : ByteArray} {nb nm H : Nat} (hb : H ≤ nb) (hm : H ≤ nm) : ∀ b ∈ treeBlocks (L ++ [⟨s, dir, d⟩]) (upd blk s nb) (upd mblk s nm), b ∈ treeBlocks L blk mblk ∨ H ≤ b := by
  have key : ∀ x : ByteArray, (upd blk s nb x = blk x ∨ H ≤ upd blk s nb x) ∧ (upd mblk s nm x = mblk x ∨ H ≤ upd mblk s nm x) := by
    intro x
    unfold upd
    split
    · exact ⟨.inr hb, .inr hm⟩
    · exact ⟨.inl rfl, .inl rfl⟩
  intro b hb'
  unfold treeBlocks at hb' ⊢
  rcases List.mem_cons.1 hb' with rfl | hb'
  · rcases (key ⟨#[]⟩).1 with e | e
    · rw [e]; exact .inl (by simp)
    · exact .inr e
  · rcases List.mem_cons.1 hb' with rfl | hb'
    · rcases (key ⟨#[]⟩).2 with e | e
      · rw [e]; exact .inl (by simp)
      · exact .inr e
    · obtain ⟨x, hx, hmem⟩ := List.mem_flatMap.1 hb'
      rcases List.mem_append.1 hx with hx | hx
      · cases hd : x.dir
        · rw [hd] at hmem
          simp at hmem
          rw [hmem]
          rcases (key x.path).1 with e | e
          · rw [e]
            exact .inl (List.mem_cons_of_mem _ (List.mem_cons_of_mem _ (List.mem_flatMap.2 ⟨x, hx, by rw [hd]; simp⟩)))
          · exact .inr e
        · rw [hd] at hmem
          simp at hmem
          rcases hmem with rfl | rfl
          · rcases (key x.path).1 with e | e
            · rw [e]
              exact .inl (List.mem_cons_of_mem _ (List.mem_cons_of_mem _ (List.mem_flatMap.2 ⟨x, hx, by rw [hd]; simp⟩)))
            · exact .inr e
          · rcases (key x.path).2 with e | e
            · rw [e]
              exact .inl (List.mem_cons_of_mem _ (List.mem_cons_of_mem _ (List.mem_flatMap.2 ⟨x, hx, by rw [hd]; simp⟩)))
            · exact .inr e
      · rw [List.mem_singleton.1 hx] at hmem
        have : b = nb ∨ b = nm := by
          cases dir
          · simp [upd_same] at hmem; exact .inl hmem
          · simp [upd_same] at hmem; exact hmem
        rcases this with rfl | rfl
        · exact .inr hb
        · exact .inr hm
/-! ### other bytes -/
theorem setDat_mem {L : List It} {i : Nat} (hi : i < L.length) {d : ByteArray} {x : It} (h : x ∈ setDat L i d) : (x = ⟨L[i].path, L[i].dir, d⟩) ∨ x ∈ L := by
  unfold setDat at h
  obtain ⟨j, hj, e⟩ := List.mem_iff_getElem.1 h
  rw [List.getElem_modify] at e
  split at e
  · rename_i e2
    subst e2
    exact .inl e.symm
  · exact .inr (by rw [← e]; exact List.getElem_mem _)
theorem setDat_paths (L : List It) (i : Nat) (d : ByteArray) : (setDat L i d).map It.path = L.map It.path := by
  apply List.ext_getElem
  · simp [setDat]
  · intro j h1 h2
    simp only [List.getElem_map, setDat, List.getElem_modify]
    split
    · rfl
    · rfl
theorem setDat_dirs (L : List It) (i : Nat) (d : ByteArray) : (setDat L i d).map (fun x => (x.path, x.dir)) = L.map (fun x => (x.path, x.dir)) := by
  apply List.ext_getElem
  · simp [setDat]
  · intro j h1 h2
    simp only [List.getElem_map, setDat, List.getElem_modify]
    split
    · rfl
    · rfl
theorem setDat_isDir {L : List It} {i : Nat} {d q : ByteArray} : IsDir (setDat L i d) q ↔ IsDir L q := by
  have h : ∀ L : List It, IsDir L q ↔ q = ⟨#[]⟩ ∨ (q, true) ∈ L.map (fun x => (x.path, x.dir)) := by
    intro L
    unfold IsDir
    simp only [List.mem_map, Prod.mk.injEq]
  rw [h, h, setDat_dirs]
theorem setDat_has {L : List It} {i : Nat} {d q : ByteArray} : (∃ x ∈ setDat L i d, x.path = q) ↔ ∃ x ∈ L, x.path = q := by
  have h : ∀ L : List It, (∃ x ∈ L, x.path = q) ↔ q ∈ L.map It.path := by intro L; simp only [List.mem_map]
  rw [h, h, setDat_paths]
theorem TreeOk.setDat {L : List It} (ok : TreeOk L) {i : Nat} (hi : i < L.length) (hd : L[i].dir = false) {d : ByteArray} (h1 : d.size ≤ 1536) : TreeOk (setDat L i d) := by
  refine ⟨by rw [setDat_paths]; exact ok.apart, ?_, ?_, ?_, by rw [setDat_length]; exact ok.few, ?_⟩
  · intro x hx
    have : ∃ y ∈ L, y.path = x.path := setDat_has.1 ⟨x, hx, rfl⟩
    obtain ⟨y, hy, e⟩ := this
    obtain ⟨p, k, e2, hk, hdp⟩ := ok.up y hy
    exact ⟨p, k, by rw [← e, e2], hk, setDat_isDir.2 hdp⟩
  · intro x hx
    obtain ⟨y, hy, e⟩ := setDat_has.1 ⟨x, hx, rfl⟩
    rw [← e]; exact ok.size y hy
  · intro x hx
    rcases setDat_mem hi hx with rfl | hx
    · exact h1
    · exact ok.data x hx
  · intro x hx hxd
    rcases setDat_mem hi hx with rfl | hx
    · rw [hd] at hxd; cases hxd
    · exact ok.bare x hx hxd
theorem setDat_kids {L : List It} (ok : TreeOk L) {i : Nat} {d : ByteArray} (ok' : TreeOk (setDat L i d)) (q k : ByteArray) : k ∈ kidsFold q (setDat L i d) ↔ k ∈ kidsFold q L := by
  rw [mem_kids ok', mem_kids ok, setDat_has]
theorem TreeAt.setDat {w w' : World} {L : List It} {blk mblk : ByteArray → Nat} (h : TreeAt w L blk mblk) (ok : TreeOk L) {p n : ByteArray} (hn : isName (textOf n) = true) (hd : IsDir L p) {i : Nat} (hi : i < L.length) (hp : L[i].path = joinB p n) (hxd : L[i].dir = false) {d : ByteArray} (ok' : TreeOk (setDat L i d))
    (f : Fr w w' [mblk p]) (nb : Nat) (D : DataW Unit) (hh : ∀ k : ByteArray, Maps.has D (.string k.data.toList) = true ↔ k ∈ kidsFold p L) (ha : ∀ k ∈ kidsFold p L, ∀ z, D.atKey (.string k.data.toList) z = .lit (.int .i64 (blk (joinB p k) : Nat)))
    (hm : Maps.IsMap D) (m : Nat) (ho : w'.ownsMap Tryz.prog 9 nodeR (mblk p) m (D.put (.string n.data.toList) (.lit (.int .i64 (nb : Nat)))))
    (hfile : w'.cell? ⟨nb, 0, none⟩ = some (.map none) ∧ w'.cell? ⟨nb, 1, none⟩ = some (.string d)) :
    TreeAt w' (setDat L i d) (upd blk (joinB p n) nb) mblk := by
  have hmem : n ∈ kidsFold p L := (mem_kids ok p n).2 ⟨hn, L[i], List.getElem_mem hi, hp⟩
  have hdne : ∀ q, IsDir L q → q ≠ joinB p n := by
    rintro q (rfl | ⟨y, hy, rfl, hyd⟩) e
    · exact joinB_ne p n hn e.symm
    · rw [ok.one hy (List.getElem_mem hi) (e.trans hp.symm), hxd] at hyd
      cases hyd
  have nomap : ∀ b v, w.cell? ⟨b, 0, none⟩ = some v → b ≠ mblk p := by
    intro b v c0 e
    obtain ⟨_, _, D', ⟨es, clock, h1, _⟩, _⟩ := h.dir p hd
    rw [e] at c0
    simp [World.cell?, h1] at c0
  refine ⟨?_, ?_, fun q r hq hr => h.apart q r (setDat_isDir.1 hq) (setDat_isDir.1 hr)⟩
  · intro q hq
    have hq2 := setDat_isDir.1 hq
    obtain ⟨c0, c1, hdr⟩ := h.dir q hq2
    have hb := f.block _ (World.block_lt_of_cell? _ _ c0) (by simpa using nomap _ _ c0)
    rw [upd_other blk nb (hdne q hq2)]
    refine ⟨cell_kept c0 hb, cell_kept c1 hb, ?_⟩
    by_cases eq : q = p
    · subst eq
      refine dir_put hh ha hm ho (fun k => ?_) (fun k hk hkn => upd_other blk nb (fun e => hkn (joinB_inj ((mem_kids ok _ k).1 hk).1 hn e).2)) (upd_same _ _ _)
      rw [setDat_kids ok ok']
      constructor
      · exact .inl
      · rintro (h | rfl)
        · exact h
        · exact hmem
    · refine dir_same hdr (f.block _ hdr.lt (by simp; exact fun e2 => eq (h.apart q p hq2 hd e2))) (fun k => setDat_kids ok ok' q k) (fun k hk => upd_other blk nb (fun e => eq (joinB_inj ((mem_kids ok _ k).1 hk).1 hn e).1))
  · intro x hx hxd2
    rcases setDat_mem hi hx with rfl | hx2
    · simp only at hxd2 ⊢
      rw [hp, upd_same]
      exact hfile
    · by_cases e : x.path = joinB p n
      · have hxx : x = ⟨L[i].path, L[i].dir, d⟩ ∨ True := .inr trivial
        rw [e, upd_same]
        have hone := (TreeOk.one ok' hx (y := ⟨L[i].path, L[i].dir, d⟩) (by
          refine List.mem_iff_getElem.2 ⟨i, by rw [setDat_length]; exact hi, ?_⟩
          unfold Go.Proofs.YtdidjdoifpfmmaaGreatDoor.setDat
          rw [List.getElem_modify, if_pos rfl]) (by rw [e, hp]))
        rw [hone]
        exact hfile
      · obtain ⟨c0, c1⟩ := h.file x hx2 hxd2
        have hb := f.block _ (World.block_lt_of_cell? _ _ c0) (by simpa using nomap _ _ c0)
        rw [upd_other blk nb e]
        exact ⟨cell_kept c0 hb, cell_kept c1 hb⟩
theorem treeBlocks_eq (L : List It) (blk mblk : ByteArray → Nat) : treeBlocks L blk mblk = blk ⟨#[]⟩ :: mblk ⟨#[]⟩ :: (L.map fun x => (x.path, x.dir)).flatMap (fun y => if y.2 then [blk y.1, mblk y.1] else [blk y.1]) := by
  unfold treeBlocks
  rw [List.flatMap_map]
theorem blocks_setDat {L : List It} {blk mblk : ByteArray → Nat} {s : ByteArray} {i : Nat} {d : ByteArray} {nb H : Nat} (hb : H ≤ nb) : ∀ b ∈ treeBlocks (setDat L i d) (upd blk s nb) mblk, b ∈ treeBlocks L blk mblk ∨ H ≤ b := by
  have key : ∀ x : ByteArray, (upd blk s nb x = blk x ∨ H ≤ upd blk s nb x) := by
    intro x
    unfold upd
    split
    · exact .inr hb
    · exact .inl rfl
  intro b hb'
  rw [treeBlocks_eq, setDat_dirs] at hb'
  rw [treeBlocks_eq]
  rcases List.mem_cons.1 hb' with rfl | hb'
  · rcases key ⟨#[]⟩ with e | e
    · rw [e]; exact .inl (by simp)
    · exact .inr e
  · rcases List.mem_cons.1 hb' with rfl | hb'
    · exact .inl (by simp)
    · obtain ⟨y, hy, hmem⟩ := List.mem_flatMap.1 hb'
      have : b = mblk y.1 ∧ y.2 = true ∨ b = upd blk s nb y.1 := by
        cases hd : y.2
        · rw [hd] at hmem; simp at hmem; exact .inr hmem
        · rw [hd] at hmem; simp at hmem; rcases hmem with h | h
          · exact .inr h
          · exact .inl ⟨h, rfl⟩
      rcases this with ⟨rfl, hd⟩ | rfl
      · exact .inl (List.mem_cons_of_mem _ (List.mem_cons_of_mem _ (List.mem_flatMap.2 ⟨y, hy, by rw [if_pos hd]; simp⟩)))
      · rcases key y.1 with e | e
        · rw [e]
          exact .inl (List.mem_cons_of_mem _ (List.mem_cons_of_mem _ (List.mem_flatMap.2 ⟨y, hy, by split <;> simp⟩)))
        · exact .inr e
/-! ### one less -/
theorem erase_mem {L : List It} (ok : TreeOk L) {i : Nat} (hi : i < L.length) {x : It} : x ∈ L.eraseIdx i ↔ x ∈ L ∧ x.path ≠ L[i].path := by
  rw [List.mem_eraseIdx_iff_getElem]
  constructor
  · rintro ⟨j, hj, hne, rfl⟩
    refine ⟨List.getElem_mem _, fun e => hne ?_⟩
    have h1 := ok.apart
    have h2 := List.pairwise_iff_getElem.1 h1
    rcases Nat.lt_trichotomy j i with hlt | he | hlt
    · exact absurd (by rw [List.getElem_map, List.getElem_map]; exact e) (h2 j i (by simpa using hj) (by simpa using hi) hlt)
    · exact he
    · exact absurd (by rw [List.getElem_map, List.getElem_map]; exact e.symm) (h2 i j (by simpa using hi) (by simpa using hj) hlt)
  · rintro ⟨hx, hne⟩
    obtain ⟨j, hj, rfl⟩ := List.mem_iff_getElem.1 hx
    exact ⟨j, hj, fun e => hne (by subst e; rfl), rfl⟩
section
variable {L : List It} {i : Nat} {p n : ByteArray}
theorem erase_isDir (ok : TreeOk L) (hi : i < L.length) (hp : L[i].path = joinB p n) (hn : isName (textOf n) = true) {q : ByteArray} : IsDir (L.eraseIdx i) q ↔ IsDir L q ∧ q ≠ joinB p n := by
  unfold IsDir
  constructor
  · rintro (rfl | ⟨y, hy, rfl, hyd⟩)
    · exact ⟨.inl rfl, fun e => joinB_ne p n hn e.symm⟩
    · obtain ⟨h1, h2⟩ := (erase_mem ok hi).1 hy
      exact ⟨.inr ⟨y, h1, rfl, hyd⟩, by rw [← hp]; exact h2⟩
  · rintro ⟨rfl | ⟨y, hy, rfl, hyd⟩, hne⟩
    · exact .inl rfl
    · exact .inr ⟨y, (erase_mem ok hi).2 ⟨hy, by rw [hp]; exact hne⟩, rfl, hyd⟩
theorem TreeOk.erase (ok : TreeOk L) (hi : i < L.length) (hp : L[i].path = joinB p n) (hn : isName (textOf n) = true) (h0 : kidsFold (joinB p n) L = []) : TreeOk (L.eraseIdx i) := by
  refine ⟨?_, ?_, fun x hx => ok.size x ((erase_mem ok hi).1 hx).1, fun x hx => ok.data x ((erase_mem ok hi).1 hx).1, ?_, fun x hx => ok.bare x ((erase_mem ok hi).1 hx).1⟩
  · exact ok.apart.sublist ((List.eraseIdx_sublist _ _).map _)
  · intro x hx
    obtain ⟨q, k, e, hk, hd⟩ := ok.up x ((erase_mem ok hi).1 hx).1
    refine ⟨q, k, e, hk, (erase_isDir ok hi hp hn).2 ⟨hd, fun e2 => ?_⟩⟩
    have := (mem_kids ok q k).2 ⟨hk, x, ((erase_mem ok hi).1 hx).1, e⟩
    rw [e2, h0] at this
    cases this
  · have := (List.eraseIdx_sublist L i).length_le
    have := ok.few
    omega
theorem erase_kids (ok : TreeOk L) (hi : i < L.length) (hp : L[i].path = joinB p n) (hn : isName (textOf n) = true) (ok' : TreeOk (L.eraseIdx i)) (q k : ByteArray) : k ∈ kidsFold q (L.eraseIdx i) ↔ k ∈ kidsFold q L ∧ ¬ (q = p ∧ k = n) := by
  rw [mem_kids ok', mem_kids ok]
  constructor
  · rintro ⟨hk, x, hx, e⟩
    obtain ⟨h1, h2⟩ := (erase_mem ok hi).1 hx
    exact ⟨⟨hk, x, h1, e⟩, fun ⟨e1, e2⟩ => h2 (by rw [e, hp, e1, e2])⟩
  · rintro ⟨⟨hk, x, hx, e⟩, hne⟩
    refine ⟨hk, x, (erase_mem ok hi).2 ⟨hx, fun e2 => hne ?_⟩, e⟩
    rw [hp, e] at e2
    exact joinB_inj hk hn e2
theorem TreeAt.erase {w w' : World} {blk mblk : ByteArray → Nat} (h : TreeAt w L blk mblk) (ok : TreeOk L) (hi : i < L.length) (hp : L[i].path = joinB p n) (hn : isName (textOf n) = true) (hd : IsDir L p) (ok' : TreeOk (L.eraseIdx i))
    (f : Fr w w' [mblk p]) (D : DataW Unit) (hh : ∀ k : ByteArray, Maps.has D (.string k.data.toList) = true ↔ k ∈ kidsFold p L) (ha : ∀ k ∈ kidsFold p L, ∀ z, D.atKey (.string k.data.toList) z = .lit (.int .i64 (blk (joinB p k) : Nat)))
    (m : Nat) (ho : w'.ownsMap Tryz.prog 9 nodeR (mblk p) m (D.del (.string n.data.toList))) : TreeAt w' (L.eraseIdx i) blk mblk := by
  have nomap : ∀ b v, w.cell? ⟨b, 0, none⟩ = some v → b ≠ mblk p := by
    intro b v c0 e
    obtain ⟨_, _, D', ⟨es, clock, h1, _⟩, _⟩ := h.dir p hd
    rw [e] at c0
    simp [World.cell?, h1] at c0
  refine ⟨?_, ?_, fun q r hq hr => h.apart q r ((erase_isDir ok hi hp hn).1 hq).1 ((erase_isDir ok hi hp hn).1 hr).1⟩
  · intro q hq
    have hq2 := ((erase_isDir ok hi hp hn).1 hq).1
    obtain ⟨c0, c1, hdr⟩ := h.dir q hq2
    have hb := f.block _ (World.block_lt_of_cell? _ _ c0) (by simpa using nomap _ _ c0)
    refine ⟨cell_kept c0 hb, cell_kept c1 hb, ?_⟩
    by_cases eq : q = p
    · subst eq
      refine dir_del hh ha ho (fun k => ?_)
      rw [erase_kids ok hi hp hn ok']
      simp
    · refine dir_same hdr (f.block _ hdr.lt (by simp; exact fun e2 => eq (h.apart q p hq2 hd e2))) (fun k => ?_) (fun k hk => rfl)
      rw [erase_kids ok hi hp hn ok']
      simp [eq]
  · intro x hx hxd
    obtain ⟨c0, c1⟩ := h.file x ((erase_mem ok hi).1 hx).1 hxd
    have hb := f.block _ (World.block_lt_of_cell? _ _ c0) (by simpa using nomap _ _ c0)
    exact ⟨cell_kept c0 hb, cell_kept c1 hb⟩
theorem blocks_erase (blk mblk : ByteArray → Nat) : ∀ b ∈ treeBlocks (L.eraseIdx i) blk mblk, b ∈ treeBlocks L blk mblk := by
  intro b hb
  unfold treeBlocks at hb ⊢
  rcases List.mem_cons.1 hb with rfl | hb
  · simp
  · rcases List.mem_cons.1 hb with rfl | hb
    · simp
    · obtain ⟨x, hx, hm⟩ := List.mem_flatMap.1 hb
      exact List.mem_cons_of_mem _ (List.mem_cons_of_mem _ (List.mem_flatMap.2 ⟨x, (List.eraseIdx_sublist _ _).subset hx, hm⟩))
end
end Go.Proofs.YtdidjdoifpfmmaaGreatDoor
