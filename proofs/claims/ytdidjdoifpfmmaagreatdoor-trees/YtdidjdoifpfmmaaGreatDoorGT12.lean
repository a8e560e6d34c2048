import Derived.Test.YtdidjdoifpfmmaaGreatDoorGT11
/- The document's Find: a path, gone through name by name. -/
namespace Go.Proofs.YtdidjdoifpfmmaaGreatDoor
open Go.RowKit
theorem findFrom_cases (p : ByteArray) (L : List It) : ∀ k, findFrom p k L = -1 ∧ (∀ x ∈ L, x.path ≠ p) ∨ ∃ i, ∃ h : i < L.length, findFrom p k L = ((k + i : Nat) : Int) ∧ L[i].path = p := by
  induction L with
  | nil => intro k; exact .inl ⟨rfl, by simp⟩
  | cons x L ih =>
    intro k
    rw [findFrom]
    by_cases h : x.path = p
    · rw [if_pos h]
      exact .inr ⟨0, by simp, by simp, by simpa using h⟩
    · rw [if_neg h]
      rcases ih (k + 1) with ⟨h1, h2⟩ | ⟨i, hi, h1, h2⟩
      · refine .inl ⟨h1, ?_⟩
        intro y hy
        rcases List.mem_cons.1 hy with rfl | hy
        · exact h
        · exact h2 y hy
      · refine .inr ⟨i + 1, by simpa using hi, by rw [h1]; congr 1; omega, by simpa using h2⟩
theorem findAt_cases (L : List It) (p : ByteArray) : findAt L p = -1 ∧ (∀ x ∈ L, x.path ≠ p) ∨ ∃ i, ∃ h : i < L.length, findAt L p = (i : Nat) ∧ L[i].path = p := by
  have := findFrom_cases p L 0
  simpa [findAt] using this
def dirAt (L : List It) (a : Int) : Bool := (L[a.toNat]?.map It.dir).getD false
/-- A path is gone through: the place (-1: the root) and 0, or a reason. -/
def findF (L : List It) : ByteArray → Int → List ByteArray → Int × Nat
  | _, a, [] => (a, 0)
  | p, a, n :: ns => if 0 ≤ a ∧ dirAt L a = false then (0, 7) else if findAt L (joinB p n) < 0 then (0, 6) else findF L (joinB p n) (findAt L (joinB p n)) ns
/-- Strings in memory, behind one another. -/
def StrsAt (w : World) (v : Value) (ns : List ByteArray) : Prop := ∃ ag g cap, v = .slice ag ns.length cap ∧ ns.length ≤ cap ∧ (0 < ns.length → ag = some ⟨g, 0, none⟩) ∧ ∀ j x, (strs ns)[j]? = some x → w.cell? ⟨g, j, none⟩ = some x
theorem strsAt_of {w : World} {B : Nat} {v : Value} {n : Nat} {ns : List ByteArray} (h : w.ownsRow B 9 1 v n (strs ns)) : StrsAt w v ns := by
  have hl : ns.length = n := by have := h.1; rw [strs_length] at this; omega
  rcases h.2 with ⟨hv, h0⟩ | ⟨g, cap, cur, hv, _, hb, hc, _, hs, ht⟩
  · have hL : ns = [] := List.eq_nil_of_length_eq_zero (by omega)
    subst hL
    exact ⟨none, 0, 0, by rw [hv]; rfl, Nat.le_refl _, fun h => absurd h (Nat.lt_irrefl 0), fun j v hj => by simp [strs] at hj⟩
  · refine ⟨some ⟨g, 0, none⟩, g, cap, by rw [hv, hl], by omega, fun _ => rfl, fun j v hj => ?_⟩
    have hj3 : j < n * 1 := by have := (List.getElem?_eq_some_iff.1 hj).1; rw [strs_length] at this; omega
    rw [cell_of_row w g j cur _ _ hb, ← Array.getElem?_toList]
    rw [← ht, List.getElem?_take_of_lt hj3] at hj
    exact hj
theorem joinB_size (p n : ByteArray) : (joinB p n).size ≤ p.size + 1 + n.size := by
  unfold joinB
  split
  · omega
  · rw [ByteArray.size_append, ByteArray.size_append]
    show p.size + 1 + n.size ≤ _
    omega
set_option maxRecDepth 100000 in
set_option maxHeartbeats 2000000 in
theorem refFindN_any (L : List It) (ns : List ByteArray) (v vn : Value) (w : World) (h : ItsAt w v L) (hn : StrsAt w vn ns) (hl : L.length ≤ 40000) (hns : ns.length ≤ 100) (hsz : ∀ n ∈ ns, n.size ≤ 100) :
    Calls Tryz.prog 202 #[v, vn] w fun e w' => e = .returned (.tuple #[.int .i64 (findF L ⟨#[]⟩ (-1) ns).1, .int .i64 ((findF L ⟨#[]⟩ (-1) ns).2 : Nat)]) ∧ w = w' := by
  have hfind := fun p => refFind_any L p v w h (by omega)
  have h' := h
  obtain ⟨ag, g, cap, rfl, hag, hc⟩ := h'
  obtain ⟨an, gn, capn, rfl, _, hang, hcn⟩ := hn
  have HF : Hid _ := hfind
  have HA : Hid _ := hag
  have HC : Hid _ := hc
  have HN : Hid _ := hang
  have HM : Hid _ := hcn
  clear hfind hag hc hang hcn h
  go_enter Tryz.func202, Tryz.ntmps202
  go_wp2
  go_loop [6, 7, 8] (fun pv av iv => ∃ (k : Nat) (p : ByteArray) (a : Int), k ≤ ns.length ∧ iv = .int .i64 k ∧ pv = .string p ∧ av = .int .i64 a ∧ findF L ⟨#[]⟩ (-1) ns = findF L p a (ns.drop k) ∧ (a = -1 ∨ ∃ i : Nat, i < L.length ∧ a = i) ∧ p.size ≤ 101 * k) (fun _ _ iv => ns.length - (intOf iv).toNat)
  case atStart => exact ⟨0, _, -1, Nat.zero_le _, rfl, rfl, rfl, rfl, .inl rfl, Nat.zero_le _⟩
  case round =>
    obtain ⟨k, p, a, hk, rfl, rfl, rfl, hf, ha, hp⟩ := hrel
    by_cases hlt : k < ns.length
    · have k1 : (k : Int) < (ns.length : Int) := by omega
      have k0 : (0 : Int) ≤ (k : Int) := by omega
      obtain rfl := HN.out (by omega)
      have cn : w.cell? ⟨gn, k, none⟩ = some (.string ns[k]) := HM.out _ _ (by rw [strs_get ns k hlt, List.getD_eq_getElem?_getD, List.getElem?_eq_getElem hlt]; rfl)
      have hd : ns.drop k = ns[k] :: ns.drop (k + 1) := List.drop_eq_getElem_cons hlt
      rw [hd, findF] at hf
      have hns2 := hsz ns[k] (List.getElem_mem hlt)
      have hjs := joinB_size p ns[k]
      generalize ns[k] = nm at *
      have hJ := refJoin_any p nm w (by omega) (by omega)
      have hFd := HF.out (joinB p nm)
      have hcs := findAt_cases L (joinB p nm)
      generalize joinB p nm = q at *
      have main : ∀ (hdir : ¬ (0 ≤ a ∧ dirAt L a = false)), findF L ⟨#[]⟩ (-1) ns = if findAt L q < 0 then (0, 6) else findF L q (findAt L q) (ns.drop (k + 1)) := fun hdir => by rw [hf, if_neg hdir]
      have MAIN : Hid _ := main
      have HB : Hid (0 ≤ a ∧ dirAt L a = false → findF L ⟨#[]⟩ (-1) ns = (0, 7)) := fun e => by rw [hf, if_pos e]
      clear hf main hd
      rcases ha with rfl | ⟨i, hi, rfl⟩
      · have MM := MAIN.out (by omega)
        rcases hcs with ⟨h1, _⟩ | ⟨i2, hi2, h1, _⟩
        · rw [h1] at hFd MM
          have M2 : Hid _ := MM
          clear MM MAIN HB
          go_wp2_with (first
            | (go_at_call 199; refine hJ.mono ?_; rintro e w2 ⟨rfl, rfl⟩)
            | (go_at_call 195; refine hFd.mono ?_; rintro e w2 ⟨rfl, rfl⟩))
          refine bodyPost_ret (results_tmp2 rfl _ _ _) rfl ?_
          exact ⟨by rw [M2.out]; rfl, rfl⟩
        · rw [h1] at hFd MM
          have i2' : ¬ ((i2 : Nat) : Int) < 0 := by omega
          rw [if_neg i2'] at MM
          have M2 : Hid _ := MM
          clear MM MAIN HB
          go_wp2_with (first
            | (go_at_call 199; refine hJ.mono ?_; rintro e w2 ⟨rfl, rfl⟩)
            | (go_at_call 195; refine hFd.mono ?_; rintro e w2 ⟨rfl, rfl⟩))
          exact ⟨⟨k + 1, q, _, by omega, by go_num, rfl, rfl, M2.out, .inr ⟨i2, hi2, rfl⟩, by omega⟩, by simp [intOf]; omega⟩
      · obtain rfl := HA.out (by omega)
        have ci : w.cell? ⟨g, i * 3 + 1, none⟩ = some (.bool L[i].dir) := HC.out _ _ (by rw [itCells_get L i hi 1 (by decide)]; rfl)
        have hda : dirAt L (i : Nat) = L[i].dir := by unfold dirAt; rw [Int.toNat_natCast, List.getElem?_eq_getElem hi]; rfl
        have i0 : (0 : Int) ≤ (i : Int) := by omega
        have i1 : (i : Int) < (L.length : Int) := by omega
        rw [hda] at HB MAIN
        generalize L[i].dir = dd at ci HB MAIN
        clear hda
        cases dd with
        | false =>
          have H2 := HB.out ⟨i0, rfl⟩
          have H3 : Hid _ := H2
          clear H2 HB MAIN
          go_wp2
          refine bodyPost_ret (results_tmp2 rfl _ _ _) rfl ?_
          exact ⟨by rw [H3.out]; rfl, rfl⟩
        | true =>
          have MM := MAIN.out (by simp)
          rcases hcs with ⟨h1, _⟩ | ⟨i2, hi2, h1, _⟩
          · rw [h1] at hFd MM
            have M2 : Hid _ := MM
            clear MM MAIN HB
            go_wp2_with (first
              | (go_at_call 199; refine hJ.mono ?_; rintro e w2 ⟨rfl, rfl⟩)
              | (go_at_call 195; refine hFd.mono ?_; rintro e w2 ⟨rfl, rfl⟩))
            refine bodyPost_ret (results_tmp2 rfl _ _ _) rfl ?_
            exact ⟨by rw [M2.out]; rfl, rfl⟩
          · rw [h1] at hFd MM
            have i2' : ¬ ((i2 : Nat) : Int) < 0 := by omega
            rw [if_neg i2'] at MM
            have M2 : Hid _ := MM
            clear MM MAIN HB
            go_wp2_with (first
              | (go_at_call 199; refine hJ.mono ?_; rintro e w2 ⟨rfl, rfl⟩)
              | (go_at_call 195; refine hFd.mono ?_; rintro e w2 ⟨rfl, rfl⟩))
            exact ⟨⟨k + 1, q, _, by omega, by go_num, rfl, rfl, M2.out, .inr ⟨i2, hi2, rfl⟩, by omega⟩, by simp [intOf]; omega⟩
    · have ek : k = ns.length := by omega
      rw [ek, List.drop_length, findF] at hf
      have k1 : ¬ (k : Int) < (ns.length : Int) := by omega
      have H2 : Hid _ := hf
      clear hf
      go_wp2
      refine bodyPost_ret (results_tmp2 rfl _ _ _) rfl ?_
      exact ⟨by rw [H2.out]; rfl, rfl⟩
end Go.Proofs.YtdidjdoifpfmmaaGreatDoor
/- The document's spot and room. -/
namespace Go.Proofs.YtdidjdoifpfmmaaGreatDoor
open Go.RowKit
theorem ItsAt.below {w w' : World} {v : Value} {L : List It} (h : ItsAt w v L) {B : Nat} (hb : Below B w w') (hB : w.heap.size ≤ B) : ItsAt w' v L := by
  obtain ⟨ag, g, cap, hv, h1, h2⟩ := h
  refine ⟨ag, g, cap, hv, h1, fun j x hj => ?_⟩
  have := h2 j x hj
  rw [hb.cell (Nat.lt_of_lt_of_le (World.block_lt_of_cell? w _ this) hB)]
  exact this
theorem strsAt_take {w : World} {ag : Option Addr} {n cap : Nat} {ns : List ByteArray} (hn : ns.length = n + 1) (h : StrsAt w (.slice ag (n + 1) cap) ns) : StrsAt w (.slice ag n cap) (ns.take n) := by
  obtain ⟨ag', g, cap', hv, h0, h1, h2⟩ := h
  simp only [Value.slice.injEq] at hv
  obtain ⟨rfl, _, rfl⟩ := hv
  refine ⟨ag, g, cap, by rw [List.length_take, hn]; congr 1; omega, by rw [List.length_take]; omega, fun _ => h1 (by omega), fun j x hj => h2 j x ?_⟩
  simp only [strs, List.getElem?_map, List.getElem?_take] at hj ⊢
  split at hj
  · exact hj
  · simp at hj
theorem names_sizes (s : ByteArray) : ∀ n ∈ (namesOf s).1, n.size ≤ 16 := by
  unfold namesOf
  split
  · simp
  · split
    · rename_i h
      intro n hn
      have := List.all_eq_true.1 h n hn
      unfold isName at this
      simp only [Bool.and_eq_true, decide_eq_true_eq, textOf_len] at this
      exact this.2
    · simp
theorem names_few (s : ByteArray) (h : (namesOf s).2 = true) : (namesOf s).1.length ≤ 8 := by
  unfold namesOf at h ⊢
  split
  · simp
  · rename_i h0
    rw [if_neg h0] at h
    split
    · rename_i h1
      rw [if_pos h1] at h
      exact of_decide_eq_true h
    · simp
def spotOf (L : List It) (s : ByteArray) : Nat :=
  if (namesOf s).2 = false ∨ (namesOf s).1.length = 0 then 5
  else if (findF L ⟨#[]⟩ (-1) ((namesOf s).1.take ((namesOf s).1.length - 1))).2 ≠ 0 then (findF L ⟨#[]⟩ (-1) ((namesOf s).1.take ((namesOf s).1.length - 1))).2
  else if 0 ≤ (findF L ⟨#[]⟩ (-1) ((namesOf s).1.take ((namesOf s).1.length - 1))).1 ∧ dirAt L (findF L ⟨#[]⟩ (-1) ((namesOf s).1.take ((namesOf s).1.length - 1))).1 = false then 7 else 0
theorem findF_range (L : List It) (ns : List ByteArray) : ∀ (p : ByteArray) (a : Int), (a = -1 ∨ ∃ i : Nat, i < L.length ∧ a = i) → (findF L p a ns).2 = 0 → ((findF L p a ns).1 = -1 ∨ ∃ i : Nat, i < L.length ∧ (findF L p a ns).1 = i) := by
  induction ns with
  | nil => intro p a ha _; exact ha
  | cons n ns ih =>
    intro p a ha h0
    rw [findF] at h0 ⊢
    split at h0
    · simp at h0
    · rename_i h1
      rw [if_neg h1]
      split at h0
      · simp at h0
      · rename_i h2
        rw [if_neg h2]
        refine ih _ _ ?_ h0
        rcases findAt_cases L (joinB p n) with ⟨e, _⟩ | ⟨i, hi, e, _⟩
        · exact .inl e
        · exact .inr ⟨i, hi, e⟩
theorem findF_codes (L : List It) (ns : List ByteArray) : ∀ (p : ByteArray) (a : Int), (findF L p a ns).2 ≤ 7 := by
  induction ns with
  | nil => intro p a; exact Nat.zero_le _
  | cons n ns ih =>
    intro p a
    rw [findF]
    split
    · exact Nat.le_refl _
    · split
      · show 6 ≤ 7; omega
      · exact ih _ _
set_option maxRecDepth 100000 in
set_option maxHeartbeats 2000000 in
theorem refSpot_any (L : List It) (s : ByteArray) (v : Value) (w : World) (h : ItsAt w v L) (hl : L.length ≤ 40000) (hs : s.size ≤ 1000000) :
    Calls Tryz.prog 194 #[v, .string s] w fun e w' => e = .returned (.int .i64 (spotOf L s : Nat)) ∧ Below w.heap.size w w' := by
  have hN := refNames_any s w hs
  by_cases hbad : (namesOf s).2 = false ∨ (namesOf s).1.length = 0
  · have he : Hid (spotOf L s = 5) := by show spotOf L s = 5; unfold spotOf; rw [if_pos hbad]
    obtain ⟨ag, g, cap, rfl, _, _⟩ := h
    cases hb2 : (namesOf s).2
    · rw [hb2] at hN
      go_enter Tryz.func194, Tryz.ntmps194
      go_wp2_with (go_at_call 193; refine hN.mono ?_; rintro e w1 ⟨nv, rfl, ho, hb⟩)
      go_ret
      exact ⟨by rw [he.out]; rfl, hb⟩
    · have h0 : (namesOf s).1.length = 0 := by
        rcases hbad with hq | hq
        · rw [hb2] at hq; cases hq
        · exact hq
      rw [hb2] at hN
      go_enter Tryz.func194, Tryz.ntmps194
      go_wp2_with (go_at_call 193; refine hN.mono ?_; rintro e w1 ⟨nv, rfl, ho, hb⟩; obtain ⟨an, gn, cn, rfl, _⟩ := strsAt_of ho)
      go_ret
      exact ⟨by rw [he.out]; rfl, hb⟩
  · have hok : (namesOf s).2 = true := by cases hq : (namesOf s).2 with
      | false => exact absurd (.inl hq) hbad
      | true => rfl
    have hpos : (namesOf s).1.length ≠ 0 := fun e => hbad (.inr e)
    have hfew := names_few s hok
    have hsz := names_sizes s
    rw [hok] at hN
    have HS : Hid (spotOf L s = if (findF L ⟨#[]⟩ (-1) ((namesOf s).1.take ((namesOf s).1.length - 1))).2 ≠ 0 then (findF L ⟨#[]⟩ (-1) ((namesOf s).1.take ((namesOf s).1.length - 1))).2 else if 0 ≤ (findF L ⟨#[]⟩ (-1) ((namesOf s).1.take ((namesOf s).1.length - 1))).1 ∧ dirAt L (findF L ⟨#[]⟩ (-1) ((namesOf s).1.take ((namesOf s).1.length - 1))).1 = false then 7 else 0) := by
      show spotOf L s = _
      unfold spotOf
      rw [if_neg hbad]
    have HFW : Hid (∀ w1 nv, Below w.heap.size w w1 → StrsAt w1 nv (namesOf s).1 → ∃ an cn n, nv = .slice an (n + 1) cn ∧ n + 1 = (namesOf s).1.length ∧ n + 1 ≤ cn ∧ Calls Tryz.prog 202 #[v, .slice an n cn] w1 fun e w' => e = .returned (.tuple #[.int .i64 (findF L ⟨#[]⟩ (-1) ((namesOf s).1.take ((namesOf s).1.length - 1))).1, .int .i64 ((findF L ⟨#[]⟩ (-1) ((namesOf s).1.take ((namesOf s).1.length - 1))).2 : Nat)]) ∧ w1 = w') := by
      intro w1 nv hb hnv
      have hnv' := hnv
      obtain ⟨an, gn, cn, rfl, hcn, _, _⟩ := hnv
      obtain ⟨n, hn⟩ : ∃ n, (namesOf s).1.length = n + 1 := ⟨(namesOf s).1.length - 1, by omega⟩
      rw [hn] at hnv' hcn
      refine ⟨an, cn, n, by rw [hn], hn.symm, hcn, ?_⟩
      rw [hn, show n + 1 - 1 = n from rfl]
      exact refFindN_any L ((namesOf s).1.take n) v _ w1 (h.below hb (Nat.le_refl _)) (strsAt_take hn hnv') hl (by rw [List.length_take]; omega) (fun x hx => Nat.le_trans (hsz x (List.mem_of_mem_take hx)) (by decide))
    have hrange := findF_range L ((namesOf s).1.take ((namesOf s).1.length - 1)) ⟨#[]⟩ (-1) (.inl rfl)
    have hcode := findF_codes L ((namesOf s).1.take ((namesOf s).1.length - 1)) ⟨#[]⟩ (-1)
    generalize findF L ⟨#[]⟩ (-1) ((namesOf s).1.take ((namesOf s).1.length - 1)) = F at *
    obtain ⟨fa, fe⟩ := F
    simp only at hrange hcode HS HFW
    obtain ⟨ag, g, cap, rfl, hag, hc⟩ := h
    have HL : Hid ((namesOf s).1.length ≤ 8) := hfew
    clear hfew hpos hbad hok hsz
    by_cases he0 : fe = 0
    · subst he0
      rw [if_neg (by simp)] at HS
      rcases hrange rfl with rfl | ⟨i, hi, rfl⟩
      · rw [if_neg (by omega)] at HS
        go_enter Tryz.func194, Tryz.ntmps194
        go_wp2_with (first
          | (go_at_call 193; refine hN.mono ?_; rintro e w1 ⟨nv, rfl, ho, hb⟩; obtain ⟨an, cn, n, rfl, hn, hcn, hF⟩ := HFW.out w1 nv hb (strsAt_of ho); have n8 : n + 1 ≤ 8 := (by rw [hn]; exact HL.out); have m0 : (0 : Int) ≤ (n : Int) := (by omega); have m1 : (n : Int) ≤ (cn : Int) := (by omega); clear ho HFW hn)
          | (go_at_call 202; refine hF.mono ?_; rintro e w2 ⟨rfl, rfl⟩; clear hF))
        go_ret
        exact ⟨by rw [HS.out]; rfl, hb⟩
      · obtain rfl := hag (by omega)
        have hgl : g < w.heap.size := World.block_lt_of_cell? w ⟨g, i * 3 + 1, none⟩ (hc (i * 3 + 1) (.bool L[i].dir) (by rw [itCells_get L i hi 1 (by decide)]; rfl))
        have ci : ∀ w1, Below w.heap.size w w1 → w1.cell? ⟨g, i * 3 + 1, none⟩ = some (.bool L[i].dir) := fun w1 hb => by
          rw [hb.cell hgl]
          exact hc _ _ (by rw [itCells_get L i hi 1 (by decide)]; rfl)
        have hda : dirAt L (i : Nat) = L[i].dir := by unfold dirAt; rw [Int.toNat_natCast, List.getElem?_eq_getElem hi]; rfl
        have i0 : (0 : Int) ≤ (i : Int) := by omega
        have i1 : (i : Int) < (L.length : Int) := by omega
        rw [hda] at HS
        generalize L[i].dir = dd at ci HS
        have CI : Hid _ := ci
        clear hda ci hc hag hgl
        cases dd with
        | false =>
          rw [if_pos ⟨i0, rfl⟩] at HS
          go_enter Tryz.func194, Tryz.ntmps194
          go_wp2_with (first
            | (go_at_call 193; refine hN.mono ?_; rintro e w1 ⟨nv, rfl, ho, hb⟩; obtain ⟨an, cn, n, rfl, hn, hcn, hF⟩ := HFW.out w1 nv hb (strsAt_of ho); have n8 : n + 1 ≤ 8 := (by rw [hn]; exact HL.out); have m0 : (0 : Int) ≤ (n : Int) := (by omega); have m1 : (n : Int) ≤ (cn : Int) := (by omega); have ci := CI.out w1 hb; clear ho HFW hn)
            | (go_at_call 202; refine hF.mono ?_; rintro e w2 ⟨rfl, rfl⟩; clear hF))
          go_ret
          exact ⟨by rw [HS.out]; rfl, hb⟩
        | true =>
          rw [if_neg (by simp)] at HS
          go_enter Tryz.func194, Tryz.ntmps194
          go_wp2_with (first
            | (go_at_call 193; refine hN.mono ?_; rintro e w1 ⟨nv, rfl, ho, hb⟩; obtain ⟨an, cn, n, rfl, hn, hcn, hF⟩ := HFW.out w1 nv hb (strsAt_of ho); have n8 : n + 1 ≤ 8 := (by rw [hn]; exact HL.out); have m0 : (0 : Int) ≤ (n : Int) := (by omega); have m1 : (n : Int) ≤ (cn : Int) := (by omega); have ci := CI.out w1 hb; clear ho HFW hn)
            | (go_at_call 202; refine hF.mono ?_; rintro e w2 ⟨rfl, rfl⟩; clear hF))
          go_ret
          exact ⟨by rw [HS.out]; rfl, hb⟩
    · rw [if_pos he0] at HS
      have e1 : ((fe : Int) != 0) = true := by simp; omega
      go_enter Tryz.func194, Tryz.ntmps194
      go_wp2_with (first
        | (go_at_call 193; refine hN.mono ?_; rintro e w1 ⟨nv, rfl, ho, hb⟩; obtain ⟨an, cn, n, rfl, hn, hcn, hF⟩ := HFW.out w1 nv hb (strsAt_of ho); have n8 : n + 1 ≤ 8 := (by rw [hn]; exact HL.out); have m0 : (0 : Int) ≤ (n : Int) := (by omega); have m1 : (n : Int) ≤ (cn : Int) := (by omega); clear ho HFW hn)
        | (go_at_call 202; refine hF.mono ?_; rintro e w2 ⟨rfl, rfl⟩; clear hF))
      go_ret
      exact ⟨by rw [HS.out]; rfl, hb⟩
end Go.Proofs.YtdidjdoifpfmmaaGreatDoor
/- The document's room. -/
namespace Go.Proofs.YtdidjdoifpfmmaaGreatDoor
open Go.RowKit
def upJoin (ns : List ByteArray) : ByteArray := (ns.take (ns.length - 1)).foldl joinB ⟨#[]⟩
def roomOf (L : List It) (s : ByteArray) : Bool := decide ((kidsFold (upJoin (namesOf s).1) L).length < 16) && decide (L.length < 256)
theorem StrsAt.below {w w' : World} {v : Value} {ns : List ByteArray} (h : StrsAt w v ns) {B : Nat} (hb : Below B w w') (hB : w.heap.size ≤ B) : StrsAt w' v ns := by
  obtain ⟨ag, g, cap, hv, h0, h1, h2⟩ := h
  refine ⟨ag, g, cap, hv, h0, h1, fun j x hj => ?_⟩
  have := h2 j x hj
  rw [hb.cell (Nat.lt_of_lt_of_le (World.block_lt_of_cell? w _ this) hB)]
  exact this
theorem take_snocB (L : List ByteArray) (k : Nat) (h : k < L.length) : L.take (k + 1) = L.take k ++ [L[k]] := by rw [List.take_succ_eq_append_getElem h]
theorem slice_formR {w : World} {B : Nat} {e : TypeId} {size : Nat} {v : Value} {n : Nat} {xs : List Value} (h : w.ownsRow B e size v n xs) : ∃ al cl, v = .slice al n cl := by
  rcases h.2 with ⟨e, e0⟩ | ⟨g', cap', cur, e, _⟩
  · exact ⟨none, 0, by rw [e, e0]⟩
  · exact ⟨_, _, e⟩
set_option maxRecDepth 100000 in
set_option maxHeartbeats 2000000 in
theorem refRoom_any (L : List It) (s : ByteArray) (v : Value) (w : World) (h : ItsAt w v L) (hl : L.length ≤ 40000) (hs : s.size ≤ 1000000) (hsz : ∀ x ∈ L, x.path.size ≤ 1000000) (hok : (namesOf s).2 = true) (hpos : (namesOf s).1.length ≠ 0) :
    Calls Tryz.prog 196 #[v, .string s] w fun e w' => e = .returned (.bool (roomOf L s)) ∧ Below w.heap.size w w' := by
  have hN := refNames_any s w hs
  rw [hok] at hN
  have hfew := names_few s hok
  have hns := names_sizes s
  have hr : Hid (roomOf L s = (decide ((kidsFold (upJoin (namesOf s).1) L).length < 16) && decide (L.length < 256))) := by show roomOf L s = _; rfl
  have HK : Hid (∀ w1 p, Below w.heap.size w w1 → Calls Tryz.prog 197 #[v, .string p] w1 fun e w' => ∃ kv, e = .returned kv ∧ w'.ownsRow w1.heap.size 9 1 kv (kidsFold p L).length (strs (kidsFold p L)) ∧ Below w1.heap.size w1 w') := fun w1 p hb => refKids_any L p v w1 (h.below hb (Nat.le_refl _)) hl hsz
  obtain ⟨ag, g, cap, rfl, _, _⟩ := h
  have HS : Hid (∀ w1 nv, w1.ownsRow w.heap.size 9 1 nv (namesOf s).1.length (strs (namesOf s).1) → StrsAt w1 nv (namesOf s).1) := fun w1 nv ho => strsAt_of ho
  generalize hG : (namesOf s).1 = ns at *
  obtain ⟨n, hn⟩ : ∃ n, ns.length = n + 1 := ⟨ns.length - 1, by omega⟩
  have hup : Hid (upJoin ns = (ns.take n).foldl joinB ⟨#[]⟩) := by
    show upJoin ns = _
    unfold upJoin
    rw [hn]; rfl
  have nb : n ≤ 100 := by omega
  clear hpos
  go_enter Tryz.func196, Tryz.ntmps196
  go_wp2_with (go_at_call 193; refine hN.mono ?_; rintro e w1 ⟨nv, rfl, ho, hb⟩; rw [hG] at ho; obtain ⟨an, gn, cn, hnv, hcn, hag, hcc⟩ := HS.out w1 nv ho; rw [hn] at hnv hag; obtain rfl := hag (by omega); subst hnv; clear ho hag hN)
  have HN : Hid _ := hn
  have HC : Hid _ := hcc
  clear hn hcc hG
  go_loop [7, 8] (fun uv iv => ∃ k : Nat, k ≤ n ∧ iv = .int .i64 k ∧ uv = .string ((ns.take k).foldl joinB ⟨#[]⟩) ∧ ((ns.take k).foldl joinB ⟨#[]⟩).size ≤ 101 * k) (fun _ iv => n - (intOf iv).toNat)
  case atStart => exact ⟨0, Nat.zero_le _, rfl, rfl, Nat.zero_le _⟩
  case round =>
    obtain ⟨k, hk, rfl, rfl, hps⟩ := hrel
    have hn := HN.out
    by_cases hlt : k < n
    · have k1 : (k : Int) < (n : Int) := by omega
      have k0 : (0 : Int) ≤ (k : Int) := by omega
      have k2 : (k : Int) < ((n + 1 : Nat) : Int) := by omega
      have hk2 : k < ns.length := by omega
      have cn2 : w1.cell? ⟨gn, k, none⟩ = some (.string ns[k]) := HC.out _ _ (by rw [strs_get ns k hk2, List.getD_eq_getElem?_getD, List.getElem?_eq_getElem hk2]; rfl)
      have hs1 := hns ns[k] (List.getElem_mem hk2)
      have hst : Hid ((ns.take (k + 1)).foldl joinB ⟨#[]⟩ = joinB ((ns.take k).foldl joinB ⟨#[]⟩) ns[k]) := by
        show _ = _
        rw [take_snocB ns k hk2, List.foldl_append]; rfl
      have hjs := joinB_size ((ns.take k).foldl joinB ⟨#[]⟩) ns[k]
      have hJ := refJoin_any ((ns.take k).foldl joinB ⟨#[]⟩) ns[k] w1 (by omega) (by omega)
      generalize (ns.take k).foldl joinB ⟨#[]⟩ = p at *
      generalize ns[k] = nm at *
      clear hn
      go_wp2_with (go_at_call 199; refine hJ.mono ?_; rintro e w2 ⟨rfl, rfl⟩)
      exact ⟨⟨k + 1, by omega, by go_num, by rw [hst.out], by rw [hst.out]; omega⟩, by simp [intOf]; omega⟩
    · have ek : k = n := by omega
      subst ek
      have k1 : ¬ (k : Int) < (k : Int) := by omega
      have hK := HK.out w1 ((ns.take k).foldl joinB ⟨#[]⟩) hb
      have HR := hr.out
      rw [hup.out] at HR
      generalize (ns.take k).foldl joinB ⟨#[]⟩ = p at *
      generalize kidsFold p L = kl at *
      have hbb : ∀ w2, Below w1.heap.size w1 w2 → Below w.heap.size w w2 := fun w2 h2 => hb.trans (h2.mono hb.size)
      clear hn hr hup HK
      by_cases h16 : kl.length < 16
      · have i1 : (kl.length : Int) < 16 := by omega
        rw [decide_eq_true h16, Bool.true_and] at HR
        have HR2 : Hid _ := HR
        clear HR
        go_wp2_with (go_at_call 197; refine hK.mono ?_; rintro e w2 ⟨kv, rfl, hk2, hb2⟩; obtain ⟨ak, ck, rfl⟩ := slice_formR hk2; clear hk2 hK)
        go_ret
        refine ⟨?_, hbb _ hb2⟩
        rw [HR2.out]
        exact ret_eq (congrArg Value.bool (decide_eq_decide.2 (by omega)))
      · have i1 : ¬ (kl.length : Int) < 16 := by omega
        rw [decide_eq_false h16, Bool.false_and] at HR
        have HR2 : Hid _ := HR
        clear HR
        go_wp2_with (go_at_call 197; refine hK.mono ?_; rintro e w2 ⟨kv, rfl, hk2, hb2⟩; obtain ⟨ak, ck, rfl⟩ := slice_formR hk2; clear hk2 hK)
        go_ret
        exact ⟨by rw [HR2.out]; rfl, hbb _ hb2⟩
end Go.Proofs.YtdidjdoifpfmmaaGreatDoor
/- Paths: joined and taken apart; the names in a directory. -/
namespace Go.Proofs.YtdidjdoifpfmmaaGreatDoor
open Go.RowKit
theorem ba_ext {a b : ByteArray} (h : a.data.toList = b.data.toList) : a = b := WideShapes.bytes_inj h
theorem extract_list (s : ByteArray) (a e : Nat) : (s.extract a e).data.toList = (s.data.toList.drop a).take (e - a) := by
  rw [ByteArray.data_extract, Array.toList_extract]
theorem append_list (a b : ByteArray) : (a ++ b).data.toList = a.data.toList ++ b.data.toList := by simp
theorem size_list (s : ByteArray) : s.data.toList.length = s.size := Array.length_toList
theorem take_size (s : ByteArray) : s.data.toList.take s.size = s.data.toList := by rw [← size_list, List.take_length]
theorem extract_all (s : ByteArray) : s.extract 0 s.size = s := by
  apply ba_ext
  rw [extract_list, List.drop_zero, Nat.sub_zero, take_size]
theorem joinB_list (p n : ByteArray) (h : p ≠ ⟨#[]⟩) : (joinB p n).data.toList = p.data.toList ++ 47 :: n.data.toList := by
  unfold joinB
  rw [if_neg h, append_list, append_list]
  simp
theorem joinB_nil (n : ByteArray) : joinB ⟨#[]⟩ n = n := by unfold joinB; rw [if_pos rfl]
theorem text_get (s : ByteArray) (k : Nat) : (textOf s).getD k 0 = (s.data.toList[k]?.map UInt8.toNat).getD 0 := by
  rw [textOf, List.getD_eq_getElem?_getD, List.getElem?_map]
theorem cut_join (s : ByteArray) (pl nl : List UInt8) (hs : s.data.toList = pl ++ 47 :: nl) (hn : ∀ c ∈ nl, c ≠ 47) : cutOf s = pl.length := by
  have hz : s.size = pl.length + 1 + nl.length := by rw [← size_list, hs]; simp; omega
  have : ∀ k, pl.length < k → k ≤ s.size → cutTo s k = pl.length := by
    intro k
    induction k with
    | zero => intro h; omega
    | succ k ih =>
      intro h1 h2
      unfold cutTo
      rw [text_get, hs]
      by_cases e : k = pl.length
      · subst e; simp
      · have hk : pl.length < k := by omega
        rw [List.getElem?_append_right (by omega), show k - pl.length = (k - pl.length - 1) + 1 by omega, List.getElem?_cons_succ, List.getElem?_eq_getElem (by omega)]
        rw [if_neg, ih hk (by omega)]
        intro e
        have hq : k - pl.length - 1 < nl.length := by omega
        exact hn (nl[k - pl.length - 1]) (List.getElem_mem hq) (UInt8.toNat_inj.1 (by simpa using e))
  exact this _ (by omega) (Nat.le_refl _)
theorem cut_none (s : ByteArray) (hn : ∀ c ∈ s.data.toList, c ≠ 47) : cutOf s = -1 := by
  have : ∀ k, k ≤ s.size → cutTo s k = -1 := by
    intro k
    induction k with
    | zero => intro _; rfl
    | succ k ih =>
      intro h
      have hl : k < s.data.toList.length := by rw [size_list]; omega
      unfold cutTo
      rw [text_get, List.getElem?_eq_getElem hl, if_neg, ih (by omega)]
      intro e
      refine hn _ (List.getElem_mem hl) (UInt8.toNat_inj.1 ?_)
      simpa using e
  exact this _ (Nat.le_refl _)
theorem name_no47 {n : ByteArray} (h : isName (textOf n) = true) : ∀ c ∈ n.data.toList, c ≠ 47 := by
  intro c hc e
  unfold isName at h
  simp only [Bool.and_eq_true, List.all_eq_true] at h
  have := h.1.1 c.toNat (List.mem_map.2 ⟨c, hc, rfl⟩)
  rw [e] at this
  revert this
  decide
theorem name_ne {n : ByteArray} (h : isName (textOf n) = true) : n ≠ ⟨#[]⟩ := by
  rintro rfl
  revert h
  decide
theorem name_size {n : ByteArray} (h : isName (textOf n) = true) : n.size ≤ 16 := by
  unfold isName at h
  simp only [Bool.and_eq_true, decide_eq_true_eq, textOf_len] at h
  exact h.2
theorem name_pos {n : ByteArray} (h : isName (textOf n) = true) : 1 ≤ n.size := by
  unfold isName at h
  simp only [Bool.and_eq_true, decide_eq_true_eq, textOf_len] at h
  exact h.1.2
theorem up_join (p n : ByteArray) (h : isName (textOf n) = true) : upOf (joinB p n) = p := by
  have h47 := name_no47 h
  by_cases hp : p = ⟨#[]⟩
  · subst hp
    rw [joinB_nil]
    unfold upOf
    rw [cut_none n h47]
    rfl
  · have hl := joinB_list p n hp
    unfold upOf
    rw [cut_join _ _ _ hl h47, if_pos (by omega)]
    apply ba_ext
    rw [extract_list, hl]
    simp
theorem last_join (p n : ByteArray) (h : isName (textOf n) = true) : lastOf (joinB p n) = n := by
  have h47 := name_no47 h
  by_cases hp : p = ⟨#[]⟩
  · subst hp
    rw [joinB_nil]
    unfold lastOf
    rw [cut_none n h47]
    exact extract_all n
  · have hl := joinB_list p n hp
    unfold lastOf
    rw [cut_join _ _ _ hl h47]
    apply ba_ext
    have e : ((p.data.toList.length : Int) + 1).toNat = p.data.toList.length + 1 := by omega
    have e2 : (p.data.toList ++ 47 :: n.data.toList).drop (p.data.toList.length + 1) = n.data.toList := by
      rw [List.drop_append, List.drop_eq_nil_of_le (by omega)]
      simp
    rw [extract_list, e, ← size_list, hl, e2, List.take_of_length_le (by simp; omega)]
theorem joinB_inj {p q n m : ByteArray} (hn : isName (textOf n) = true) (hm : isName (textOf m) = true) (h : joinB p n = joinB q m) : p = q ∧ n = m := by
  constructor
  · rw [← up_join p n hn, h, up_join q m hm]
  · rw [← last_join p n hn, h, last_join q m hm]
theorem joinB_ne (p n : ByteArray) (h : isName (textOf n) = true) : joinB p n ≠ ⟨#[]⟩ := by
  intro e
  by_cases hp : p = ⟨#[]⟩
  · subst hp; rw [joinB_nil] at e; exact name_ne h e
  · have := joinB_list p n hp
    rw [e] at this
    simp at this
theorem joinB_gt (p n : ByteArray) (h : isName (textOf n) = true) : p.size < (joinB p n).size := by
  by_cases hp : p = ⟨#[]⟩
  · subst hp; rw [joinB_nil]; have := name_pos h; show 0 < _; omega
  · have := congrArg List.length (joinB_list p n hp)
    rw [size_list, List.length_append, size_list, List.length_cons] at this
    omega
def pathOf (ns : List ByteArray) : ByteArray := ns.foldl joinB ⟨#[]⟩
theorem pathOf_snoc (ns : List ByteArray) (n : ByteArray) : pathOf (ns ++ [n]) = joinB (pathOf ns) n := by simp [pathOf]
theorem pieces_join (s : ByteArray) : ∀ (f a i : Nat), f = s.size + 1 - i → 2 ≤ a → a ≤ i → i ≤ s.size → s.data.toList[a - 1]? = some 47 → (pieces s f a i).foldl joinB (s.extract 0 (a - 1)) = s := by
  intro f
  induction f with
  | zero => intro a i hf ha hai hi _; omega
  | succ f ih =>
    intro a i hf ha hai hi h47
    unfold pieces
    have hne : s.extract 0 (a - 1) ≠ ⟨#[]⟩ := by
      intro e
      have := congrArg (fun x : ByteArray => x.size) e
      simp only [ByteArray.size_extract] at this
      have h0 : (⟨#[]⟩ : ByteArray).size = 0 := rfl
      omega
    have hjoin : joinB (s.extract 0 (a - 1)) (s.extract a i) = s.extract 0 i := by
      apply ba_ext
      rw [joinB_list _ _ hne, extract_list, extract_list, extract_list]
      simp only [List.drop_zero, Nat.sub_zero]
      have e1 : s.data.toList.drop (a - 1) = 47 :: s.data.toList.drop a := by
        have hlt : a - 1 < s.data.toList.length := (List.getElem?_eq_some_iff.1 h47).1
        rw [List.drop_eq_getElem_cons hlt, (List.getElem?_eq_some_iff.1 h47).2, show a - 1 + 1 = a by omega]
      have e2 : s.data.toList.take i = s.data.toList.take (a - 1) ++ (s.data.toList.drop (a - 1)).take (i - (a - 1)) := by
        rw [← List.take_add, show a - 1 + (i - (a - 1)) = i by omega]
      rw [e2, e1, show i - (a - 1) = (i - a) + 1 by omega, List.take_succ_cons]
    split
    · rename_i hc
      exact ih a (i + 1) (by omega) ha (by omega) (by omega) h47
    · rename_i hc
      rw [List.foldl_cons, hjoin]
      by_cases hlt : i < s.size
      · have h : s.data.toList[i]? = some 47 := by
          have hl : i < s.data.toList.length := by rw [size_list]; exact hlt
          have : (textOf s).getD i 0 = 47 := by
            refine Classical.byContradiction fun h => hc ⟨hlt, h⟩
          rw [text_get, List.getElem?_eq_getElem hl] at this
          rw [List.getElem?_eq_getElem hl]
          congr 1
          exact UInt8.toNat_inj.1 (by simpa using this)
        have := ih (i + 1) (i + 1) (by omega) (by omega) (Nat.le_refl _) (by omega) (by simpa using h)
        simpa using this
      · have ei : i = s.size := by omega
        have ef : f = 0 := by omega
        subst ef
        rw [pieces, List.foldl_nil, ei]
        exact extract_all s
theorem pieces_first (s : ByteArray) : ∀ (f i : Nat), f = s.size + 1 - i → i ≤ s.size → allNames (pieces s f 0 i) = true → (pieces s f 0 i).foldl joinB ⟨#[]⟩ = s := by
  intro f
  induction f with
  | zero => intro i hf hi _; omega
  | succ f ih =>
    intro i hf hi hn
    unfold pieces at hn ⊢
    split
    · rename_i hc
      rw [if_pos hc] at hn
      exact ih (i + 1) (by omega) (by omega) hn
    · rename_i hc
      rw [if_neg hc] at hn
      rw [List.foldl_cons, joinB_nil]
      have hname : isName (textOf (s.extract 0 i)) = true := by
        unfold allNames at hn
        rw [List.all_cons, Bool.and_eq_true] at hn
        exact hn.1
      have hpos := name_pos hname
      rw [ByteArray.size_extract] at hpos
      by_cases hlt : i < s.size
      · have h : s.data.toList[i]? = some 47 := by
          have hl : i < s.data.toList.length := by rw [size_list]; exact hlt
          have : (textOf s).getD i 0 = 47 := by
            refine Classical.byContradiction fun h => hc ⟨hlt, h⟩
          rw [text_get, List.getElem?_eq_getElem hl] at this
          rw [List.getElem?_eq_getElem hl]
          congr 1
          exact UInt8.toNat_inj.1 (by simpa using this)
        have := pieces_join s f (i + 1) (i + 1) (by omega) (by omega) (Nat.le_refl _) (by omega) (by simpa using h)
        simpa using this
      · have ei : i = s.size := by omega
        have ef : f = 0 := by omega
        subst ef
        rw [pieces, List.foldl_nil, ei]
        exact extract_all s
theorem names_join (s : ByteArray) (h : (namesOf s).2 = true) : pathOf (namesOf s).1 = s := by
  unfold namesOf at h ⊢
  split
  · rename_i h0; rw [h0]; rfl
  · rename_i h0
    rw [if_neg h0] at h
    split
    · rename_i h1
      exact pieces_first s _ 0 rfl (Nat.zero_le _) h1
    · rename_i h1
      rw [if_neg h1] at h
      simp at h
theorem names_are (s : ByteArray) : ∀ n ∈ (namesOf s).1, isName (textOf n) = true := by
  unfold namesOf
  split
  · simp
  · split
    · rename_i h
      exact fun n hn => List.all_eq_true.1 h n hn
    · simp
theorem list_last {α : Type} (l : List α) (h : l.length ≠ 0) : ∃ n, n ∈ l ∧ l = l.take (l.length - 1) ++ [n] := by
  have hne : l ≠ [] := by rintro rfl; exact h rfl
  refine ⟨l.getLast hne, List.getLast_mem hne, ?_⟩
  conv => lhs; rw [← List.dropLast_concat_getLast hne]
  rw [List.dropLast_eq_take]
/-- A path below the root: the directory's, and the name behind it. -/
theorem names_split (s : ByteArray) (h : (namesOf s).2 = true) (h0 : (namesOf s).1.length ≠ 0) : ∃ n, (namesOf s).1 = (namesOf s).1.take ((namesOf s).1.length - 1) ++ [n] ∧ isName (textOf n) = true ∧ s = joinB (upJoin (namesOf s).1) n := by
  obtain ⟨n, hn, e⟩ := list_last (namesOf s).1 h0
  refine ⟨n, e, names_are s _ hn, ?_⟩
  have hj := names_join s h
  rw [e, pathOf_snoc] at hj
  exact hj.symm
end Go.Proofs.YtdidjdoifpfmmaaGreatDoor
