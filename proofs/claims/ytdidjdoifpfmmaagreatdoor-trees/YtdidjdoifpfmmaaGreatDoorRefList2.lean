import Derived.Test.YtdidjdoifpfmmaaGreatDoorGT25
import Derived.Test.YtdidjdoifpfmmaaGreatDoorGT7
import Derived.Deep.RegionHeld3
import Derived.Deep.RegionWith
import Derived.Deep.RegionLaw
import Derived.Deep.AppendLies
/- The document's List of the tree, where it answers. -/
namespace Go.Proofs.YtdidjdoifpfmmaaGreatDoor
open Go.RowKit
structure En where
  name : ByteArray
  dir : Bool
  size : Nat
def En.cells (x : En) : List Value := [.string x.name, .bool x.dir, .int .i64 (x.size : Nat)]
def enCells (l : List En) : List Value := l.flatMap En.cells
theorem enCells_length (l : List En) : (enCells l).length = l.length * 3 := flat_length _ 3 l fun _ _ => rfl
def enOf (L : List It) (s k : ByteArray) : En := ⟨k, dirAt L (findAt L (joinB s k)), (datAt L (findAt L (joinB s k))).size⟩
theorem own_inside {w : World} {B : Nat} {e : TypeId} {size : Nat} {v : Value} {n : Nat} {xs : List Value} (h : w.ownsRow B e size v n xs) : ∀ k, v.ownBlock = some k → k < w.heap.size := by
  intro k hk
  rcases h.2 with ⟨hv, h0⟩ | ⟨g, cap, cur, hv, _, hb, _⟩
  · rw [hv] at hk; cases hk
  · rw [hv] at hk
    have : g = k := by simpa [Value.ownBlock] using hk
    subst this
    exact (Array.getElem?_eq_some_iff.1 hb).1
theorem entInfo : (Tryz.prog.info? 233).map (fun i => (i.zero, i.size, i.bytes)) = some (some (.agg #[.string ByteArray.empty, .bool false, .int .i64 0]), 3, 32) := by kernel_rfl
set_option maxRecDepth 100000 in
set_option maxHeartbeats 8000000 in
theorem refListT_ok (L : List It) (s : ByteArray) (v : Value) (q : Nat) (w : World) (h : TreeOwn w v L) (c7 : w.cell? ⟨q, 7, none⟩ = some v) (hl : L.length ≤ 30000) (hs : s.size ≤ 1000000) (hsz : ∀ x ∈ L, x.path.size ≤ 1000000) (hds : ∀ x ∈ L, x.data.size ≤ 9223372036854775807) (hne : listErr L s = 0)
    (hk : ∀ k ∈ kidsFold s L, k.size ≤ 1000000 ∧ ∃ i, i < L.length ∧ findAt L (joinB s k) = (i : Nat)) (hkl : (kidsFold s L).length ≤ 40000) :
    Calls Tryz.prog 133 #[.pointer (some ⟨q, 0, none⟩), .int .i64 0, .string s] w fun e w' => ∃ lv, e = .returned (.tuple #[lv, .int .i64 0, .int .i64 (-1)]) ∧ w'.ownsRow w.heap.size 233 3 lv (kidsFold s L).length (enCells ((kidsFold s L).map (enOf L s))) ∧ Below w.heap.size w w' := by
  have hN := refNames_any s w hs
  have hI := itsAt_of h
  have hql := World.block_lt_of_cell? w _ c7
  have C7 : Hid (∀ w1, Below w.heap.size w w1 → w1.cell? ⟨q, 7, none⟩ = some v) := fun w1 hb => by rw [hb.cell hql]; exact c7
  obtain ⟨av, cv, hv⟩ : ∃ av cv, v = .slice av L.length cv := slice_formR h
  have HKi : Hid (∀ w1, Below w.heap.size w w1 → Calls Tryz.prog 197 #[v, .string s] w1 fun e w' => ∃ kv, e = .returned kv ∧ w'.ownsRow w1.heap.size 9 1 kv (kidsFold s L).length (strs (kidsFold s L)) ∧ Below w1.heap.size w1 w') := fun w1 hb => refKids_any L s v w1 (hI.below hb (Nat.le_refl _)) (by omega) hsz
  have HJo : Hid (∀ k w1, k.size ≤ 1000000 → Calls Tryz.prog 199 #[.string s, .string k] w1 fun e w' => e = .returned (.string (joinB s k)) ∧ w1 = w') := fun k w1 hk => refJoin_any s k w1 hs hk
  have HFd : Hid (∀ p w1, Below w.heap.size w w1 → Calls Tryz.prog 195 #[v, .string p] w1 fun e w' => e = .returned (.int .i64 (findAt L p)) ∧ w1 = w') := fun p w1 hb => refFind_any L p v w1 (hI.below hb (Nat.le_refl _)) (by omega)
  have hok : (namesOf s).2 = true := by
    cases hx : (namesOf s).2 with
    | true => rfl
    | false => unfold listErr at hne; rw [if_pos hx] at hne; omega
  rw [hok] at hN
  have hfew := names_few s hok
  have hns := names_sizes s
  have HF : Hid (∀ w1 nv, Below w.heap.size w w1 → StrsAt w1 nv (namesOf s).1 → Calls Tryz.prog 202 #[v, nv] w1 fun e w' => e = .returned (.tuple #[.int .i64 (findF L ⟨#[]⟩ (-1) (namesOf s).1).1, .int .i64 ((findF L ⟨#[]⟩ (-1) (namesOf s).1).2 : Nat)]) ∧ w1 = w') :=
    fun w1 nv hb hnv => refFindN_any L (namesOf s).1 v nv w1 (hI.below hb (Nat.le_refl _)) hnv (by omega) (by omega) (fun x hx => Nat.le_trans (hns x hx) (by decide))
  have hr : (if (findF L ⟨#[]⟩ (-1) (namesOf s).1).2 ≠ 0 then (findF L ⟨#[]⟩ (-1) (namesOf s).1).2 else if 0 ≤ (findF L ⟨#[]⟩ (-1) (namesOf s).1).1 ∧ dirAt L (findF L ⟨#[]⟩ (-1) (namesOf s).1).1 = false then 7 else 0) = 0 := by
    unfold listErr at hne
    rw [if_neg (by rw [hok]; decide)] at hne
    exact hne
  have hrange := findF_range L (namesOf s).1 ⟨#[]⟩ (-1) (.inl rfl)
  generalize findF L ⟨#[]⟩ (-1) (namesOf s).1 = F at *
  obtain ⟨fa, fe⟩ := F
  simp only at hrange hr HF
  have HT : Hid (TreeOwn w v L) := h
  have HK : Hid _ := hk
  clear h hI c7 hfew hns hne hk hok hsz
  subst hv
  have he0 : fe = 0 := by
    by_cases hx : fe = 0
    · exact hx
    · rw [if_pos hx] at hr; exact hr
  subst he0
  rw [if_neg (by simp)] at hr
  rcases hrange rfl with rfl | ⟨i9, hi9, rfl⟩
  · clear hr hrange
    go_enter Tryz.func133, Tryz.ntmps133
    go_wp2_with (first
      | (go_at_call 193; refine hN.mono ?_; rintro e w1 ⟨nv, rfl, ho, hb⟩; have hF := HF.out w1 nv hb (strsAt_of ho); have cc := C7.out w1 hb; clear ho hN)
      | (go_at_call 202; refine hF.mono ?_; rintro e w2 ⟨rfl, rfl⟩; clear hF; have hKi := HKi.out w1 hb)
      | (go_at_call 197; refine hKi.mono ?_; rintro e w3 ⟨kv, rfl, hkv, hb3⟩; clear hKi; have hb4 := hb.trans (hb3.mono hb.size)))
    have HKv : Hid _ := hkv
    obtain ⟨ak, ck, rfl⟩ : ∃ ak ck, kv = .slice ak (kidsFold s L).length ck := slice_formR hkv
    clear hkv
    obtain ⟨i0, hi0, hz0, hz1, hz2⟩ := info_parts entInfo
    have HB4 : Hid _ := hb4
    clear hb4 hb3 hb cc
    generalize hKK : kidsFold s L = K at *
    go_loopw [9, 15] (fun ov iv wr => ∃ (j : Nat) (ao : Option Addr) (co : Nat), ov = .slice ao j co ∧ iv = .int .i64 j ∧ j ≤ K.length ∧ wr.ownsRow w.heap.size 233 3 (.slice ao j co) j (enCells ((K.take j).map (enOf L s))) ∧ Below w3.heap.size w3 wr ∧ (∀ n, ao = some n → w3.heap.size ≤ n.block)) (fun _ iv _ => K.length - (intOf iv).toNat)
    case atStart => exact ⟨0, none, 0, rfl, rfl, Nat.zero_le _, World.ownsRow_nil _ _ _ _, Below.refl _ _, by simp⟩
    case round =>
      obtain ⟨j, ao, co, rfl, rfl, hjl, ho, hbr, hao⟩ := hrel
      by_cases hlt : j < K.length
      · have j0 : (0 : Int) ≤ (j : Int) := by omega
        have j1 : (j : Int) < (K.length : Int) := by omega
        obtain ⟨gk, ckk, hvk, _, hgk⟩ := World.ownsRow.form HKv.out (by omega)
        simp only [Value.slice.injEq] at hvk
        obtain ⟨rfl, _, rfl⟩ := hvk
        obtain ⟨hkz, i, hi, hfi⟩ := HK.out K[j] (List.getElem_mem hlt)
        have HO : Hid _ := ho
        have HBr : Hid _ := hbr
        have bw : Hid (Below w.heap.size w wr) := HB4.out.trans (hbr.mono HB4.out.size)
        have hJ := HJo.out K[j] wr hkz
        have HFe : Hid (∀ w1, Below w.heap.size w w1 → Calls Tryz.prog 195 #[.slice av L.length cv, .string (joinB s K[j])] w1 fun e w' => e = .returned (.int .i64 (i : Nat)) ∧ w1 = w') := fun w1 hb => by rw [← hfi]; exact HFd.out _ w1 hb
        have ck : wr.cell? ⟨gk, j, none⟩ = some (.string K[j]) := by
          obtain ⟨hh, _, _⟩ := has_of_owns (owns_base HKv.out)
          rw [hbr.cell hgk, hh.cell j (by rw [strs_length]; exact hlt)]
          simp [strs, hlt]
        have cc := C7.out wr bw.out
        obtain ⟨gt, cap, hvv, _, hgl⟩ := World.ownsRow.form HT.out (by omega)
        simp only [Value.slice.injEq] at hvv
        obtain ⟨rfl, _, rfl⟩ := hvv
        obtain ⟨hh, _, _⟩ := has_of_owns (TreeOwn.below (L := L) (v := .slice (some ⟨gt, 0, none⟩) L.length cv) HT.out bw.out)
        have q0 := hh.cell (i * 3 + 0) (by rw [itCells_length]; omega)
        have q1 := hh.cell (i * 3 + 1) (by rw [itCells_length]; omega)
        have q2 := hh.cell (i * 3 + 2) (by rw [itCells_length]; omega)
        rw [itCells_get L i hi 0 (by decide)] at q0
        rw [itCells_get L i hi 1 (by decide)] at q1
        rw [itCells_get L i hi 2 (by decide)] at q2
        have r0 : wr.cell? ⟨gt, i * 3, none⟩ = some (.string L[i].path) := q0
        have r1 : wr.cell? ⟨gt, i * 3 + 1, none⟩ = some (.bool L[i].dir) := q1
        have r2 : wr.cell? ⟨gt, i * 3 + 2, none⟩ = some (.string L[i].data) := q2
        have i0' : (0 : Int) ≤ (i : Int) := by omega
        have i1' : (i : Int) < (L.length : Int) := by omega
        clear hh q0 q1 q2 ho hbr
        have HE : Hid (enCells ((K.take (j + 1)).map (enOf L s)) = enCells ((K.take j).map (enOf L s)) ++ [.string K[j], .bool L[i].dir, .int .i64 (L[i].data.size : Nat)]) := by
          show _ = _
          have e1 : enOf L s K[j] = ⟨K[j], L[i].dir, L[i].data.size⟩ := by
            unfold enOf
            rw [hfi]
            have hda : dirAt L (i : Nat) = L[i].dir := by unfold dirAt; rw [Int.toNat_natCast, List.getElem?_eq_getElem hi]; rfl
            have hdt : datAt L (i : Nat) = L[i].data := by unfold datAt; rw [Int.toNat_natCast, List.getElem?_eq_getElem hi]; rfl
            rw [hda, hdt]
          rw [List.take_succ_eq_append_getElem hlt, List.map_append, List.map_singleton, e1]
          simp [enCells, En.cells]
        have ngk : some gk ≠ (Value.slice ao j co).ownBlock := by
          intro e
          cases ao with
          | none => cases e
          | some n =>
            have h1 := hao n rfl
            have : gk = n.block := by simpa [Value.ownBlock] using e
            omega
        have ngx : some wr.heap.size ≠ (Value.slice ao j co).ownBlock := by
          intro e
          have := own_inside HO.out _ e.symm
          omega
        have hgkx : gk < wr.heap.size := World.block_lt_of_cell? wr _ ck
        have HAo : Hid _ := hao
        have HDs : L[i].data.size ≤ 9223372036854775807 := hds L[i] (List.getElem_mem hi)
        clear hao hfi
        generalize joinB s K[j] = pj at *
        generalize K[j] = kj at *
        go_wp2_with (go_at_call 199; refine hJ.mono ?_; rintro e w5 ⟨rfl, rfl⟩; clear hJ)
        have hgw : gt < wr.heap.size := World.block_lt_of_cell? wr _ r0
        have hqw : q < wr.heap.size := World.block_lt_of_cell? wr _ cc
        go_region_held3 (fun w' => w'.cell? ⟨q, 7, none⟩ = some (.slice (some ⟨gt, 0, none⟩) L.length cv) ∧ w'.cell? ⟨gt, i * 3, none⟩ = some (.string L[i].path) ∧ w'.cell? ⟨gt, i * 3 + 1, none⟩ = some (.bool L[i].dir) ∧ w'.cell? ⟨gt, i * 3 + 2, none⟩ = some (.string L[i].data) ∧ Below w.heap.size w w') ((first | exact ⟨cc, r0, r1, r2, bw.out⟩ | exact ⟨cc, r0, r1, r2, bw.out.drew⟩ | (go_split_ands; refine ⟨by go_keep, by go_keep, by go_keep, by go_keep, by first | assumption | exact (bw.out.alloc bw.out.size _).drew | exact Below.drew (by assumption) | exact Below.alloc (by assumption) (Below.size (by assumption)) _⟩))) ((go_at_call 195; go_split_ands; refine Calls.mono (HFe.out _ (by assumption)) ?_; rintro e w6 ⟨rfl, rfl⟩))
        all_goals
          have bw6 : Hid (Below w.heap.size w (wr.alloc (.cells #[.string L[i].path, .bool L[i].dir, .string L[i].data] 308)).drew) := (bw.out.alloc bw.out.size _).drew
          have d1 : (wr.alloc (.cells #[.string L[i].path, .bool L[i].dir, .string L[i].data] 308)).drew.cell? ⟨wr.heap.size, 1, none⟩ = some (.bool L[i].dir) := (RowIs.new wr 308 [.string L[i].path, .bool L[i].dir, .string L[i].data]).cell 1
          have d2 : (wr.alloc (.cells #[.string L[i].path, .bool L[i].dir, .string L[i].data] 308)).drew.cell? ⟨wr.heap.size, 2, none⟩ = some (.string L[i].data) := (RowIs.new wr 308 [.string L[i].path, .bool L[i].dir, .string L[i].data]).cell 2
          have dk : (wr.alloc (.cells #[.string L[i].path, .bool L[i].dir, .string L[i].data] 308)).drew.cell? ⟨gk, j, none⟩ = some (.string kj) := by
            have := (Below.refl wr.heap.size wr).alloc (Nat.le_refl _) (.cells #[.string L[i].path, .bool L[i].dir, .string L[i].data] 308)
            exact (this.cell (World.block_lt_of_cell? wr _ ck)).trans ck
          have HO6 : Hid ((wr.alloc (.cells #[.string L[i].path, .bool L[i].dir, .string L[i].data] 308)).drew.ownsRow w.heap.size 233 3 (.slice ao j co) j (enCells ((K.take j).map (enOf L s)))) := World.ownsRow.alloc HO.out _
          have HW6 : Hid ((wr.alloc (.cells #[.string L[i].path, .bool L[i].dir, .string L[i].data] 308)).drew.heap.size = wr.heap.size + 1) := by show _ = _; simp
          have b36 : Hid (Below w3.heap.size w3 (wr.alloc (.cells #[.string L[i].path, .bool L[i].dir, .string L[i].data] 308)).drew) := (HBr.out.alloc HBr.out.size _).drew
          generalize (wr.alloc (.cells #[.string L[i].path, .bool L[i].dir, .string L[i].data] 308)).drew = W6 at *
          have hgs : Hid (w3.heap.size ≤ wr.heap.size) := HBr.out.size
          have hws : Hid (w.heap.size ≤ wr.heap.size) := bw.out.size
          generalize wr.heap.size = gx at *
          have hjj : j ≤ 40000 := by omega
          have hb6 := bw6.out.size
          generalize enCells ((K.take j).map (enOf L s)) = xs at *
          go_wp2
          go_region_held3 (fun w' => w'.cell? ⟨gk, j, none⟩ = some (.string kj) ∧ w'.cell? ⟨gx, 1, none⟩ = some (.bool L[i].dir) ∧ w'.cell? ⟨gx, 2, none⟩ = some (.string L[i].data)) ((first | exact ⟨dk, d1, d2⟩ | (go_split_ands; refine ⟨by go_keep, by go_keep, by go_keep⟩) | (go_split_ands; refine ⟨by rw [hgrow.cell_far _ (by have := HW6.out; simp; omega) ngk]; assumption, by rw [hgrow.cell_far _ (by have := HW6.out; simp; omega) ngx]; assumption, by rw [hgrow.cell_far _ (by have := HW6.out; simp; omega) ngx]; assumption⟩))) ((refine step_append_lies _ (by rfl) _ _ _ (by rfl) w.heap.size 233 i0 _ 3 32 Tryz.underlying230 hi0 hz0 hz1 hz2 rfl (by omega) (.slice ao j co) j xs (by rfl) ((HO6.out.alloc _).drew) ⟨W6.heap.size, 0, none⟩ 1 1 [.string kj, .bool L[i].dir, .int .i64 (L[i].data.size : Nat)] (by rfl) (by rfl) (World.news_of_block (cs := #[.string kj, .bool L[i].dir, .int .i64 (L[i].data.size : Nat)]) (t := 233) (fr := (0, 0)) (heap_alloc_new W6 _)) (by simp [Value.oneCell']) (by omega) (by unfold maxLen; omega) (by omega) (by simp; omega) (W6.heap.size + 1) (by simp) ?_; intro gg cap w7 hown hgrow hat hlt7))
          go_wp2
          refine ⟨⟨j + 1, some ⟨gg, 0, none⟩, cap, rfl, by go_num, by omega, by rw [HE.out]; exact hown, ?_, ?_⟩, by simp [intOf]; omega⟩
          · have hszz := b36.out.size
            refine ⟨hgrow.os.trans b36.out.os, hgrow.tape.trans b36.out.tape, hgrow.output.trans b36.out.output, by have h2 := hgrow.size; simp at h2; omega, fun n hn => ?_⟩
            refine (hgrow.block n (by simp; omega) (fun e => ?_)).trans (Eq.trans (by first | exact heap_alloc_old _ _ (by omega) | exact heap_alloc_old _ _ _ (by omega)) (b36.out.block n hn))
            cases ao with
            | none => cases e
            | some m =>
              have h1 := HAo.out m rfl
              have : n = m.block := by simpa [Value.ownBlock] using e
              omega
          · intro m hm
            cases hm
            show w3.heap.size ≤ gg
            rcases hat with e | e
            · cases ao with
              | none => cases e
              | some m =>
                have h1 := HAo.out m rfl
                have : m.block = gg := by simpa [Value.ownBlock] using e
                omega
            · have := b36.out.size
              omega
      · have ej : j = K.length := by omega
        subst ej
        have HO : Hid _ := ho
        have HBr : Hid _ := hbr
        clear ho hbr
        have kk1 : ¬ (K.length : Int) < (K.length : Int) := by omega
        go_wp2
        refine bodyPost_ret (results_tmp3 rfl _ _ _) rfl ?_
        refine ⟨_, rfl, ?_, HB4.out.trans (HBr.out.mono HB4.out.size)⟩
        have := HO.out
        rw [List.take_length] at this
        exact this
  · have hda : dirAt L (i9 : Nat) = L[i9].dir := by unfold dirAt; rw [Int.toNat_natCast, List.getElem?_eq_getElem hi9]; rfl
    have n0 : (0 : Int) ≤ (i9 : Int) := by omega
    have n1 : (i9 : Int) < (L.length : Int) := by omega
    rw [hda] at hr
    have hdd : L[i9].dir = true := by
      cases hx : L[i9].dir with
      | true => rfl
      | false => rw [if_pos ⟨n0, hx⟩] at hr; omega
    obtain ⟨gt, cap, hvv, _, hgl⟩ := World.ownsRow.form HT.out (by omega)
    simp only [Value.slice.injEq] at hvv
    obtain ⟨rfl, _, rfl⟩ := hvv
    have CI : Hid (∀ w1, Below w.heap.size w w1 → w1.cell? ⟨gt, i9 * 3 + 1, none⟩ = some (.bool true)) := fun w1 hb => by
      obtain ⟨hh, _, _⟩ := has_of_owns (TreeOwn.below (L := L) (v := .slice (some ⟨gt, 0, none⟩) L.length cv) HT.out hb)
      rw [hh.cell _ (by rw [itCells_length]; omega), itCells_get L i9 hi9 1 (by decide), ← hdd]; rfl
    clear hr hrange hda hdd
    go_enter Tryz.func133, Tryz.ntmps133
    go_wp2_with (first
      | (go_at_call 193; refine hN.mono ?_; rintro e w1 ⟨nv, rfl, ho, hb⟩; have hF := HF.out w1 nv hb (strsAt_of ho); have cc := C7.out w1 hb; have ci := CI.out w1 hb; clear ho hN)
      | (go_at_call 202; refine hF.mono ?_; rintro e w2 ⟨rfl, rfl⟩; clear hF; have hKi := HKi.out w1 hb)
      | (go_at_call 197; refine hKi.mono ?_; rintro e w3 ⟨kv, rfl, hkv, hb3⟩; clear hKi; have hb4 := hb.trans (hb3.mono hb.size)))
    have HKv : Hid _ := hkv
    obtain ⟨ak, ck, rfl⟩ : ∃ ak ck, kv = .slice ak (kidsFold s L).length ck := slice_formR hkv
    clear hkv
    obtain ⟨i0, hi0, hz0, hz1, hz2⟩ := info_parts entInfo
    have HB4 : Hid _ := hb4
    clear hb4 hb3 hb cc ci
    generalize hKK : kidsFold s L = K at *
    go_loopw [9, 15] (fun ov iv wr => ∃ (j : Nat) (ao : Option Addr) (co : Nat), ov = .slice ao j co ∧ iv = .int .i64 j ∧ j ≤ K.length ∧ wr.ownsRow w.heap.size 233 3 (.slice ao j co) j (enCells ((K.take j).map (enOf L s))) ∧ Below w3.heap.size w3 wr ∧ (∀ n, ao = some n → w3.heap.size ≤ n.block)) (fun _ iv _ => K.length - (intOf iv).toNat)
    case atStart => exact ⟨0, none, 0, rfl, rfl, Nat.zero_le _, World.ownsRow_nil _ _ _ _, Below.refl _ _, by simp⟩
    case round =>
      obtain ⟨j, ao, co, rfl, rfl, hjl, ho, hbr, hao⟩ := hrel
      by_cases hlt : j < K.length
      · have j0 : (0 : Int) ≤ (j : Int) := by omega
        have j1 : (j : Int) < (K.length : Int) := by omega
        obtain ⟨gk, ckk, hvk, _, hgk⟩ := World.ownsRow.form HKv.out (by omega)
        simp only [Value.slice.injEq] at hvk
        obtain ⟨rfl, _, rfl⟩ := hvk
        obtain ⟨hkz, i, hi, hfi⟩ := HK.out K[j] (List.getElem_mem hlt)
        have HO : Hid _ := ho
        have HBr : Hid _ := hbr
        have bw : Hid (Below w.heap.size w wr) := HB4.out.trans (hbr.mono HB4.out.size)
        have hJ := HJo.out K[j] wr hkz
        have HFe : Hid (∀ w1, Below w.heap.size w w1 → Calls Tryz.prog 195 #[.slice (some ⟨gt, 0, none⟩) L.length cv, .string (joinB s K[j])] w1 fun e w' => e = .returned (.int .i64 (i : Nat)) ∧ w1 = w') := fun w1 hb => by rw [← hfi]; exact HFd.out _ w1 hb
        have ck : wr.cell? ⟨gk, j, none⟩ = some (.string K[j]) := by
          obtain ⟨hh, _, _⟩ := has_of_owns (owns_base HKv.out)
          rw [hbr.cell hgk, hh.cell j (by rw [strs_length]; exact hlt)]
          simp [strs, hlt]
        have cc := C7.out wr bw.out
        obtain ⟨hh, _, _⟩ := has_of_owns (TreeOwn.below (L := L) (v := .slice (some ⟨gt, 0, none⟩) L.length cv) HT.out bw.out)
        have q0 := hh.cell (i * 3 + 0) (by rw [itCells_length]; omega)
        have q1 := hh.cell (i * 3 + 1) (by rw [itCells_length]; omega)
        have q2 := hh.cell (i * 3 + 2) (by rw [itCells_length]; omega)
        rw [itCells_get L i hi 0 (by decide)] at q0
        rw [itCells_get L i hi 1 (by decide)] at q1
        rw [itCells_get L i hi 2 (by decide)] at q2
        have r0 : wr.cell? ⟨gt, i * 3, none⟩ = some (.string L[i].path) := q0
        have r1 : wr.cell? ⟨gt, i * 3 + 1, none⟩ = some (.bool L[i].dir) := q1
        have r2 : wr.cell? ⟨gt, i * 3 + 2, none⟩ = some (.string L[i].data) := q2
        have i0' : (0 : Int) ≤ (i : Int) := by omega
        have i1' : (i : Int) < (L.length : Int) := by omega
        clear hh q0 q1 q2 ho hbr
        have HE : Hid (enCells ((K.take (j + 1)).map (enOf L s)) = enCells ((K.take j).map (enOf L s)) ++ [.string K[j], .bool L[i].dir, .int .i64 (L[i].data.size : Nat)]) := by
          show _ = _
          have e1 : enOf L s K[j] = ⟨K[j], L[i].dir, L[i].data.size⟩ := by
            unfold enOf
            rw [hfi]
            have hda : dirAt L (i : Nat) = L[i].dir := by unfold dirAt; rw [Int.toNat_natCast, List.getElem?_eq_getElem hi]; rfl
            have hdt : datAt L (i : Nat) = L[i].data := by unfold datAt; rw [Int.toNat_natCast, List.getElem?_eq_getElem hi]; rfl
            rw [hda, hdt]
          rw [List.take_succ_eq_append_getElem hlt, List.map_append, List.map_singleton, e1]
          simp [enCells, En.cells]
        have ngk : some gk ≠ (Value.slice ao j co).ownBlock := by
          intro e
          cases ao with
          | none => cases e
          | some n =>
            have h1 := hao n rfl
            have : gk = n.block := by simpa [Value.ownBlock] using e
            omega
        have ngx : some wr.heap.size ≠ (Value.slice ao j co).ownBlock := by
          intro e
          have := own_inside HO.out _ e.symm
          omega
        have hgkx : gk < wr.heap.size := World.block_lt_of_cell? wr _ ck
        have HAo : Hid _ := hao
        have HDs : L[i].data.size ≤ 9223372036854775807 := hds L[i] (List.getElem_mem hi)
        clear hao hfi
        generalize joinB s K[j] = pj at *
        generalize K[j] = kj at *
        go_wp2_with (go_at_call 199; refine hJ.mono ?_; rintro e w5 ⟨rfl, rfl⟩; clear hJ)
        have hgw : gt < wr.heap.size := World.block_lt_of_cell? wr _ r0
        have hqw : q < wr.heap.size := World.block_lt_of_cell? wr _ cc
        go_region_held3 (fun w' => w'.cell? ⟨q, 7, none⟩ = some (.slice (some ⟨gt, 0, none⟩) L.length cv) ∧ w'.cell? ⟨gt, i * 3, none⟩ = some (.string L[i].path) ∧ w'.cell? ⟨gt, i * 3 + 1, none⟩ = some (.bool L[i].dir) ∧ w'.cell? ⟨gt, i * 3 + 2, none⟩ = some (.string L[i].data) ∧ Below w.heap.size w w') ((first | exact ⟨cc, r0, r1, r2, bw.out⟩ | exact ⟨cc, r0, r1, r2, bw.out.drew⟩ | (go_split_ands; refine ⟨by go_keep, by go_keep, by go_keep, by go_keep, by first | assumption | exact (bw.out.alloc bw.out.size _).drew | exact Below.drew (by assumption) | exact Below.alloc (by assumption) (Below.size (by assumption)) _⟩))) ((go_at_call 195; go_split_ands; refine Calls.mono (HFe.out _ (by assumption)) ?_; rintro e w6 ⟨rfl, rfl⟩))
        all_goals
          have bw6 : Hid (Below w.heap.size w (wr.alloc (.cells #[.string L[i].path, .bool L[i].dir, .string L[i].data] 308)).drew) := (bw.out.alloc bw.out.size _).drew
          have d1 : (wr.alloc (.cells #[.string L[i].path, .bool L[i].dir, .string L[i].data] 308)).drew.cell? ⟨wr.heap.size, 1, none⟩ = some (.bool L[i].dir) := (RowIs.new wr 308 [.string L[i].path, .bool L[i].dir, .string L[i].data]).cell 1
          have d2 : (wr.alloc (.cells #[.string L[i].path, .bool L[i].dir, .string L[i].data] 308)).drew.cell? ⟨wr.heap.size, 2, none⟩ = some (.string L[i].data) := (RowIs.new wr 308 [.string L[i].path, .bool L[i].dir, .string L[i].data]).cell 2
          have dk : (wr.alloc (.cells #[.string L[i].path, .bool L[i].dir, .string L[i].data] 308)).drew.cell? ⟨gk, j, none⟩ = some (.string kj) := by
            have := (Below.refl wr.heap.size wr).alloc (Nat.le_refl _) (.cells #[.string L[i].path, .bool L[i].dir, .string L[i].data] 308)
            exact (this.cell (World.block_lt_of_cell? wr _ ck)).trans ck
          have HO6 : Hid ((wr.alloc (.cells #[.string L[i].path, .bool L[i].dir, .string L[i].data] 308)).drew.ownsRow w.heap.size 233 3 (.slice ao j co) j (enCells ((K.take j).map (enOf L s)))) := World.ownsRow.alloc HO.out _
          have HW6 : Hid ((wr.alloc (.cells #[.string L[i].path, .bool L[i].dir, .string L[i].data] 308)).drew.heap.size = wr.heap.size + 1) := by show _ = _; simp
          have b36 : Hid (Below w3.heap.size w3 (wr.alloc (.cells #[.string L[i].path, .bool L[i].dir, .string L[i].data] 308)).drew) := (HBr.out.alloc HBr.out.size _).drew
          generalize (wr.alloc (.cells #[.string L[i].path, .bool L[i].dir, .string L[i].data] 308)).drew = W6 at *
          have hgs : Hid (w3.heap.size ≤ wr.heap.size) := HBr.out.size
          have hws : Hid (w.heap.size ≤ wr.heap.size) := bw.out.size
          generalize wr.heap.size = gx at *
          have hjj : j ≤ 40000 := by omega
          have hb6 := bw6.out.size
          generalize enCells ((K.take j).map (enOf L s)) = xs at *
          go_wp2
          go_region_held3 (fun w' => w'.cell? ⟨gk, j, none⟩ = some (.string kj) ∧ w'.cell? ⟨gx, 1, none⟩ = some (.bool L[i].dir) ∧ w'.cell? ⟨gx, 2, none⟩ = some (.string L[i].data)) ((first | exact ⟨dk, d1, d2⟩ | (go_split_ands; refine ⟨by go_keep, by go_keep, by go_keep⟩) | (go_split_ands; refine ⟨by rw [hgrow.cell_far _ (by have := HW6.out; simp; omega) ngk]; assumption, by rw [hgrow.cell_far _ (by have := HW6.out; simp; omega) ngx]; assumption, by rw [hgrow.cell_far _ (by have := HW6.out; simp; omega) ngx]; assumption⟩))) ((refine step_append_lies _ (by rfl) _ _ _ (by rfl) w.heap.size 233 i0 _ 3 32 Tryz.underlying230 hi0 hz0 hz1 hz2 rfl (by omega) (.slice ao j co) j xs (by rfl) ((HO6.out.alloc _).drew) ⟨W6.heap.size, 0, none⟩ 1 1 [.string kj, .bool L[i].dir, .int .i64 (L[i].data.size : Nat)] (by rfl) (by rfl) (World.news_of_block (cs := #[.string kj, .bool L[i].dir, .int .i64 (L[i].data.size : Nat)]) (t := 233) (fr := (0, 0)) (heap_alloc_new W6 _)) (by simp [Value.oneCell']) (by omega) (by unfold maxLen; omega) (by omega) (by simp; omega) (W6.heap.size + 1) (by simp) ?_; intro gg cap w7 hown hgrow hat hlt7))
          go_wp2
          refine ⟨⟨j + 1, some ⟨gg, 0, none⟩, cap, rfl, by go_num, by omega, by rw [HE.out]; exact hown, ?_, ?_⟩, by simp [intOf]; omega⟩
          · have hszz := b36.out.size
            refine ⟨hgrow.os.trans b36.out.os, hgrow.tape.trans b36.out.tape, hgrow.output.trans b36.out.output, by have h2 := hgrow.size; simp at h2; omega, fun n hn => ?_⟩
            refine (hgrow.block n (by simp; omega) (fun e => ?_)).trans (Eq.trans (by first | exact heap_alloc_old _ _ (by omega) | exact heap_alloc_old _ _ _ (by omega)) (b36.out.block n hn))
            cases ao with
            | none => cases e
            | some m =>
              have h1 := HAo.out m rfl
              have : n = m.block := by simpa [Value.ownBlock] using e
              omega
          · intro m hm
            cases hm
            show w3.heap.size ≤ gg
            rcases hat with e | e
            · cases ao with
              | none => cases e
              | some m =>
                have h1 := HAo.out m rfl
                have : m.block = gg := by simpa [Value.ownBlock] using e
                omega
            · have := b36.out.size
              omega
      · have ej : j = K.length := by omega
        subst ej
        have HO : Hid _ := ho
        have HBr : Hid _ := hbr
        clear ho hbr
        have kk1 : ¬ (K.length : Int) < (K.length : Int) := by omega
        go_wp2
        refine bodyPost_ret (results_tmp3 rfl _ _ _) rfl ?_
        refine ⟨_, rfl, ?_, HB4.out.trans (HBr.out.mono HB4.out.size)⟩
        have := HO.out
        rw [List.take_length] at this
        exact this
end Go.Proofs.YtdidjdoifpfmmaaGreatDoor
