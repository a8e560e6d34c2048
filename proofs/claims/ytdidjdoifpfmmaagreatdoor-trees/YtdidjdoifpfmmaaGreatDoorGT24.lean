import Derived.Test.YtdidjdoifpfmmaaGreatDoorGT23
import Derived.Test.YtdidjdoifpfmmaaGreatDoorGT16
import Derived.Test.YtdidjdoifpfmmaaGreatDoorGT13
import Derived.Sort.Walk0
import Derived.Sort.KeysCollected
/- The program's Write of the tree, the whole; Mkdir. -/
namespace Go.Proofs.YtdidjdoifpfmmaaGreatDoor
open Go.RowKit
section
variable {a : Nat → Addr} {w : World} {q : Nat} {L : List It} {blk mblk : ByteArray → Nat}
set_option maxRecDepth 100000 in
set_option maxHeartbeats 2000000 in
theorem devWrite_new (G : Glob a w) (h : ArcAt w q L blk mblk) (s d : ByteArray) (hs : s.size ≤ 1000000) (hbig : ¬ 1536 < d.size) (h0 : spotOf L s = 0) (p n : ByteArray) (hp : upJoin (namesOf s).1 = p) (hnn : (namesOf s).1 = (namesOf s).1.take ((namesOf s).1.length - 1) ++ [n]) (hn : isName (textOf n) = true) (hd : IsDir L p) (hno : n ∉ kidsFold p L) (hsz : (joinB p n).size ≤ 262144) (hroom : (decide ((kidsFold p L).length < 16) && decide (L.length < 256)) = true) :
    Calls Tryz.prog 95 #[.pointer (some ⟨q, 0, none⟩), .string s, .string d] w fun e w' => e = .returned .nilIface ∧ ArcDone w w' q L (L ++ [⟨joinB p n, false, d⟩]) blk mblk := by
  have hlow : lowOk s := spot_zero h0
  have c := devBelow_ok G s hs hlow
  have ib : ¬ (1536 : Int) < (d.size : Int) := by omega
  rw [spot_low hlow] at h0
  have hfew := names_few s hlow.1
  have hl : L.length < 256 := by rw [Bool.and_eq_true, decide_eq_true_eq, decide_eq_true_eq] at hroom; exact hroom.2
  clear hlow
  have HN : Hid _ := hnn
  have HR : Hid _ := hroom
  clear hnn hroom
  go_enter Tryz.func95, Tryz.ntmps95
  go_wp2_with (go_at_call 155; refine c.mono ?_; rintro e w1 ⟨v, rfl, h1, hb⟩; have hr' := (h.below hb).root)
  have h' := h.below hb
  have G' := G.up hb
  have cA := devAbove_ok h'.tree h'.ok a (namesOf s).1 n HN.out v h1 (names_are s) (by omega) (G'.err 5 (by decide)) (G'.err 6 (by decide)) h0
  rw [hp] at cA
  have HL : Hid _ := h'.look hn hd
  go_wp2_with (go_at_call 156; refine cA.mono ?_; rintro e w2 ⟨rfl, hb2⟩; obtain ⟨e0, _, ey⟩ := HL.out w2 hb2; have ey := ey hno)
  have h'' := h'.below hb2
  have cF := devFull_any h'' p hd
  rw [HR.out] at cF
  go_wp2_with (go_at_call 90; refine cF.mono ?_; rintro e w3 ⟨rfl, hb3⟩)
  have cN := devNewFile d w3 (by omega)
  go_wp2_with (go_at_call 164; refine cN.mono ?_; rintro e w4 ⟨v4, rfl, ⟨nb, rfl, g1, g2, n0, n1⟩, hb4⟩)
  have h4 := (h''.below hb3).below hb4
  obtain ⟨c0, _, D, ho, hh, ha⟩ := h4.tree.dir p hd
  have hds := dir_size h4.ok ho hh
  have hkf := kids_few h4.ok p
  have cP := devPut_any ho (by omega) c0 n (by have := name_size hn; omega) nb
  have hs1 := hb.size
  have hs2 := hb2.size
  have hs3 := hb3.size
  go_wp2_with (go_at_call 91; refine cP.mono ?_; rintro e w5 ⟨rfl, ho5, f5⟩)
  go_ret
  exact ⟨rfl, arc_snoc h4 (hb.trans ((hb2.trans ((hb3.trans (hb4.mono hs3)).mono hs2)).mono hs1)) hn hd hno hsz hl hbig (fun e => by cases e) f5 nb nb (by omega) (by omega) (fun q hq e => not_map h4.tree hq n0 e.symm) D hh ha ho.isMap _ ho5 (fun _ => ⟨n0, n1⟩) (fun e => by cases e)⟩
theorem err_ret (a : Nat → Addr) (c : Nat) (hc : c ≠ 0) {e : Ending} (h : e = .returned (errV a (c - 1))) : e = .returned (errOf a c) := by rw [errOf_pos a hc]; exact h
/-- Write, as the document has it. -/
theorem devWriteT_any (G : Glob a w) (h : ArcAt w q L blk mblk) (s d : ByteArray) (hs : s.size ≤ 262144) :
    Calls Tryz.prog 95 #[.pointer (some ⟨q, 0, none⟩), .string s, .string d] w fun e w' => e = .returned (errOf a (putOf L s d).2) ∧ ArcDone w w' q L (putOf L s d).1 blk mblk := by
  unfold putOf
  by_cases hlow : lowOk s
  · rw [if_neg (by rw [hlow.1]; simp; exact fun e => hlow.2 (by rw [e]; rfl))]
    by_cases hbig : 1536 < d.size
    · rw [if_pos hbig]
      exact (devWrite_big G h s d (by omega) hlow hbig).mono fun e w' he => ⟨err_ret a 11 (by decide) he.1, h.same he.2⟩
    · rw [if_neg hbig]
      by_cases h0 : spotOf L s = 0
      · rw [if_neg (by simp [h0])]
        obtain ⟨n, hnn, hn, hsj, hd⟩ := spot_at h.ok h0
        generalize hp : upJoin (namesOf s).1 = p at hsj hd
        have hroomE : roomOf L s = (decide ((kidsFold p L).length < 16) && decide (L.length < 256)) := by unfold roomOf; rw [hp]
        rcases find_kid h.ok (p := p) hn with ⟨hneg, hno⟩ | ⟨i, hi, hfi, hip, hmem⟩
        · rw [← hsj] at hneg
          rw [if_neg (by omega), hroomE]
          cases hroom : (decide ((kidsFold p L).length < 16) && decide (L.length < 256))
          · rw [if_pos rfl]
            exact (devWrite_many G h s d (by omega) hbig h0 p n hp hnn hn hd hno hroom).mono fun e w' he => ⟨err_ret a 10 (by decide) he.1, h.same he.2⟩
          · rw [if_neg (by simp)]
            have := devWrite_new G h s d (by omega) hbig h0 p n hp hnn hn hd hno (by rw [← hsj]; exact hs) hroom
            rw [← hsj] at this
            exact this
        · rw [← hsj] at hfi
          rw [if_pos (by omega)]
          have hdi : dirAt L (findAt L s) = L[i].dir := by
            unfold dirAt
            rw [hfi, Int.toNat_natCast, List.getElem?_eq_getElem hi]
            rfl
          cases hid : L[i].dir
          · rw [if_neg (by rw [hdi, hid]; simp), hfi, Int.toNat_natCast]
            exact devWrite_set G h s d (by omega) hbig h0 p n hp hnn hn hd i hi hip hid
          · rw [if_pos (by rw [hdi, hid])]
            exact (devWrite_kind G h s d (by omega) hbig h0 p n hp hnn hn hd i hi hip hid).mono fun e w' he => ⟨err_ret a 7 (by decide) he.1, h.same he.2⟩
      · rw [if_pos h0]
        exact (devWrite_spot G h s d (by omega) hlow hbig h0).mono fun e w' he => ⟨err_ret a _ h0 he.1, h.same he.2⟩
  · rw [if_pos (by
      cases hn : (namesOf s).2
      · exact .inl rfl
      · exact .inr (Classical.not_not.1 fun h0 => hlow ⟨hn, h0⟩))]
    exact (devWrite_path G h s d (by omega) hlow).mono fun e w' he => ⟨err_ret a 5 (by decide) he.1, h.same he.2⟩
end
end Go.Proofs.YtdidjdoifpfmmaaGreatDoor
/- The program's Mkdir and Remove. -/
namespace Go.Proofs.YtdidjdoifpfmmaaGreatDoor
open Go.RowKit
section
variable {a : Nat → Addr} {w : World} {q : Nat} {L : List It} {blk mblk : ByteArray → Nat}
set_option maxRecDepth 100000 in
set_option maxHeartbeats 2000000 in
theorem devMkdir_spot (G : Glob a w) (h : ArcAt w q L blk mblk) (s : ByteArray) (hs : s.size ≤ 1000000) (h0 : spotOf L s ≠ 0) :
    Calls Tryz.prog 46 #[.pointer (some ⟨q, 0, none⟩), .string s] w fun e w' => e = .returned (errV a (spotOf L s - 1)) ∧ Below w.heap.size w w' := by
  have c := devPlace_err G h s hs h0
  generalize spotOf L s - 1 = j at c
  unfold errV at c
  go_enter Tryz.func46, Tryz.ntmps46
  go_wp2_with (go_at_call 89; refine c.mono ?_; rintro e w1 ⟨rfl, hb⟩)
  go_ret
  exact ⟨rfl, hb⟩
set_option maxRecDepth 100000 in
set_option maxHeartbeats 2000000 in
theorem devMkdir_again (G : Glob a w) (h : ArcAt w q L blk mblk) (s : ByteArray) (hs : s.size ≤ 1000000) (h0 : spotOf L s = 0) (p n : ByteArray) (hp : upJoin (namesOf s).1 = p) (hnn : (namesOf s).1 = (namesOf s).1.take ((namesOf s).1.length - 1) ++ [n]) (hn : isName (textOf n) = true) (hd : IsDir L p) (hmem : n ∈ kidsFold p L) :
    Calls Tryz.prog 46 #[.pointer (some ⟨q, 0, none⟩), .string s] w fun e w' => e = .returned (errV a 7) ∧ Below w.heap.size w w' := by
  have c := devPlace_ok G h s hs h0 n hnn
  rw [hp] at c
  have HL : Hid _ := h.look hn hd
  clear hnn
  go_enter Tryz.func46, Tryz.ntmps46
  go_wp2_with (go_at_call 89; refine c.mono ?_; rintro e w1 ⟨rfl, hb⟩; obtain ⟨e0, ey, _⟩ := HL.out w1 hb; have ey := ey hmem; have e7 := (G.up hb).err 7 (by decide))
  go_ret
  exact ⟨rfl, hb⟩
set_option maxRecDepth 100000 in
set_option maxHeartbeats 2000000 in
theorem devMkdir_many (G : Glob a w) (h : ArcAt w q L blk mblk) (s : ByteArray) (hs : s.size ≤ 1000000) (h0 : spotOf L s = 0) (p n : ByteArray) (hp : upJoin (namesOf s).1 = p) (hnn : (namesOf s).1 = (namesOf s).1.take ((namesOf s).1.length - 1) ++ [n]) (hn : isName (textOf n) = true) (hd : IsDir L p) (hno : n ∉ kidsFold p L) (hroom : (decide ((kidsFold p L).length < 16) && decide (L.length < 256)) = false) :
    Calls Tryz.prog 46 #[.pointer (some ⟨q, 0, none⟩), .string s] w fun e w' => e = .returned (errV a 9) ∧ Below w.heap.size w w' := by
  have c := devPlace_ok G h s hs h0 n hnn
  rw [hp] at c
  have HL : Hid _ := h.look hn hd
  have HR : Hid _ := hroom
  clear hnn hroom
  go_enter Tryz.func46, Tryz.ntmps46
  go_wp2_with (go_at_call 89; refine c.mono ?_; rintro e w1 ⟨rfl, hb⟩; obtain ⟨e0, _, ey⟩ := HL.out w1 hb; have ey := ey hno)
  have h' := h.below hb
  have cF := devFull_any h' p hd
  rw [HR.out] at cF
  have HG : Hid (∀ w3, Below w1.heap.size w1 w3 → w3.cell? ⟨9, 0, none⟩ = some (errV a 9)) := fun w3 hb3 => ((G.up hb).up hb3).err 9 (by decide)
  go_wp2_with (go_at_call 90; refine cF.mono ?_; rintro e w3 ⟨rfl, hb3⟩; have e9 := HG.out w3 hb3)
  go_ret
  exact ⟨rfl, hb.trans (hb3.mono hb.size)⟩
set_option maxRecDepth 100000 in
set_option maxHeartbeats 2000000 in
theorem devMkdir_new (G : Glob a w) (h : ArcAt w q L blk mblk) (s : ByteArray) (hs : s.size ≤ 1000000) (h0 : spotOf L s = 0) (p n : ByteArray) (hp : upJoin (namesOf s).1 = p) (hnn : (namesOf s).1 = (namesOf s).1.take ((namesOf s).1.length - 1) ++ [n]) (hn : isName (textOf n) = true) (hd : IsDir L p) (hno : n ∉ kidsFold p L) (hsz : (joinB p n).size ≤ 262144) (hroom : (decide ((kidsFold p L).length < 16) && decide (L.length < 256)) = true) :
    Calls Tryz.prog 46 #[.pointer (some ⟨q, 0, none⟩), .string s] w fun e w' => e = .returned .nilIface ∧ ArcDone w w' q L (L ++ [⟨joinB p n, true, ⟨#[]⟩⟩]) blk mblk := by
  have c := devPlace_ok G h s hs h0 n hnn
  rw [hp] at c
  have HL : Hid _ := h.look hn hd
  have hl : L.length < 256 := by rw [Bool.and_eq_true, decide_eq_true_eq, decide_eq_true_eq] at hroom; exact hroom.2
  have HR : Hid _ := hroom
  clear hnn hroom
  go_enter Tryz.func46, Tryz.ntmps46
  go_wp2_with (go_at_call 89; refine c.mono ?_; rintro e w1 ⟨rfl, hb⟩; obtain ⟨e0, _, ey⟩ := HL.out w1 hb; have ey := ey hno)
  have h' := h.below hb
  have cF := devFull_any h' p hd
  rw [HR.out] at cF
  go_wp2_with (go_at_call 90; refine cF.mono ?_; rintro e w3 ⟨rfl, hb3⟩)
  have cN := devNewDir w3
  go_wp2_with (go_at_call 92; refine cN.mono ?_; rintro e w4 ⟨v4, nm, rfl, ⟨nb, rfl, g1, g2, n0, n1⟩, g3, ho4, hb4⟩)
  have h3 := h'.below hb3
  have h4 := h3.below hb4
  obtain ⟨c0, _, D, ho, hh, ha⟩ := h4.tree.dir p hd
  have hds := dir_size h4.ok ho hh
  have hkf := kids_few h4.ok p
  have cP := devPut_any ho (by omega) c0 n (by have := name_size hn; omega) nb
  have hs1 := hb.size
  have hs3 := hb3.size
  go_wp2_with (go_at_call 91; refine cP.mono ?_; rintro e w5 ⟨rfl, ho5, f5⟩)
  go_ret
  exact ⟨rfl, arc_snoc h4 (hb.trans ((hb3.trans (hb4.mono hs3)).mono hs1)) hn hd hno hsz hl (by decide) (fun _ => rfl) f5 nb nm (by omega) (by omega) (fun q hq e => by have := (h3.tree.dir q hq).2.2.lt; omega) D hh ha ho.isMap _ ho5 (fun e => by cases e) (fun _ => ⟨n0, n1, 0, ho4⟩)⟩
/-- Mkdir, as the document has it. -/
theorem devMkdirT_any (G : Glob a w) (h : ArcAt w q L blk mblk) (s : ByteArray) (hs : s.size ≤ 262144) :
    Calls Tryz.prog 46 #[.pointer (some ⟨q, 0, none⟩), .string s] w fun e w' => e = .returned (errOf a (mkdirOf L s).2) ∧ ArcDone w w' q L (mkdirOf L s).1 blk mblk := by
  unfold mkdirOf
  by_cases h0 : spotOf L s = 0
  · rw [if_neg (by simp [h0])]
    obtain ⟨n, hnn, hn, hsj, hd⟩ := spot_at h.ok h0
    generalize hp : upJoin (namesOf s).1 = p at hsj hd
    have hroomE : roomOf L s = (decide ((kidsFold p L).length < 16) && decide (L.length < 256)) := by unfold roomOf; rw [hp]
    rcases find_kid h.ok (p := p) hn with ⟨hneg, hno⟩ | ⟨i, hi, hfi, hip, hmem⟩
    · rw [← hsj] at hneg
      rw [if_neg (by omega), hroomE]
      cases hroom : (decide ((kidsFold p L).length < 16) && decide (L.length < 256))
      · rw [if_pos rfl]
        exact (devMkdir_many G h s (by omega) h0 p n hp hnn hn hd hno hroom).mono fun e w' he => ⟨err_ret a 10 (by decide) he.1, h.same he.2⟩
      · rw [if_neg (by simp)]
        have := devMkdir_new G h s (by omega) h0 p n hp hnn hn hd hno (by rw [← hsj]; exact hs) hroom
        rw [← hsj] at this
        exact this
    · rw [← hsj] at hfi
      rw [if_pos (by omega)]
      exact (devMkdir_again G h s (by omega) h0 p n hp hnn hn hd hmem).mono fun e w' he => ⟨err_ret a 8 (by decide) he.1, h.same he.2⟩
  · rw [if_pos h0]
    exact (devMkdir_spot G h s (by omega) h0).mono fun e w' he => ⟨err_ret a _ h0 he.1, h.same he.2⟩
end
end Go.Proofs.YtdidjdoifpfmmaaGreatDoor
/- The program's Remove. -/
namespace Go.Proofs.YtdidjdoifpfmmaaGreatDoor
open Go.RowKit
section
variable {a : Nat → Addr} {w : World} {q : Nat} {L : List It} {blk mblk : ByteArray → Nat}
theorem kids_file (ok : TreeOk L) {x : It} (hx : x ∈ L) (hd : x.dir = false) : kidsFold x.path L = [] := by
  have := metSum_all ok x.path (List.Perm.refl _)
  rw [cnt_file ok x hx hd] at this
  exact List.length_eq_zero_iff.1 (by omega)
/-- How many names stand below something that is there. -/
theorem ArcAt.lenOf (h : ArcAt w q L blk mblk) {i : Nat} (hi : i < L.length) : ∃ o, w.cell? ⟨blk L[i].path, 0, none⟩ = some (.map o) ∧ ∀ ty, (Builtin.len_ #[175] ty #[.map o]).run Tryz.prog w = .ok (.int .i64 (kidsFold L[i].path L).length) w := by
  cases hd : L[i].dir
  · refine ⟨none, (h.tree.file _ (List.getElem_mem hi) hd).1, fun ty => ?_⟩
    rw [kids_file h.ok (List.getElem_mem hi) hd]
    exact Maps.len_nil Tryz.underlying175 ty
  · obtain ⟨c0, _, hdr⟩ := h.tree.dir L[i].path (.inr ⟨_, List.getElem_mem hi, rfl, hd⟩)
    exact ⟨_, c0, hdr.len h.ok⟩
set_option maxRecDepth 100000 in
set_option maxHeartbeats 2000000 in
theorem devRemove_spot (G : Glob a w) (h : ArcAt w q L blk mblk) (s : ByteArray) (hs : s.size ≤ 1000000) (h0 : spotOf L s ≠ 0) :
    Calls Tryz.prog 101 #[.pointer (some ⟨q, 0, none⟩), .string s] w fun e w' => e = .returned (errV a (spotOf L s - 1)) ∧ Below w.heap.size w w' := by
  have c := devPlace_err G h s hs h0
  generalize spotOf L s - 1 = j at c
  unfold errV at c
  go_enter Tryz.func101, Tryz.ntmps101
  go_wp2_with (go_at_call 89; refine c.mono ?_; rintro e w1 ⟨rfl, hb⟩)
  go_ret
  exact ⟨rfl, hb⟩
set_option maxRecDepth 100000 in
set_option maxHeartbeats 2000000 in
theorem devRemove_none (G : Glob a w) (h : ArcAt w q L blk mblk) (s : ByteArray) (hs : s.size ≤ 1000000) (h0 : spotOf L s = 0) (p n : ByteArray) (hp : upJoin (namesOf s).1 = p) (hnn : (namesOf s).1 = (namesOf s).1.take ((namesOf s).1.length - 1) ++ [n]) (hn : isName (textOf n) = true) (hd : IsDir L p) (hno : n ∉ kidsFold p L) :
    Calls Tryz.prog 101 #[.pointer (some ⟨q, 0, none⟩), .string s] w fun e w' => e = .returned (errV a 5) ∧ Below w.heap.size w w' := by
  have c := devPlace_ok G h s hs h0 n hnn
  rw [hp] at c
  have HL : Hid _ := h.look hn hd
  clear hnn
  go_enter Tryz.func101, Tryz.ntmps101
  go_wp2_with (go_at_call 89; refine c.mono ?_; rintro e w1 ⟨rfl, hb⟩; obtain ⟨e0, _, ey⟩ := HL.out w1 hb; have ey := ey hno; have e5 := (G.up hb).err 5 (by decide))
  go_ret
  exact ⟨rfl, hb⟩
set_option maxRecDepth 100000 in
set_option maxHeartbeats 2000000 in
theorem devRemove_busy (G : Glob a w) (h : ArcAt w q L blk mblk) (s : ByteArray) (hs : s.size ≤ 1000000) (h0 : spotOf L s = 0) (p n : ByteArray) (hp : upJoin (namesOf s).1 = p) (hnn : (namesOf s).1 = (namesOf s).1.take ((namesOf s).1.length - 1) ++ [n]) (hn : isName (textOf n) = true) (hd : IsDir L p) (i : Nat) (hi : i < L.length) (hip : L[i].path = joinB p n) (hbusy : 0 < (kidsFold (joinB p n) L).length) :
    Calls Tryz.prog 101 #[.pointer (some ⟨q, 0, none⟩), .string s] w fun e w' => e = .returned (errV a 8) ∧ Below w.heap.size w w' := by
  have c := devPlace_ok G h s hs h0 n hnn
  rw [hp] at c
  have hmem : n ∈ kidsFold p L := (mem_kids h.ok p n).2 ⟨hn, L[i], List.getElem_mem hi, hip⟩
  have HL : Hid _ := h.look hn hd
  have HM : Hid (∀ w1, Below w.heap.size w w1 → ∃ o, w1.cell? ⟨blk (joinB p n), 0, none⟩ = some (.map o) ∧ ∀ ty, (Builtin.len_ #[175] ty #[.map o]).run Tryz.prog w1 = .ok (.int .i64 (kidsFold (joinB p n) L).length) w1) := fun w1 hb => by
    have := (h.below hb).lenOf hi
    rw [hip] at this
    exact this
  have ip : (0 : Int) < ((kidsFold (joinB p n) L).length : Int) := by omega
  clear hnn hip
  go_enter Tryz.func101, Tryz.ntmps101
  go_wp2_with (go_at_call 89; refine c.mono ?_; rintro e w1 ⟨rfl, hb⟩; obtain ⟨e0, ey, _⟩ := HL.out w1 hb; have ey := ey hmem; have e8 := (G.up hb).err 8 (by decide); obtain ⟨o, f0, f1⟩ := HM.out w1 hb)
  go_ret
  exact ⟨rfl, hb⟩
set_option maxRecDepth 100000 in
set_option maxHeartbeats 2000000 in
theorem devRemove_done (G : Glob a w) (h : ArcAt w q L blk mblk) (s : ByteArray) (hs : s.size ≤ 1000000) (h0 : spotOf L s = 0) (p n : ByteArray) (hp : upJoin (namesOf s).1 = p) (hnn : (namesOf s).1 = (namesOf s).1.take ((namesOf s).1.length - 1) ++ [n]) (hn : isName (textOf n) = true) (hd : IsDir L p) (i : Nat) (hi : i < L.length) (hip : L[i].path = joinB p n) (hfree : kidsFold (joinB p n) L = []) :
    Calls Tryz.prog 101 #[.pointer (some ⟨q, 0, none⟩), .string s] w fun e w' => e = .returned .nilIface ∧ ArcDone w w' q L (L.eraseIdx i) blk mblk := by
  have c := devPlace_ok G h s hs h0 n hnn
  rw [hp] at c
  have hmem : n ∈ kidsFold p L := (mem_kids h.ok p n).2 ⟨hn, L[i], List.getElem_mem hi, hip⟩
  have HL : Hid _ := h.look hn hd
  have HM : Hid (∀ w1, Below w.heap.size w w1 → ∃ o, w1.cell? ⟨blk (joinB p n), 0, none⟩ = some (.map o) ∧ ∀ ty, (Builtin.len_ #[175] ty #[.map o]).run Tryz.prog w1 = .ok (.int .i64 0) w1) := fun w1 hb => by
    have := (h.below hb).lenOf hi
    rw [hip, hfree] at this
    exact this
  have HD : Hid (∀ w1, Below w.heap.size w w1 → ∃ w2, (∀ ty, (Builtin.delete_ #[175, 9] ty #[.map (some (mblk p)), .string n]).run Tryz.prog w1 = .ok (.tuple #[]) w2) ∧ ArcDone w w2 q L (L.eraseIdx i) blk mblk) := fun w1 hb => by
    have h1 := h.below hb
    obtain ⟨c0, _, D, ho, hh, ha⟩ := h1.tree.dir p hd
    have hkey := keyOf_name n (by have := name_size hn; omega)
    obtain ⟨w2, hrun, ho2, ht⟩ := ho.drop (t := 175) (e := 111) strKeyed Tryz.underlying175 hkey 0
    refine ⟨w2, fun ty => ?_, blk, mblk, ⟨?_, ?_, h1.ok.erase hi hip hn hfree⟩, fun b hb => .inl (blocks_erase blk mblk b hb), ?_⟩
    · exact hrun
    · exact cell_kept h1.root (ht.grown.block _ (World.block_lt_of_cell? _ _ h1.root) (by simpa using not_map h1.tree hd h1.root))
    · exact h1.tree.erase h1.ok hi hip hn hd (h1.ok.erase hi hip hn hfree) ((Fr.refl w1 [mblk p]).grown ht.grown (fun k hk => .inl (by simp at hk; simp [hk]))) D hh ha _ ho2
    · exact (Fr.of_below hb _).grown ht.grown (fun k hk => .inl (by simp at hk; rw [← hk]; exact (mem_blk blk mblk hd).2))
  clear hnn hip hfree
  go_enter Tryz.func101, Tryz.ntmps101
  go_wp2_with (go_at_call 89; refine c.mono ?_; rintro e w1 ⟨rfl, hb⟩; obtain ⟨e0, ey, _⟩ := HL.out w1 hb; have ey := ey hmem; obtain ⟨o, f0, f1⟩ := HM.out w1 hb; obtain ⟨w2, hdel, hdone⟩ := HD.out w1 hb)
  go_ret
  exact ⟨rfl, hdone⟩
/-- Remove, as the document has it. -/
theorem devRemoveT_any (G : Glob a w) (h : ArcAt w q L blk mblk) (s : ByteArray) (hs : s.size ≤ 262144) :
    Calls Tryz.prog 101 #[.pointer (some ⟨q, 0, none⟩), .string s] w fun e w' => e = .returned (errOf a (removeOf L s).2) ∧ ArcDone w w' q L (removeOf L s).1 blk mblk := by
  unfold removeOf
  by_cases h0 : spotOf L s = 0
  · rw [if_neg (by simp [h0])]
    obtain ⟨n, hnn, hn, hsj, hd⟩ := spot_at h.ok h0
    generalize hp : upJoin (namesOf s).1 = p at hsj hd
    rcases find_kid h.ok (p := p) hn with ⟨hneg, hno⟩ | ⟨i, hi, hfi, hip, hmem⟩
    · rw [← hsj] at hneg
      rw [if_pos hneg]
      exact (devRemove_none G h s (by omega) h0 p n hp hnn hn hd hno).mono fun e w' he => ⟨err_ret a 6 (by decide) he.1, h.same he.2⟩
    · rw [← hsj] at hfi
      rw [if_neg (by omega)]
      by_cases hk : 0 < (kidsFold s L).length
      · rw [if_pos hk]
        exact (devRemove_busy G h s (by omega) h0 p n hp hnn hn hd i hi hip (by rw [← hsj]; exact hk)).mono fun e w' he => ⟨err_ret a 9 (by decide) he.1, h.same he.2⟩
      · rw [if_neg hk, hfi, Int.toNat_natCast]
        exact devRemove_done G h s (by omega) h0 p n hp hnn hn hd i hi hip (by rw [← hsj]; exact List.length_eq_zero_iff.1 (by omega))
  · rw [if_pos h0]
    exact (devRemove_spot G h s (by omega) h0).mono fun e w' he => ⟨err_ret a _ h0 he.1, h.same he.2⟩
end
end Go.Proofs.YtdidjdoifpfmmaaGreatDoor
/- The document's Read of the tree. -/
namespace Go.Proofs.YtdidjdoifpfmmaaGreatDoor
open Go.RowKit
def datAt (L : List It) (a : Int) : ByteArray := (L[a.toNat]?.map It.data).getD ⟨#[]⟩
def readOf (L : List It) (s : ByteArray) : ByteArray × Nat :=
  if (namesOf s).2 = false then (⟨#[]⟩, 5)
  else if (findF L ⟨#[]⟩ (-1) (namesOf s).1).2 ≠ 0 then (⟨#[]⟩, (findF L ⟨#[]⟩ (-1) (namesOf s).1).2)
  else if (findF L ⟨#[]⟩ (-1) (namesOf s).1).1 < 0 ∨ dirAt L (findF L ⟨#[]⟩ (-1) (namesOf s).1).1 = true then (⟨#[]⟩, 7)
  else (datAt L (findF L ⟨#[]⟩ (-1) (namesOf s).1).1, 0)
set_option maxRecDepth 100000 in
set_option maxHeartbeats 2000000 in
theorem refReadT_any (L : List It) (s : ByteArray) (v : Value) (q : Nat) (w : World) (h : TreeOwn w v L) (c7 : w.cell? ⟨q, 7, none⟩ = some v) (hl : L.length ≤ 30000) (hs : s.size ≤ 1000000) :
    Calls Tryz.prog 131 #[.pointer (some ⟨q, 0, none⟩), .int .i64 0, .string s] w fun e w' => e = .returned (.tuple #[.string (readOf L s).1, .int .i64 ((readOf L s).2 : Nat), .int .i64 (-1)]) ∧ Below w.heap.size w w' := by
  have hN := refNames_any s w hs
  have hI := itsAt_of h
  have hql := World.block_lt_of_cell? w _ c7
  have C7 : Hid (∀ w1, Below w.heap.size w w1 → w1.cell? ⟨q, 7, none⟩ = some v) := fun w1 hb => by rw [hb.cell hql]; exact c7
  obtain ⟨av, cv, hv⟩ : ∃ av cv, v = .slice av L.length cv := slice_formR h
  cases hok : (namesOf s).2
  · have he : Hid (readOf L s = (⟨#[]⟩, 5)) := by show readOf L s = _; unfold readOf; rw [if_pos hok]
    rw [hok] at hN
    clear h hI c7
    subst hv
    go_enter Tryz.func131, Tryz.ntmps131
    go_wp2_with (go_at_call 193; refine hN.mono ?_; rintro e w1 ⟨nv, rfl, ho, hb⟩)
    refine bodyPost_ret (results_tmp3 rfl _ _ _) rfl ?_
    exact ⟨by rw [he.out]; rfl, hb⟩
  · rw [hok] at hN
    have hfew := names_few s hok
    have hns := names_sizes s
    have HF : Hid (∀ w1 nv, Below w.heap.size w w1 → StrsAt w1 nv (namesOf s).1 → Calls Tryz.prog 202 #[v, nv] w1 fun e w' => e = .returned (.tuple #[.int .i64 (findF L ⟨#[]⟩ (-1) (namesOf s).1).1, .int .i64 ((findF L ⟨#[]⟩ (-1) (namesOf s).1).2 : Nat)]) ∧ w1 = w') :=
      fun w1 nv hb hnv => refFindN_any L (namesOf s).1 v nv w1 (hI.below hb (Nat.le_refl _)) hnv (by omega) (by omega) (fun x hx => Nat.le_trans (hns x hx) (by decide))
    have hr : Hid (readOf L s = if (findF L ⟨#[]⟩ (-1) (namesOf s).1).2 ≠ 0 then (⟨#[]⟩, (findF L ⟨#[]⟩ (-1) (namesOf s).1).2) else if (findF L ⟨#[]⟩ (-1) (namesOf s).1).1 < 0 ∨ dirAt L (findF L ⟨#[]⟩ (-1) (namesOf s).1).1 = true then (⟨#[]⟩, 7) else (datAt L (findF L ⟨#[]⟩ (-1) (namesOf s).1).1, 0)) := by
      show readOf L s = _
      unfold readOf
      rw [if_neg (by simp [hok])]
    have hrange := findF_range L (namesOf s).1 ⟨#[]⟩ (-1) (.inl rfl)
    have hcode := findF_codes L (namesOf s).1 ⟨#[]⟩ (-1)
    generalize findF L ⟨#[]⟩ (-1) (namesOf s).1 = F at *
    obtain ⟨fa, fe⟩ := F
    simp only at hrange hcode hr HF
    have HT : Hid (TreeOwn w v L) := h
    clear h hI c7 hfew hns
    subst hv
    by_cases he0 : fe = 0
    · subst he0
      rw [if_neg (by simp)] at hr
      rcases hrange rfl with rfl | ⟨i, hi, rfl⟩
      · rw [if_pos (.inl (by omega))] at hr
        go_enter Tryz.func131, Tryz.ntmps131
        go_wp2_with (first
          | (go_at_call 193; refine hN.mono ?_; rintro e w1 ⟨nv, rfl, ho, hb⟩; have hF := HF.out w1 nv hb (strsAt_of ho); have cc := C7.out w1 hb; clear ho)
          | (go_at_call 202; refine hF.mono ?_; rintro e w2 ⟨rfl, rfl⟩; clear hF))
        refine bodyPost_ret (results_tmp3 rfl _ _ _) rfl ?_
        exact ⟨by rw [hr.out]; rfl, hb⟩
      · have hda : dirAt L (i : Nat) = L[i].dir := by unfold dirAt; rw [Int.toNat_natCast, List.getElem?_eq_getElem hi]; rfl
        have hdt : datAt L (i : Nat) = L[i].data := by unfold datAt; rw [Int.toNat_natCast, List.getElem?_eq_getElem hi]; rfl
        have i0' : (0 : Int) ≤ (i : Int) := by omega
        have i1' : (i : Int) < (L.length : Int) := by omega
        have i2' : ¬ (i : Int) < 0 := by omega
        rw [hda, hdt] at hr
        obtain ⟨g, cap, hvv, _, hgl⟩ := World.ownsRow.form HT.out (by omega)
        simp only [Value.slice.injEq] at hvv
        obtain ⟨rfl, _, rfl⟩ := hvv
        have CI : Hid (∀ w1, Below w.heap.size w w1 → w1.cell? ⟨g, i * 3 + 1, none⟩ = some (.bool L[i].dir)) := fun w1 hb => by
          obtain ⟨hh, _, _⟩ := has_of_owns (TreeOwn.below (L := L) (v := .slice (some ⟨g, 0, none⟩) L.length cv) HT.out hb)
          rw [hh.cell _ (by rw [itCells_length]; omega), itCells_get L i hi 1 (by decide)]; rfl
        have CJ : Hid (∀ w1, Below w.heap.size w w1 → w1.cell? ⟨g, i * 3 + 2, none⟩ = some (.string L[i].data)) := fun w1 hb => by
          obtain ⟨hh, _, _⟩ := has_of_owns (TreeOwn.below (L := L) (v := .slice (some ⟨g, 0, none⟩) L.length cv) HT.out hb)
          rw [hh.cell _ (by rw [itCells_length]; omega), itCells_get L i hi 2 (by decide)]; rfl
        cases hdd : L[i].dir
        · rw [hdd] at CI
          rw [if_neg (by simp [hdd])] at hr
          go_enter Tryz.func131, Tryz.ntmps131
          go_wp2_with (first
            | (go_at_call 193; refine hN.mono ?_; rintro e w1 ⟨nv, rfl, ho, hb⟩; have hF := HF.out w1 nv hb (strsAt_of ho); have cc := C7.out w1 hb; have ci := CI.out w1 hb; have cj := CJ.out w1 hb; clear ho)
            | (go_at_call 202; refine hF.mono ?_; rintro e w2 ⟨rfl, rfl⟩; clear hF))
          refine bodyPost_ret (results_tmp3 rfl _ _ _) rfl ?_
          exact ⟨by rw [hr.out]; rfl, hb⟩
        · rw [hdd] at CI
          rw [if_pos (.inr hdd)] at hr
          go_enter Tryz.func131, Tryz.ntmps131
          go_wp2_with (first
            | (go_at_call 193; refine hN.mono ?_; rintro e w1 ⟨nv, rfl, ho, hb⟩; have hF := HF.out w1 nv hb (strsAt_of ho); have cc := C7.out w1 hb; have ci := CI.out w1 hb; have cj := CJ.out w1 hb; clear ho)
            | (go_at_call 202; refine hF.mono ?_; rintro e w2 ⟨rfl, rfl⟩; clear hF))
          refine bodyPost_ret (results_tmp3 rfl _ _ _) rfl ?_
          exact ⟨by rw [hr.out]; rfl, hb⟩
    · rw [if_pos he0] at hr
      have e1 : ((fe : Int) != 0) = true := by simp; omega
      go_enter Tryz.func131, Tryz.ntmps131
      go_wp2_with (first
        | (go_at_call 193; refine hN.mono ?_; rintro e w1 ⟨nv, rfl, ho, hb⟩; have hF := HF.out w1 nv hb (strsAt_of ho); have cc := C7.out w1 hb; clear ho)
        | (go_at_call 202; refine hF.mono ?_; rintro e w2 ⟨rfl, rfl⟩; clear hF))
      refine bodyPost_ret (results_tmp3 rfl _ _ _) rfl ?_
      exact ⟨by rw [hr.out]; rfl, hb⟩
end Go.Proofs.YtdidjdoifpfmmaaGreatDoor
/- The program's Read of the tree. -/
namespace Go.Proofs.YtdidjdoifpfmmaaGreatDoor
open Go.RowKit
section
variable {a : Nat → Addr} {w : World} {q : Nat} {L : List It} {blk mblk : ByteArray → Nat}
theorem devSplit_ok (G : Glob a w) (s : ByteArray) (hs : s.size ≤ 1000000) (h : (namesOf s).2 = true) :
    Calls Tryz.prog 159 #[.string s] w fun e w' => ∃ v, e = .returned (.tuple #[v, .nilIface]) ∧ StrsAt w' v (namesOf s).1 ∧ Below w.heap.size w w' := by
  obtain ⟨m, hm⟩ := G.maxl
  refine (devSplit_any s m a w hs hm (G.err 4 (by decide))).mono ?_
  rintro e w' ⟨v, rfl, ⟨_, v1, rfl, h1⟩ | ⟨hf, _⟩, hb⟩
  · exact ⟨v1, rfl, h1, hb⟩
  · rw [h] at hf; cases hf
theorem devSplit_err (G : Glob a w) (s : ByteArray) (hs : s.size ≤ 1000000) (h : (namesOf s).2 = false) :
    Calls Tryz.prog 159 #[.string s] w fun e w' => e = .returned (.tuple #[.slice none 0 0, errV a 4]) ∧ Below w.heap.size w w' := by
  obtain ⟨m, hm⟩ := G.maxl
  refine (devSplit_any s m a w hs hm (G.err 4 (by decide))).mono ?_
  rintro e w' ⟨v, rfl, ⟨ht, v1, rfl, h1⟩ | ⟨_, rfl⟩, hb⟩
  · rw [h] at ht; cases ht
  · exact ⟨rfl, hb⟩
set_option maxRecDepth 100000 in
set_option maxHeartbeats 2000000 in
theorem devRead_path (G : Glob a w) (s : ByteArray) (hs : s.size ≤ 1000000) (h0 : (namesOf s).2 = false) :
    Calls Tryz.prog 97 #[.pointer (some ⟨q, 0, none⟩), .int .i64 0, .string s] w fun e w' => e = .returned (.tuple #[.string ⟨#[]⟩, errV a 4]) ∧ Below w.heap.size w w' := by
  have c := devSplit_err G s hs h0
  unfold errV at c
  go_enter Tryz.func97, Tryz.ntmps97
  go_wp2_with (go_at_call 159; refine c.mono ?_; rintro e w1 ⟨rfl, hb⟩)
  refine bodyPost_ret (results_tmp2 rfl _ _ _) rfl ?_
  exact ⟨rfl, hb⟩
set_option maxRecDepth 100000 in
set_option maxHeartbeats 2000000 in
theorem devRead_find (G : Glob a w) (h : ArcAt w q L blk mblk) (s : ByteArray) (hs : s.size ≤ 1000000) (h0 : (namesOf s).2 = true) (hf : (findF L ⟨#[]⟩ (-1) (namesOf s).1).2 ≠ 0) :
    Calls Tryz.prog 97 #[.pointer (some ⟨q, 0, none⟩), .int .i64 0, .string s] w fun e w' => e = .returned (.tuple #[.string ⟨#[]⟩, errV a ((findF L ⟨#[]⟩ (-1) (namesOf s).1).2 - 1)]) ∧ Below w.heap.size w w' := by
  have c := devSplit_ok G s hs h0
  have hfew := names_few s h0
  generalize hj : (findF L ⟨#[]⟩ (-1) (namesOf s).1).2 - 1 = j
  have HJ : Hid _ := hj
  clear hj
  go_enter Tryz.func97, Tryz.ntmps97
  go_wp2_with (go_at_call 159; refine c.mono ?_; rintro e w1 ⟨v, rfl, h1, hb⟩; have hr' := (h.below hb).root)
  have h' := h.below hb
  have G' := G.up hb
  have cF := devFind_err h'.tree h'.ok a _ v h1 (names_are s) (by omega) (G'.err 5 (by decide)) (G'.err 6 (by decide)) hf
  rw [HJ.out] at cF
  unfold errV at cF
  go_wp2_with (go_at_call 161; refine cF.mono ?_; rintro e w2 ⟨rfl, hb2⟩)
  refine bodyPost_ret (results_tmp2 rfl _ _ _) rfl ?_
  exact ⟨rfl, hb.trans (hb2.mono hb.size)⟩
set_option maxRecDepth 100000 in
set_option maxHeartbeats 2000000 in
theorem devRead_kind (G : Glob a w) (h : ArcAt w q L blk mblk) (s : ByteArray) (hs : s.size ≤ 1000000) (h0 : (namesOf s).2 = true) (hf : (findF L ⟨#[]⟩ (-1) (namesOf s).1).2 = 0) (hd : IsDir L s) :
    Calls Tryz.prog 97 #[.pointer (some ⟨q, 0, none⟩), .int .i64 0, .string s] w fun e w' => e = .returned (.tuple #[.string ⟨#[]⟩, errV a 6]) ∧ Below w.heap.size w w' := by
  have c := devSplit_ok G s hs h0
  have hfew := names_few s h0
  have HJ : Hid _ := names_join s h0
  go_enter Tryz.func97, Tryz.ntmps97
  go_wp2_with (go_at_call 159; refine c.mono ?_; rintro e w1 ⟨v, rfl, h1, hb⟩; have hr' := (h.below hb).root)
  have h' := h.below hb
  have G' := G.up hb
  have cF := devFind_ok h'.tree h'.ok a _ v h1 (names_are s) (by omega) (G'.err 5 (by decide)) (G'.err 6 (by decide)) hf
  rw [HJ.out] at cF
  go_wp2_with (go_at_call 161; refine cF.mono ?_; rintro e w2 ⟨rfl, hb2⟩)
  have h'' := h'.below hb2
  have e6 := (G'.up hb2).err 6 (by decide)
  have cD := devIsDir_any _ _ w2 (h''.tree.dir s hd).1
  go_wp2_with (go_at_call 162; refine cD.mono ?_; rintro e w' ⟨rfl, rfl⟩)
  go_region
  go_wp2
  refine bodyPost_ret (results_tmp2 rfl _ _ _) rfl ?_
  exact ⟨rfl, (hb.trans (hb2.mono hb.size)).drew⟩
set_option maxRecDepth 100000 in
set_option maxHeartbeats 2000000 in
theorem devRead_file (G : Glob a w) (h : ArcAt w q L blk mblk) (s : ByteArray) (hs : s.size ≤ 1000000) (h0 : (namesOf s).2 = true) (hf : (findF L ⟨#[]⟩ (-1) (namesOf s).1).2 = 0) (x : It) (hx : x ∈ L) (hxp : x.path = s) (hd : x.dir = false) :
    Calls Tryz.prog 97 #[.pointer (some ⟨q, 0, none⟩), .int .i64 0, .string s] w fun e w' => e = .returned (.tuple #[.string x.data, .nilIface]) ∧ Below w.heap.size w w' := by
  have c := devSplit_ok G s hs h0
  have hfew := names_few s h0
  have HJ : Hid _ := names_join s h0
  have HC : Hid (∀ w2, ArcAt w2 q L blk mblk → w2.cell? ⟨blk s, 0, none⟩ = some (.map none) ∧ w2.cell? ⟨blk s, 1, none⟩ = some (.string x.data)) := fun w2 h2 => by
    have := h2.tree.file x hx hd
    rw [hxp] at this
    exact this
  clear hxp
  go_enter Tryz.func97, Tryz.ntmps97
  go_wp2_with (go_at_call 159; refine c.mono ?_; rintro e w1 ⟨v, rfl, h1, hb⟩; have hr' := (h.below hb).root)
  have h' := h.below hb
  have G' := G.up hb
  have cF := devFind_ok h'.tree h'.ok a _ v h1 (names_are s) (by omega) (G'.err 5 (by decide)) (G'.err 6 (by decide)) hf
  rw [HJ.out] at cF
  go_wp2_with (go_at_call 161; refine cF.mono ?_; rintro e w2 ⟨rfl, hb2⟩)
  obtain ⟨e0, e1⟩ := HC.out w2 (h'.below hb2)
  have cD := devIsDir_any _ _ w2 e0
  go_wp2_with (go_at_call 162; refine cD.mono ?_; rintro e w' ⟨rfl, rfl⟩)
  refine bodyPost_ret (results_tmp2 rfl _ _ _) rfl ?_
  exact ⟨rfl, hb.trans (hb2.mono hb.size)⟩
/-- Where a path that is found leads to. -/
theorem found_at (_ok : TreeOk L) {s : ByteArray} (h0 : (namesOf s).2 = true) (hf : (findF L ⟨#[]⟩ (-1) (namesOf s).1).2 = 0) :
    (IsDir L s ∧ ((findF L ⟨#[]⟩ (-1) (namesOf s).1).1 < 0 ∨ dirAt L (findF L ⟨#[]⟩ (-1) (namesOf s).1).1 = true)) ∨
    ∃ x ∈ L, x.path = s ∧ x.dir = false ∧ ¬ ((findF L ⟨#[]⟩ (-1) (namesOf s).1).1 < 0 ∨ dirAt L (findF L ⟨#[]⟩ (-1) (namesOf s).1).1 = true) ∧ datAt L (findF L ⟨#[]⟩ (-1) (namesOf s).1).1 = x.data := by
  have hst := findF_stands (L := L) (namesOf s).1 ⟨#[]⟩ (-1) (.inl ⟨rfl, rfl⟩) hf
  have hj : (namesOf s).1.foldl joinB ⟨#[]⟩ = s := names_join s h0
  rw [hj] at hst
  rcases hst with ⟨rfl, e⟩ | ⟨i, hi, e, hp⟩
  · exact .inl ⟨.inl rfl, .inl (by omega)⟩
  · have hd : dirAt L (findF L ⟨#[]⟩ (-1) (namesOf s).1).1 = L[i].dir := by
      unfold dirAt
      rw [e, Int.toNat_natCast, List.getElem?_eq_getElem hi]
      rfl
    cases hx : L[i].dir
    · refine .inr ⟨L[i], List.getElem_mem hi, hp, hx, ?_, ?_⟩
      · rw [hd, hx, e]
        simp
      · unfold datAt
        rw [e, Int.toNat_natCast, List.getElem?_eq_getElem hi]
        rfl
    · exact .inl ⟨.inr ⟨L[i], List.getElem_mem hi, hp, hx⟩, .inr (by rw [hd, hx])⟩
/-- Read of the tree, as the document has it. -/
theorem devReadT_any (G : Glob a w) (h : ArcAt w q L blk mblk) (s : ByteArray) (hs : s.size ≤ 1000000) :
    Calls Tryz.prog 97 #[.pointer (some ⟨q, 0, none⟩), .int .i64 0, .string s] w fun e w' => e = .returned (.tuple #[.string (readOf L s).1, errOf a (readOf L s).2]) ∧ Below w.heap.size w w' := by
  unfold readOf
  cases h0 : (namesOf s).2
  · rw [if_pos rfl]
    exact devRead_path G s hs h0
  · rw [if_neg (by simp)]
    by_cases hf : (findF L ⟨#[]⟩ (-1) (namesOf s).1).2 = 0
    · rw [if_neg (by simp [hf])]
      rcases found_at h.ok h0 hf with ⟨hd, hc⟩ | ⟨x, hx, hxp, hxd, hc, hdat⟩
      · rw [if_pos hc]
        exact devRead_kind G h s hs h0 hf hd
      · rw [if_neg hc, hdat]
        exact devRead_file G h s hs h0 hf x hx hxp hxd
    · rw [if_pos hf]
      refine (devRead_find G h s hs h0 hf).mono fun e w' he => ⟨?_, he.2⟩
      rw [errOf_pos a hf]
      exact he.1
end
end Go.Proofs.YtdidjdoifpfmmaaGreatDoor
/- The names in a directory come in order. -/
namespace Go.Proofs.YtdidjdoifpfmmaaGreatDoor
open Go.RowKit
theorem lessB_iff (x y : ByteArray) : lessB x y = true ↔ x.data.toList < y.data.toList := by
  unfold lessB
  rw [bytesLess_eq, ByteArray.toList_eq, ByteArray.toList_eq, decide_eq_true_eq]
def leP (x y : ByteArray) : Prop := x.data.toList ≤ y.data.toList
theorem leP_of_less {x y : ByteArray} (h : lessB x y = true) : leP x y := by
  rw [lessB_iff] at h
  rcases List.le_total x.data.toList y.data.toList with h1 | h1
  · exact h1
  · exact absurd h (List.not_lt.2 h1)
theorem leP_of_not {x y : ByteArray} (h : lessB x y = false) : leP y x := by
  have : ¬ x.data.toList < y.data.toList := fun h1 => by rw [(lessB_iff x y).2 h1] at h; cases h
  exact List.not_lt.1 this
theorem placeF_spec (lst : List ByteArray) (x : ByteArray) : ∀ n, n ≤ lst.length → placeF lst x n ≤ n ∧ (∀ j (h : j < lst.length), placeF lst x n ≤ j → j < n → lessB x lst[j] = true) ∧ ∀ j (h : j < lst.length), placeF lst x n = j + 1 → lessB x lst[j] = false := by
  intro n
  induction n with
  | zero => intro _; exact ⟨Nat.le_refl _, fun j _ _ h => by omega, fun j _ h => by simp [placeF] at h⟩
  | succ n ih =>
    intro hn
    have hg : lst.getD n ByteArray.empty = lst[n] := by rw [List.getD_eq_getElem?_getD, List.getElem?_eq_getElem (by omega)]; rfl
    unfold placeF
    rw [hg]
    cases hl : lessB x lst[n]
    · rw [if_neg (by simp)]
      refine ⟨Nat.le_refl _, fun j _ h1 h2 => by omega, fun j hj e => ?_⟩
      have : j = n := by omega
      subst this
      exact hl
    · rw [if_pos rfl]
      obtain ⟨h1, h2, h3⟩ := ih (by omega)
      refine ⟨by omega, fun j hj h4 h5 => ?_, h3⟩
      by_cases e : j = n
      · subst e; exact hl
      · exact h2 j hj h4 (by omega)
theorem insB_sorted {lst : List ByteArray} (h : lst.Pairwise leP) (x : ByteArray) : (insB lst x).Pairwise leP := by
  obtain ⟨h1, h2, h3⟩ := placeF_spec lst x lst.length (Nat.le_refl _)
  unfold insB
  generalize placeF lst x lst.length = r at *
  have hpw := List.pairwise_iff_getElem.1 h
  rw [List.pairwise_append]
  refine ⟨h.sublist (List.take_sublist _ _), ?_, ?_⟩
  · rw [List.pairwise_cons]
    refine ⟨fun y hy => ?_, h.sublist (List.drop_sublist _ _)⟩
    obtain ⟨j, hj, rfl⟩ := List.mem_iff_getElem.1 hy
    rw [List.getElem_drop]
    rw [List.length_drop] at hj
    exact leP_of_less (h2 _ (by omega) (by omega) (by omega))
  · intro y hy z hz
    obtain ⟨j, hj, rfl⟩ := List.mem_iff_getElem.1 hy
    rw [List.length_take] at hj
    rw [List.getElem_take]
    have hlast : leP lst[j] x := by
      have hr : lessB x lst[r - 1] = false := h3 (r - 1) (by omega) (by omega)
      by_cases e : j = r - 1
      · subst e; exact leP_of_not hr
      · exact List.le_trans (hpw j (r - 1) (by omega) (by omega) (by omega)) (leP_of_not hr)
    rcases List.mem_cons.1 hz with rfl | hz
    · exact hlast
    · obtain ⟨i, hi, rfl⟩ := List.mem_iff_getElem.1 hz
      rw [List.length_drop] at hi
      rw [List.getElem_drop]
      exact hpw j (r + i) (by omega) (by omega) (by omega)
theorem kids_sorted (p : ByteArray) (L : List It) : (kidsFold p L).Pairwise leP := by
  have : ∀ (L : List It) (acc : List ByteArray), acc.Pairwise leP → (L.foldl (fun l x => if upOf x.path = p then insB l (lastOf x.path) else l) acc).Pairwise leP := by
    intro L
    induction L with
    | nil => intro acc h; exact h
    | cons y L ih =>
      intro acc h
      rw [List.foldl_cons]
      apply ih
      split
      · exact insB_sorted h _
      · exact h
  exact this L [] List.Pairwise.nil
/-- Sorted by the library, they are as the document has them. -/
theorem kids_merge {p : ByteArray} {L : List It} {ss : List (List UInt8)} (h : ss.Perm ((kidsFold p L).map fun k => k.data.toList)) : ss.mergeSort (fun x y => decide (x ≤ y)) = (kidsFold p L).map fun k => k.data.toList := by
  have tr : ∀ a b c : List UInt8, leB a b = true → leB b c = true → leB a c = true := fun a b c h1 h2 => by simp only [leB, decide_eq_true_eq] at *; exact List.le_trans h1 h2
  have tot : ∀ a b : List UInt8, (leB a b || leB b a) = true := fun a b => by simp only [leB, Bool.or_eq_true, decide_eq_true_eq]; exact List.le_total a b
  refine List.Perm.eq_of_pairwise (le := fun a b => leB a b = true) (fun a b _ _ h1 h2 => ?_) (List.pairwise_mergeSort tr tot ss) ?_ ((List.mergeSort_perm ss leB).trans h)
  · simp only [leB, decide_eq_true_eq] at h1 h2
    exact List.le_antisymm h1 h2
  · rw [List.pairwise_map]
    refine (kids_sorted p L).imp ?_
    intro a b h
    have h2 : a.data.toList ≤ b.data.toList := h
    exact decide_eq_true h2
end Go.Proofs.YtdidjdoifpfmmaaGreatDoor
