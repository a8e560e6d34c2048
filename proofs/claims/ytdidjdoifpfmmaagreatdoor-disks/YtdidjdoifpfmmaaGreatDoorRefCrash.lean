import Derived.Test.YtdidjdoifpfmmaaGreatDoorRefNew
namespace Go.Proofs.YtdidjdoifpfmmaaGreatDoor
open Go.RowKit

/-- What a crash keeps of the waiting writes, in keep's order. -/
def kept1 (ws : List (Nat × ByteArray)) (l : List ByteArray) (k : Int) : List ByteArray := if 0 ≤ k ∧ k < ws.length then l.set (ws.getD k.toNat (0, ByteArray.empty)).1 (ws.getD k.toNat (0, ByteArray.empty)).2 else l
def keptL (ws : List (Nat × ByteArray)) (l : List ByteArray) (ks : List Int) : List ByteArray := ks.foldl (kept1 ws) l
theorem kept1_len (ws : List (Nat × ByteArray)) (l : List ByteArray) (k : Int) : (kept1 ws l k).length = l.length := by unfold kept1; split <;> simp
theorem keptL_len (ws : List (Nat × ByteArray)) (l : List ByteArray) (ks : List Int) : (keptL ws l ks).length = l.length := by
  induction ks generalizing l with
  | nil => rfl
  | cons k ks ih => simp only [keptL, List.foldl_cons] at ih ⊢; rw [ih, kept1_len]
theorem keptL_snoc (ws : List (Nat × ByteArray)) (l : List ByteArray) (ks : List Int) (k : Int) : keptL ws l (ks ++ [k]) = kept1 ws (keptL ws l ks) k := by simp [keptL]
theorem take_snoc {α : Type} (l : List α) (j : Nat) (d : α) (h : j < l.length) : l.take (j + 1) = l.take j ++ [l.getD j d] := by
  rw [List.take_succ_eq_append_getElem h]
  simp [List.getD_eq_getElem?_getD, h]
/-- The list of those that are kept, in memory. -/
def KeepAt (w : World) (a0 : Option Addr) (g off : Nat) (ks : List Int) : Prop := (0 < ks.length → a0 = some ⟨g, off, none⟩) ∧ ∀ j, j < ks.length → w.cell? ⟨g, off + j, none⟩ = some (.int .i64 (ks.getD j 0))
theorem waits_get (l : List (Nat × ByteArray)) (k : Nat) (h : k < l.length) : (waits l)[k * 2]? = some (.int .i64 ((l.getD k (0, ByteArray.empty)).1 : Nat)) ∧ (waits l)[k * 2 + 1]? = some (.string (l.getD k (0, ByteArray.empty)).2) := by
  induction l generalizing k with
  | nil => simp at h
  | cons x l ih =>
    cases k with
    | zero => simp [waits]
    | succ k =>
      have := ih k (by simpa using h)
      constructor
      · rw [show (k + 1) * 2 = k * 2 + 1 + 1 by omega]; simpa [waits] using this.1
      · rw [show (k + 1) * 2 + 1 = k * 2 + 1 + 1 + 1 by omega]; simpa [waits] using this.2

noncomputable def crashCode : Code := Tryz.f120.body.getD .skip
noncomputable def crashA : Code := fstC crashCode
noncomputable def crashB : Code := fstC (sndC crashCode)
noncomputable def crashC : Code := sndC (sndC crashCode)
set_option maxHeartbeats 4000000 in
set_option maxRecDepth 1000000 in
theorem crashA_any {x2 x3 x4 x5 x6 x7 x8 x9 x10 x11 x12 x13 x14 x15 x16 x17 x18 x19 x20 x21 x22 x23 x24 x25 x26 x27 x28 x29 x30 x31 x32 x33 x34 x35 x36 x37 x38 x39 x40 x41 x42 x43 x44 x45 x46 x47 x48 x49 x50 x51 x52 x53 x54 x55 x56 x57 x58 x59 x60 x61 x62 x63 x64 x65 x66 x67 x68 x69 x70 x71 x72 x73 x74 x75 x76 x77 x78 x79 : Value} (r : RD) (S : Dk) (left : Int) (lit : Bool) (a0 : Option Addr) (g off ck : Nat) (ks : List Int) (w : World) (R : Act → World → Prop)
    (h : RefAt w r S left lit) (ok : S.Ok) (hks : ks.length ≤ 1000000) (hkp : KeepAt w a0 g off ks) (hg : g ∉ r.blocks)
    (hQ : Hid (∀ (y4 y5 y7 y8 y9 y10 y11 y12 y13 y14 y15 y16 y17 y18 y19 y20 y21 y22 y23 y24 y25 y26 y27 y28 y29 y30 y31 y32 y33 y34 y35 y36 y37 y38 y39 y40 y41 y42 y43 y44 y45 y46 y47 y48 : Value) (w' : World), Has w' r.gS 9 r.cS 1 (strs (keptL S.wait S.safe ks)) → Fr w w' [r.gS] → R ⟨#[.pointer (some ⟨r.q, 0, none⟩), .slice a0 ks.length ck, x2, x3, y4, y5, x6, y7, y8, y9, y10, y11, y12, y13, y14, y15, y16, y17, y18, y19, y20, y21, y22, y23, y24, y25, y26, y27, y28, y29, y30, y31, y32, y33, y34, y35, y36, y37, y38, y39, y40, y41, y42, y43, y44, y45, y46, y47, y48, x49, x50, x51, x52, x53, x54, x55, x56, x57, x58, x59, x60, x61, x62, x63, x64, x65, x66, x67, x68, x69, x70, x71, x72, x73, x74, x75, x76, x77, x78, x79], []⟩ w')) :
    Code.wp Tryz.prog crashA (At R) ⟨#[.pointer (some ⟨r.q, 0, none⟩), .slice a0 ks.length ck, x2, x3, x4, x5, x6, x7, x8, x9, x10, x11, x12, x13, x14, x15, x16, x17, x18, x19, x20, x21, x22, x23, x24, x25, x26, x27, x28, x29, x30, x31, x32, x33, x34, x35, x36, x37, x38, x39, x40, x41, x42, x43, x44, x45, x46, x47, x48, x49, x50, x51, x52, x53, x54, x55, x56, x57, x58, x59, x60, x61, x62, x63, x64, x65, x66, x67, x68, x69, x70, x71, x72, x73, x74, x75, x76, x77, x78, x79], []⟩ w := by
  conv => arg 2; whnf
  obtain ⟨n1, n2, n3, n4⟩ := h.ne
  have hn := ok.most
  have hfew := ok.few
  have HN4 : Hid _ := n4
  have HK : Hid _ := hkp.2
  have HA : Hid _ := hkp.1
  have hgq : g ≠ r.gS := fun e => hg (by rw [e]; simp [RD.blocks])
  clear n4 hkp
  refine seq_at ?_
  go_wp2
  show Code.wp _ _ _ _ _
  refine wp_block ?_
  go_loopw [4] (fun i wr => ∃ j : Nat, j ≤ ks.length ∧ i = .int .i64 j ∧ Has wr r.gS 9 r.cS 1 (strs (keptL S.wait S.safe (ks.take j))) ∧ Fr w wr [r.gS]) (fun i _ => ks.length - (intOf i).toNat)
  case atStart => exact ⟨0, Nat.zero_le _, rfl, h.safe, Fr.refl _ _⟩
  case round =>
    obtain ⟨j, hj, rfl, mS, hf⟩ := hrel
    by_cases hlt : j < ks.length
    · obtain rfl := HA.out (by omega)
      have ck0 : wr.cell? ⟨g, off + j, none⟩ = some (.int .i64 (ks.getD j 0)) := by
        have := HK.out j hlt
        rw [World.cell?_of_block (hf.block g (lt_of_cell this) (by simpa using hgq))]; exact this
      have m0 := hf.row h.row (by simpa using n1)
      have c0 : wr.cell? ⟨r.q, 0, none⟩ = some (.slice (some ⟨r.gS, 0, none⟩) S.safe.length r.cS) := m0.cell 0
      have c2 : wr.cell? ⟨r.q, 2, none⟩ = some r.wv := m0.cell 2
      have hW : wr.ownsRow 0 299 2 r.wv S.wait.length (waits S.wait) := by
        refine h.wait.kept (row := some r.gS) ⟨hf.os, hf.tape, hf.output, hf.size, fun k hk hne => hf.block k hk (by simpa using hne)⟩ ?_
        cases hv : r.wv.ownBlock with
        | none => exact .inl rfl
        | some b => exact .inr (fun e => (HN4.out b hv).2.1 (by simpa using e.symm))
      have hstep : Hid (keptL S.wait S.safe (ks.take (j + 1)) = kept1 S.wait (keptL S.wait S.safe (ks.take j)) (ks.getD j 0)) := by
        show _ = _
        rw [take_snoc ks j 0 hlt, keptL_snoc]
      have hlk := keptL_len S.wait S.safe (ks.take j)
      generalize ks.getD j 0 = k at ck0 hstep
      generalize keptL S.wait S.safe (ks.take j) = l at mS hstep hlk
      by_cases hin : 0 ≤ k ∧ k < S.wait.length
      · obtain ⟨kn, rfl⟩ := Int.eq_ofNat_of_zero_le hin.1
        have hkn : kn < S.wait.length := by omega
        obtain ⟨gW, cW, hwv, _, lW⟩ := hW.form (by omega)
        have hcell := hW.cells (g := gW) (by rw [hwv]; rfl)
        obtain ⟨g1, g2⟩ := waits_get S.wait kn hkn
        have hadd : ∀ i, (⟨gW, 0, none⟩ : Addr).add i = ⟨gW, i, none⟩ := fun i => by unfold Addr.add; split <;> simp_all
        have d1 := hcell _ _ g1
        have d2 := hcell _ _ g2
        rw [hadd] at d1 d2
        have hwr := ok.wr (S.wait.getD kn (0, ByteArray.empty)) (by rw [List.getD_eq_getElem?_getD, List.getElem?_eq_getElem hkn]; exact List.getElem_mem hkn)
        have hst2 : Hid (keptL S.wait S.safe (ks.take (j + 1)) = l.set (S.wait.getD kn (0, ByteArray.empty)).1 (S.wait.getD kn (0, ByteArray.empty)).2) := by
          show _ = _
          rw [hstep.out]
          unfold kept1
          rw [if_pos hin]
          rfl
        generalize S.wait.getD kn (0, ByteArray.empty) = x at d1 d2 hwr hst2
        obtain ⟨xa, xd⟩ := x
        simp only at d1 d2 hwr hst2
        rw [hwv] at c2
        have cs := mS.cell xa (by rw [strs_length, hlk]; exact hwr.1)
        rw [strs_get _ _ (by rw [hlk]; exact hwr.1)] at cs
        have fs := mS.frozen xa
        generalize l.getD xa ByteArray.empty = old at cs
        have sS : Hid (Has (wr.setCell ⟨r.gS, xa, none⟩ (.string xd)).drew r.gS 9 r.cS 1 (strs (keptL S.wait S.safe (ks.take (j + 1))))) := by
          have := mS.set xa (.string xd)
          rw [strs_set, ← hst2.out] at this
          exact this.keep rfl
        have sF : Hid (Fr w (wr.setCell ⟨r.gS, xa, none⟩ (.string xd)).drew [r.gS]) := (hf.setCell _ _ (.inl (by simp))).drew
        have l1 := hwr.1
        clear hcell hW m0 mS hf hstep hst2 g1 g2 hadd hwr h hQ
        go_wp2
        go_region
        clear d1 d2 cs fs c0 c2 ck0
        go_wp2
        exact ⟨⟨j + 1, by omega, by go_num, sS.out, sF.out⟩, by simp [intOf]; omega⟩
      · have hst2 : Hid (keptL S.wait S.safe (ks.take (j + 1)) = l) := by
          show _ = _
          rw [hstep.out]
          unfold kept1
          rw [if_neg hin]
        rw [← hst2.out] at mS
        have hlenw : ∃ aw cw, r.wv = .slice aw S.wait.length cw := by
          rcases hW.2 with ⟨e, e0⟩ | ⟨g', cap', cur, e, _⟩
          · exact ⟨none, 0, by rw [e, e0]⟩
          · exact ⟨_, _, e⟩
        obtain ⟨aw, cw, hwv⟩ := hlenw
        rw [hwv] at c2
        clear hW m0 hstep hst2 h hQ
        by_cases hneg : k < 0
        · go_wp2
          exact ⟨⟨j + 1, by omega, by go_num, mS, hf⟩, by simp [intOf]; omega⟩
        · have hge : ¬ k < (S.wait.length : Int) := by omega
          go_wp2
          exact ⟨⟨j + 1, by omega, by go_num, mS, hf⟩, by simp [intOf]; omega⟩
    · have ej : j = ks.length := by omega
      subst ej
      rw [List.take_length] at mS
      go_wp2
      exact hQ.out _ _ _ _ _ _ _ _ _ _ _ _ _ _ _ _ _ _ _ _ _ _ _ _ _ _ _ _ _ _ _ _ _ _ _ _ _ _ _ _ _ _ _ _ _ mS hf
set_option maxHeartbeats 4000000 in
set_option maxRecDepth 1000000 in
theorem crashB_any {x1 x2 x3 x4 x5 x6 x7 x8 x9 x10 x11 x12 x13 x14 x15 x16 x17 x18 x19 x20 x21 x22 x23 x24 x25 x26 x27 x28 x29 x30 x31 x32 x33 x34 x35 x36 x37 x38 x39 x40 x41 x42 x43 x44 x45 x46 x47 x48 x49 x50 x51 x52 x53 x54 x55 x56 x57 x58 x59 x60 x61 x62 x63 x64 x65 x66 x67 x68 x69 x70 x71 x72 x73 x74 x75 x76 x77 x78 x79 : Value} (q gS cS gE cE n : Nat) (r2 r3 r4 r5 : Value) (l e : List ByteArray) (w : World) (R : Act → World → Prop)
    (hn : n ≤ 4096) (m0 : RowIs w q 139 [.slice (some ⟨gS, 0, none⟩) n cS, .slice (some ⟨gE, 0, none⟩) n cE, r2, r3, r4, r5]) (hl : l.length = n) (he : e.length = n) (hS : Has w gS 9 cS 1 (strs l)) (hE : Has w gE 9 cE 1 (strs e)) (n1 : q ≠ gE) (n2 : gS ≠ gE)
    (hQ : Hid (∀ (y6 y49 y50 y51 y52 y53 y54 y55 y56 y57 y58 y59 y60 y61 y62 y63 y64 y65 y66 y67 y68 y69 y70 : Value) (w' : World), Has w' gE 9 cE 1 (strs l) → Fr w w' [gE] → R ⟨#[.pointer (some ⟨q, 0, none⟩), x1, x2, x3, x4, x5, y6, x7, x8, x9, x10, x11, x12, x13, x14, x15, x16, x17, x18, x19, x20, x21, x22, x23, x24, x25, x26, x27, x28, x29, x30, x31, x32, x33, x34, x35, x36, x37, x38, x39, x40, x41, x42, x43, x44, x45, x46, x47, x48, y49, y50, y51, y52, y53, y54, y55, y56, y57, y58, y59, y60, y61, y62, y63, y64, y65, y66, y67, y68, y69, y70, x71, x72, x73, x74, x75, x76, x77, x78, x79], []⟩ w')) :
    Code.wp Tryz.prog crashB (At R) ⟨#[.pointer (some ⟨q, 0, none⟩), x1, x2, x3, x4, x5, x6, x7, x8, x9, x10, x11, x12, x13, x14, x15, x16, x17, x18, x19, x20, x21, x22, x23, x24, x25, x26, x27, x28, x29, x30, x31, x32, x33, x34, x35, x36, x37, x38, x39, x40, x41, x42, x43, x44, x45, x46, x47, x48, x49, x50, x51, x52, x53, x54, x55, x56, x57, x58, x59, x60, x61, x62, x63, x64, x65, x66, x67, x68, x69, x70, x71, x72, x73, x74, x75, x76, x77, x78, x79], []⟩ w := by
  conv => arg 2; whnf
  refine seq_at ?_
  go_wp2
  show Code.wp _ _ _ _ _
  refine wp_block ?_
  go_loopw [6] (fun i wr => ∃ j : Nat, j ≤ n ∧ i = .int .i64 j ∧ Has wr gE 9 cE 1 (strs (upto e l j)) ∧ Fr w wr [gE]) (fun i _ => n - (intOf i).toNat)
  case atStart => exact ⟨0, Nat.zero_le _, rfl, by simpa [upto] using hE, Fr.refl _ _⟩
  case round =>
    obtain ⟨j, hj, rfl, mE, hf⟩ := hrel
    have m1 := hf.row m0 (by simpa using n1)
    have mS := hS.fr hf (by simpa using n2)
    have c0 : wr.cell? ⟨q, 0, none⟩ = some (.slice (some ⟨gS, 0, none⟩) n cS) := m1.cell 0
    have c1 : wr.cell? ⟨q, 1, none⟩ = some (.slice (some ⟨gE, 0, none⟩) n cE) := m1.cell 1
    have hel : e.length = l.length := by omega
    by_cases hlt : j < n
    · have cs := mS.cell j (by rw [strs_length]; omega)
      rw [strs_get _ _ (by omega)] at cs
      have ce := mE.cell j (by rw [strs_length, upto_len _ _ _ hel]; omega)
      rw [strs_get _ _ (by rw [upto_len _ _ _ hel]; omega)] at ce
      have fe := mE.frozen j
      have hst : Hid _ := upto_step e l j hel (by omega)
      generalize l.getD j ByteArray.empty = x at cs hst
      generalize (upto e l j).getD j ByteArray.empty = old at ce
      have sE : Hid (Has (wr.setCell ⟨gE, j, none⟩ (.string x)).drew gE 9 cE 1 (strs (upto e l (j + 1)))) := by
        have := mE.set j (.string x)
        rw [strs_set, hst.out] at this
        exact this.keep rfl
      have sF : Hid (Fr w (wr.setCell ⟨gE, j, none⟩ (.string x)).drew [gE]) := (hf.setCell _ _ (.inl (by simp))).drew
      clear m0 m1 hS hE mS mE hf hQ
      go_wp2
      go_region
      clear cs ce fe c0 c1
      go_wp2
      exact ⟨⟨j + 1, by omega, by go_num, sE.out, sF.out⟩, by simp [intOf]; omega⟩
    · have ej : j = e.length := by omega
      subst ej
      rw [upto_end _ _ hel] at mE
      clear m0 hS hE m1 mS
      go_wp2
      exact hQ.out _ _ _ _ _ _ _ _ _ _ _ _ _ _ _ _ _ _ _ _ _ _ _ _ mE hf

set_option maxRecDepth 100000 in
set_option maxHeartbeats 2000000 in
theorem refCrash_any {w : World} {r : RD} {S : Dk} {left : Int} {lit : Bool} (h : RefAt w r S left lit) (ok : S.Ok) (a0 : Option Addr) (g off ck : Nat) (ks : List Int) (hks : ks.length ≤ 1000000) (hkp : KeepAt w a0 g off ks) (hg : g ∉ r.blocks) :
    Calls Tryz.prog 120 #[.pointer (some ⟨r.q, 0, none⟩), .slice a0 ks.length ck] w fun e w' =>
      e = .returned (.tuple #[]) ∧ (∃ r', RefAt w' r' ⟨keptL S.wait S.safe ks, [], 0, false⟩ left false ∧ r'.q = r.q ∧ (∀ b ∈ r'.blocks, b ∈ r.blocks ∨ w.heap.size ≤ b)) ∧ Fr w w' r.blocks := by
  obtain ⟨n1, n2, n3, n4⟩ := h.ne
  have hlk := keptL_len S.wait S.safe ks
  go_enter Tryz.func120, Tryz.ntmps120
  refine seq_at (crashA_any r S left lit a0 g off ck ks _ _ h ok hks hkp hg ?_)
  refine fun y4 y5 y7 y8 y9 y10 y11 y12 y13 y14 y15 y16 y17 y18 y19 y20 y21 y22 y23 y24 y25 y26 y27 y28 y29 y30 y31 y32 y33 y34 y35 y36 y37 y38 y39 y40 y41 y42 y43 y44 y45 y46 y47 y48 w1 hS1 hf1 => ?_
  show Code.wp _ _ _ _ _
  have m1 := hf1.row h.row (by simpa using n1)
  have hE1 := h.seen.fr hf1 (by simpa using n3.symm)
  refine seq_at (crashB_any r.q r.gS r.cS r.gE r.cE S.safe.length _ _ _ _ (keptL S.wait S.safe ks) S.seen _ _ ok.most m1 hlk S.seen_length hS1 hE1 n2 n3 ?_)
  refine fun z6 z49 z50 z51 z52 z53 z54 z55 z56 z57 z58 z59 z60 z61 z62 z63 z64 z65 z66 z67 z68 z69 z70 w2 hE2 hf2 => ?_
  show Code.wp _ _ _ _ _
  have m2 := hf2.row m1 (by simpa using n2)
  have hS2 := hS1.fr hf2 (by simpa using n3)
  have hF2 : Fr w w2 r.blocks := (hf1.wider (by simp [RD.blocks])).trans hf2 (by intro x hx _; simp at hx; subst hx; simp [RD.blocks])
  have c2 : w2.cell? ⟨r.q, 2, none⟩ = some r.wv := m2.cell 2
  have c4 : w2.cell? ⟨r.q, 4, none⟩ = some (.bool lit) := m2.cell 4
  have c5 : w2.cell? ⟨r.q, 5, none⟩ = some (.bool S.down) := m2.cell 5
  have f2 := m2.frozen 2
  have f4 := m2.frozen 4
  have f5 := m2.frozen 5
  have HM : Hid _ := ((m2.set 2 (.slice none 0 0)).set 4 (.bool false)).set 5 (.bool false)
  have HS : Hid _ := ((hS2.other (a := ⟨r.q, 2, none⟩) (.slice none 0 0) n1.symm).other (a := ⟨r.q, 4, none⟩) (.bool false) n1.symm).other (a := ⟨r.q, 5, none⟩) (.bool false) n1.symm
  have HE : Hid _ := ((hE2.other (a := ⟨r.q, 2, none⟩) (.slice none 0 0) n2.symm).other (a := ⟨r.q, 4, none⟩) (.bool false) n2.symm).other (a := ⟨r.q, 5, none⟩) (.bool false) n2.symm
  have HF : Hid _ := ((hF2.setCell ⟨r.q, 2, none⟩ (.slice none 0 0) (.inl (by simp [RD.blocks]))).setCell ⟨r.q, 4, none⟩ (.bool false) (.inl (by simp [RD.blocks]))).setCell ⟨r.q, 5, none⟩ (.bool false) (.inl (by simp [RD.blocks]))
  have hcaps := h.caps
  have hsm := h.small
  clear m1 m2 hS1 hS2 hE1 hE2 hf1 hf2 hF2 h hkp
  go_wp2
  go_end0
  refine ⟨rfl, ⟨⟨r.q, r.gS, r.cS, r.gE, r.cE, .slice none 0 0⟩, ⟨?_, HS.out, HE.out, World.ownsRow_nil _ _ _ _, ?_, hcaps, fun _ => ⟨rfl, fun h => absurd h (Nat.lt_irrefl 0)⟩, hsm⟩, rfl, ?_⟩, HF.out⟩
  · show RowIs _ _ _ [.slice (some ⟨r.gS, 0, none⟩) (keptL S.wait S.safe ks).length r.cS, .slice (some ⟨r.gE, 0, none⟩) (keptL S.wait S.safe ks).length r.cE, _, _, _, _]
    rw [hlk]; exact HM.out
  · show (r.q :: r.gS :: r.gE :: []).Nodup
    simp only [List.nodup_cons, List.mem_cons, List.not_mem_nil, or_false, not_or, not_false_eq_true, List.nodup_nil, and_true]
    exact ⟨⟨n1, n2⟩, n3⟩
  · intro b hb
    have hb' : b ∈ (r.q :: r.gS :: r.gE :: []) := hb
    simp only [List.mem_cons, List.not_mem_nil, or_false] at hb'
    left
    rcases hb' with rfl | rfl | rfl <;> simp [RD.blocks]
end Go.Proofs.YtdidjdoifpfmmaaGreatDoor
