import Derived.Test.YtdidjdoifpfmmaaGreatDoorGT16
import Derived.Test.YtdidjdoifpfmmaaGreatDoorGT7
import Derived.Test.YtdidjdoifpfmmaaGreatDoorGT10
/- The program's Write of the tree. -/
namespace Go.Proofs.YtdidjdoifpfmmaaGreatDoor
open Go.RowKit
def errOf (a : Nat → Addr) (c : Nat) : Value := if c = 0 then .nilIface else errV a (c - 1)
theorem errOf_pos (a : Nat → Addr) {c : Nat} (h : c ≠ 0) : errOf a c = errV a (c - 1) := by unfold errOf; rw [if_neg h]
def ArcDone (w w' : World) (q : Nat) (L L' : List It) (blk mblk : ByteArray → Nat) : Prop :=
  ∃ blk' mblk', ArcAt w' q L' blk' mblk' ∧ (∀ b ∈ treeBlocks L' blk' mblk', b ∈ treeBlocks L blk mblk ∨ w.heap.size ≤ b) ∧ Fr w w' (treeBlocks L blk mblk)
section
variable {a : Nat → Addr} {w : World} {q : Nat} {L : List It} {blk mblk : ByteArray → Nat}
theorem ArcAt.same {w' : World} (h : ArcAt w q L blk mblk) (hb : Below w.heap.size w w') : ArcDone w w' q L L blk mblk :=
  ⟨blk, mblk, h.below hb, fun _ hb => .inl hb, Fr.of_below hb _⟩
/-- What a look into the directory of a path tells. -/
theorem ArcAt.look (h : ArcAt w q L blk mblk) {p n : ByteArray} (hn : isName (textOf n) = true) (hd : IsDir L p) (w2 : World) (hb : Below w.heap.size w w2) :
    w2.cell? ⟨blk p, 0, none⟩ = some (.map (some (mblk p))) ∧ (n ∈ kidsFold p L → (Instr.lookup 175 (.map (some (mblk p))) (.string n) true).run Tryz.prog w2 = .ok (.tuple #[.pointer (some ⟨blk (joinB p n), 0, none⟩), .bool true]) w2) ∧
    (n ∉ kidsFold p L → (Instr.lookup 175 (.map (some (mblk p))) (.string n) true).run Tryz.prog w2 = .ok (.tuple #[.pointer none, .bool false]) w2) := by
  obtain ⟨c0, _, hdr⟩ := (h.below hb).tree.dir p hd
  obtain ⟨v, hl, hy, hno⟩ := hdr.look n (by have := name_size hn; omega)
  refine ⟨c0, fun hm => ?_, fun hm => ?_⟩
  · rw [hy hm, (hasKid_iff L p n).2 hm] at hl; exact hl
  · rw [hno hm, (hasKid_not L p n).2 hm] at hl; exact hl
theorem find_kid (ok : TreeOk L) {p n : ByteArray} (hn : isName (textOf n) = true) : (findAt L (joinB p n) < 0 ∧ n ∉ kidsFold p L) ∨ ∃ i, ∃ hi : i < L.length, findAt L (joinB p n) = (i : Nat) ∧ L[i].path = joinB p n ∧ n ∈ kidsFold p L := by
  rcases findAt_cases L (joinB p n) with ⟨e, h⟩ | ⟨i, hi, e, h⟩
  · refine .inl ⟨by omega, fun hm => ?_⟩
    obtain ⟨_, x, hx, e2⟩ := (mem_kids ok p n).1 hm
    exact h x hx e2
  · exact .inr ⟨i, hi, e, h, (mem_kids ok p n).2 ⟨hn, L[i], List.getElem_mem hi, h⟩⟩
set_option maxRecDepth 100000 in
set_option maxHeartbeats 1000000 in
theorem devWrite_path (G : Glob a w) (_h : ArcAt w q L blk mblk) (s d : ByteArray) (hs : s.size ≤ 1000000) (hlow : ¬ lowOk s) :
    Calls Tryz.prog 95 #[.pointer (some ⟨q, 0, none⟩), .string s, .string d] w fun e w' => e = .returned (errV a 4) ∧ Below w.heap.size w w' := by
  have c := devBelow_err G s hs hlow
  unfold errV at c
  go_enter Tryz.func95, Tryz.ntmps95
  go_wp2_with (go_at_call 155; refine c.mono ?_; rintro e w1 ⟨rfl, hb⟩)
  go_ret
  exact ⟨rfl, hb⟩
set_option maxRecDepth 100000 in
set_option maxHeartbeats 1000000 in
theorem devWrite_big (G : Glob a w) (_h : ArcAt w q L blk mblk) (s d : ByteArray) (hs : s.size ≤ 1000000) (hlow : lowOk s) (hbig : 1536 < d.size) :
    Calls Tryz.prog 95 #[.pointer (some ⟨q, 0, none⟩), .string s, .string d] w fun e w' => e = .returned (errV a 10) ∧ Below w.heap.size w w' := by
  have c := devBelow_ok G s hs hlow
  have ib : (1536 : Int) < (d.size : Int) := by omega
  go_enter Tryz.func95, Tryz.ntmps95
  go_wp2_with (go_at_call 155; refine c.mono ?_; rintro e w1 ⟨v, rfl, h1, hb⟩; have h10 := (G.up hb).err 10 (by decide))
  go_ret
  exact ⟨rfl, hb⟩
set_option maxRecDepth 100000 in
set_option maxHeartbeats 1000000 in
theorem devWrite_spot (G : Glob a w) (h : ArcAt w q L blk mblk) (s d : ByteArray) (hs : s.size ≤ 1000000) (hlow : lowOk s) (hbig : ¬ 1536 < d.size) (h0 : spotOf L s ≠ 0) :
    Calls Tryz.prog 95 #[.pointer (some ⟨q, 0, none⟩), .string s, .string d] w fun e w' => e = .returned (errV a (spotOf L s - 1)) ∧ Below w.heap.size w w' := by
  have c := devBelow_ok G s hs hlow
  have ib : ¬ (1536 : Int) < (d.size : Int) := by omega
  rw [spot_low hlow] at h0 ⊢
  have hfew := names_few s hlow.1
  have hne := hlow.2
  clear hlow
  generalize hj : spotN L (namesOf s).1 - 1 = j
  have HJ : Hid _ := hj
  clear hj
  go_enter Tryz.func95, Tryz.ntmps95
  go_wp2_with (go_at_call 155; refine c.mono ?_; rintro e w1 ⟨v, rfl, h1, hb⟩; have hr' := (h.below hb).root)
  have h' := h.below hb
  have G' := G.up hb
  have cA := devAbove_err h'.tree h'.ok a (namesOf s).1 hne v h1 (names_are s) (by omega) (G'.err 5 (by decide)) (G'.err 6 (by decide)) h0
  rw [HJ.out] at cA
  unfold errV at cA
  go_wp2_with (go_at_call 156; refine cA.mono ?_; rintro e w2 ⟨rfl, hb2⟩)
  go_ret
  exact ⟨rfl, hb.trans (hb2.mono hb.size)⟩
/-- What a path names, where something may stand at it. -/
theorem spot_at (ok : TreeOk L) {s : ByteArray} (h0 : spotOf L s = 0) : ∃ n, (namesOf s).1 = (namesOf s).1.take ((namesOf s).1.length - 1) ++ [n] ∧ isName (textOf n) = true ∧ s = joinB (upJoin (namesOf s).1) n ∧ IsDir L (upJoin (namesOf s).1) := by
  have hlow : lowOk s := spot_zero h0
  obtain ⟨n, e, hn, hs⟩ := names_split s hlow.1 hlow.2
  rw [spot_low hlow] at h0
  exact ⟨n, e, hn, hs, spotN_dir ok _ h0⟩
set_option maxRecDepth 100000 in
set_option maxHeartbeats 2000000 in
theorem devWrite_kind (G : Glob a w) (h : ArcAt w q L blk mblk) (s d : ByteArray) (hs : s.size ≤ 1000000) (hbig : ¬ 1536 < d.size) (h0 : spotOf L s = 0) (p n : ByteArray) (hp : upJoin (namesOf s).1 = p) (hnn : (namesOf s).1 = (namesOf s).1.take ((namesOf s).1.length - 1) ++ [n]) (hn : isName (textOf n) = true) (hd : IsDir L p) (i : Nat) (hi : i < L.length) (hip : L[i].path = joinB p n) (hid : L[i].dir = true) :
    Calls Tryz.prog 95 #[.pointer (some ⟨q, 0, none⟩), .string s, .string d] w fun e w' => e = .returned (errV a 6) ∧ Below w.heap.size w w' := by
  have hlow : lowOk s := spot_zero h0
  have c := devBelow_ok G s hs hlow
  have ib : ¬ (1536 : Int) < (d.size : Int) := by omega
  rw [spot_low hlow] at h0
  have hfew := names_few s hlow.1
  have hmem : n ∈ kidsFold p L := (mem_kids h.ok p n).2 ⟨hn, L[i], List.getElem_mem hi, hip⟩
  have hnd : IsDir L (joinB p n) := .inr ⟨L[i], List.getElem_mem hi, hip, hid⟩
  clear hlow
  have HN : Hid _ := hnn
  clear hnn
  go_enter Tryz.func95, Tryz.ntmps95
  go_wp2_with (go_at_call 155; refine c.mono ?_; rintro e w1 ⟨v, rfl, h1, hb⟩; have hr' := (h.below hb).root)
  have h' := h.below hb
  have G' := G.up hb
  have cA := devAbove_ok h'.tree h'.ok a (namesOf s).1 n HN.out v h1 (names_are s) (by omega) (G'.err 5 (by decide)) (G'.err 6 (by decide)) h0
  rw [hp] at cA
  have HL : Hid _ := h'.look hn hd
  have HT : Hid (∀ w2, Below w1.heap.size w1 w2 → w2.cell? ⟨blk (joinB p n), 0, none⟩ = some (.map (some (mblk (joinB p n)))) ∧ w2.cell? ⟨6, 0, none⟩ = some (errV a 6)) := fun w2 hb2 => ⟨((h'.below hb2).tree.dir _ hnd).1, (G'.up hb2).err 6 (by decide)⟩
  go_wp2_with (go_at_call 156; refine cA.mono ?_; rintro e w2 ⟨rfl, hb2⟩; obtain ⟨e0, ey, _⟩ := HL.out w2 hb2; have ey := ey hmem; obtain ⟨e1, e6⟩ := HT.out w2 hb2)
  have cD := devIsDir_any _ _ w2 e1
  go_wp2_with (go_at_call 162; refine cD.mono ?_; rintro e w' ⟨rfl, rfl⟩)
  go_ret
  exact ⟨rfl, hb.trans (hb2.mono hb.size)⟩
set_option maxRecDepth 100000 in
set_option maxHeartbeats 2000000 in
theorem devWrite_many (G : Glob a w) (h : ArcAt w q L blk mblk) (s d : ByteArray) (hs : s.size ≤ 1000000) (hbig : ¬ 1536 < d.size) (h0 : spotOf L s = 0) (p n : ByteArray) (hp : upJoin (namesOf s).1 = p) (hnn : (namesOf s).1 = (namesOf s).1.take ((namesOf s).1.length - 1) ++ [n]) (hn : isName (textOf n) = true) (hd : IsDir L p) (hno : n ∉ kidsFold p L) (hroom : (decide ((kidsFold p L).length < 16) && decide (L.length < 256)) = false) :
    Calls Tryz.prog 95 #[.pointer (some ⟨q, 0, none⟩), .string s, .string d] w fun e w' => e = .returned (errV a 9) ∧ Below w.heap.size w w' := by
  have hlow : lowOk s := spot_zero h0
  have c := devBelow_ok G s hs hlow
  have ib : ¬ (1536 : Int) < (d.size : Int) := by omega
  rw [spot_low hlow] at h0
  have hfew := names_few s hlow.1
  clear hlow
  have HN : Hid _ := hnn
  have HR : Hid _ := hroom
  clear hnn hroom
  go_enter Tryz.func95, Tryz.ntmps95
  go_wp2_with (go_at_call 155; refine c.mono ?_; rintro e w1 ⟨v, rfl, h1, hb⟩; have hr' := (h.below hb).root)
  have h' := h.below hb
  have G' := G.up hb
  have cA := devAbove_ok h'.tree h'.ok a (namesOf s).1 n HN.out v h1 (names_are s) (by omega) (G'.err 5 (by decide)) (G'.err 6 (by decide)) h0
  rw [hp] at cA
  have HL : Hid _ := h'.look hn hd
  go_wp2_with (go_at_call 156; refine cA.mono ?_; rintro e w2 ⟨rfl, hb2⟩; obtain ⟨e0, _, ey⟩ := HL.out w2 hb2; have ey := ey hno)
  have h'' := h'.below hb2
  have cF := devFull_any h'' p hd
  rw [HR.out] at cF
  have HG : Hid (∀ w3, Below w2.heap.size w2 w3 → w3.cell? ⟨9, 0, none⟩ = some (errV a 9)) := fun w3 hb3 => ((G'.up hb2).up hb3).err 9 (by decide)
  go_wp2_with (go_at_call 90; refine cF.mono ?_; rintro e w3 ⟨rfl, hb3⟩; have e9 := HG.out w3 hb3)
  go_ret
  have hs1 := hb.size
  have hs2 := hb2.size
  exact ⟨rfl, hb.trans ((hb2.trans (hb3.mono hs2)).mono hs1)⟩
end
end Go.Proofs.YtdidjdoifpfmmaaGreatDoor
namespace Go.Proofs.YtdidjdoifpfmmaaGreatDoor
open Go.RowKit

/-- What a crash keeps of the waiting writes, in keep's order. -/
def kept1 (ws : List (Nat × ByteArray)) (l : List ByteArray) (k : Int) : List ByteArray := if 0 ≤ k ∧ k < ws.length then l.set (ws.getD k.toNat (0, ByteArray.empty)).1 (ws.getD k.toNat (0, ByteArray.empty)).2 else l
def keptL (ws : List (Nat × ByteArray)) (l : List ByteArray) (ks : List Int) : List ByteArray := ks.foldl (kept1 ws) l
theorem kept1_len (ws : List (Nat × ByteArray)) (l : List ByteArray) (k : Int) : (kept1 ws l k).length = l.length := by unfold kept1; split <;> simp
theorem keptL_len (ws : List (Nat × ByteArray)) (l : List ByteArray) (ks : List Int) : (keptL ws l ks).length = l.length := by
  induction ks generalizing l with
  | nil => rfl
  | cons k ks ih => simp only [keptL, List.foldl_cons] at ih ⊢; rw [ih, kept1_len]
theorem keptL_snoc (ws : List (Nat × ByteArray)) (l : List ByteArray) (ks : List Int) (k : Int) : keptL ws l (ks ++ [k]) = kept1 ws (keptL ws l ks) k := by simp [keptL]
theorem take_snoc {α : Type} (l : List α) (j : Nat) (d : α) (h : j < l.length) : l.take (j + 1) = l.take j ++ [l.getD j d] := by
  rw [List.take_succ_eq_append_getElem h]
  simp [List.getD_eq_getElem?_getD, h]
/-- The list of those that are kept, in memory. -/
def KeepAt (w : World) (a0 : Option Addr) (g off : Nat) (ks : List Int) : Prop := (0 < ks.length → a0 = some ⟨g, off, none⟩) ∧ ∀ j, j < ks.length → w.cell? ⟨g, off + j, none⟩ = some (.int .i64 (ks.getD j 0))
theorem waits_get (l : List (Nat × ByteArray)) (k : Nat) (h : k < l.length) : (waits l)[k * 2]? = some (.int .i64 ((l.getD k (0, ByteArray.empty)).1 : Nat)) ∧ (waits l)[k * 2 + 1]? = some (.string (l.getD k (0, ByteArray.empty)).2) := by
  induction l generalizing k with
  | nil => simp at h
  | cons x l ih =>
    cases k with
    | zero => simp [waits]
    | succ k =>
      have := ih k (by simpa using h)
      constructor
      · rw [show (k + 1) * 2 = k * 2 + 1 + 1 by omega]; simpa [waits] using this.1
      · rw [show (k + 1) * 2 + 1 = k * 2 + 1 + 1 + 1 by omega]; simpa [waits] using this.2

noncomputable def crashCode : Code := Tryz.f120.body.getD .skip
noncomputable def crashA : Code := fstC crashCode
noncomputable def crashB : Code := fstC (sndC crashCode)
noncomputable def crashC : Code := sndC (sndC crashCode)
set_option maxHeartbeats 4000000 in
set_option maxRecDepth 1000000 in
theorem crashA_any {x2 x3 x4 x5 x6 x7 x8 x9 x10 x11 x12 x13 x14 x15 x16 x17 x18 x19 x20 x21 x22 x23 x24 x25 x26 x27 x28 x29 x30 x31 x32 x33 x34 x35 x36 x37 x38 x39 x40 x41 x42 x43 x44 x45 x46 x47 x48 x49 x50 x51 x52 x53 x54 x55 x56 x57 x58 x59 x60 x61 x62 x63 x64 x65 x66 x67 x68 x69 x70 x71 x72 x73 x74 x75 x76 x77 x78 x79 : Value} (r : RD) (S : Dk) (left : Int) (lit : Bool) (a0 : Option Addr) (g off ck : Nat) (ks : List Int) (w : World) (R : Act → World → Prop)
    (h : RefAt w r S left lit) (ok : S.Ok) (hks : ks.length ≤ 1000000) (hkp : KeepAt w a0 g off ks) (hg : g ∉ r.blocks)
    (hQ : Hid (∀ (y4 y5 y7 y8 y9 y10 y11 y12 y13 y14 y15 y16 y17 y18 y19 y20 y21 y22 y23 y24 y25 y26 y27 y28 y29 y30 y31 y32 y33 y34 y35 y36 y37 y38 y39 y40 y41 y42 y43 y44 y45 y46 y47 y48 : Value) (w' : World), Has w' r.gS 9 r.cS 1 (strs (keptL S.wait S.safe ks)) → Fr w w' [r.gS] → R ⟨#[.pointer (some ⟨r.q, 0, none⟩), .slice a0 ks.length ck, x2, x3, y4, y5, x6, y7, y8, y9, y10, y11, y12, y13, y14, y15, y16, y17, y18, y19, y20, y21, y22, y23, y24, y25, y26, y27, y28, y29, y30, y31, y32, y33, y34, y35, y36, y37, y38, y39, y40, y41, y42, y43, y44, y45, y46, y47, y48, x49, x50, x51, x52, x53, x54, x55, x56, x57, x58, x59, x60, x61, x62, x63, x64, x65, x66, x67, x68, x69, x70, x71, x72, x73, x74, x75, x76, x77, x78, x79], []⟩ w')) :
    Code.wp Tryz.prog crashA (At R) ⟨#[.pointer (some ⟨r.q, 0, none⟩), .slice a0 ks.length ck, x2, x3, x4, x5, x6, x7, x8, x9, x10, x11, x12, x13, x14, x15, x16, x17, x18, x19, x20, x21, x22, x23, x24, x25, x26, x27, x28, x29, x30, x31, x32, x33, x34, x35, x36, x37, x38, x39, x40, x41, x42, x43, x44, x45, x46, x47, x48, x49, x50, x51, x52, x53, x54, x55, x56, x57, x58, x59, x60, x61, x62, x63, x64, x65, x66, x67, x68, x69, x70, x71, x72, x73, x74, x75, x76, x77, x78, x79], []⟩ w := by
  conv => arg 2; whnf
  obtain ⟨n1, n2, n3, n4⟩ := h.ne
  have hn := ok.most
  have hfew := ok.few
  have HN4 : Hid _ := n4
  have HK : Hid _ := hkp.2
  have HA : Hid _ := hkp.1
  have hgq : g ≠ r.gS := fun e => hg (by rw [e]; simp [RD.blocks])
  clear n4 hkp
  refine seq_at ?_
  go_wp2
  show Code.wp _ _ _ _ _
  refine wp_block ?_
  go_loopw [4] (fun i wr => ∃ j : Nat, j ≤ ks.length ∧ i = .int .i64 j ∧ Has wr r.gS 9 r.cS 1 (strs (keptL S.wait S.safe (ks.take j))) ∧ Fr w wr [r.gS]) (fun i _ => ks.length - (intOf i).toNat)
  case atStart => exact ⟨0, Nat.zero_le _, rfl, h.safe, Fr.refl _ _⟩
  case round =>
    obtain ⟨j, hj, rfl, mS, hf⟩ := hrel
    by_cases hlt : j < ks.length
    · obtain rfl := HA.out (by omega)
      have ck0 : wr.cell? ⟨g, off + j, none⟩ = some (.int .i64 (ks.getD j 0)) := by
        have := HK.out j hlt
        rw [World.cell?_of_block (hf.block g (lt_of_cell this) (by simpa using hgq))]; exact this
      have m0 := hf.row h.row (by simpa using n1)
      have c0 : wr.cell? ⟨r.q, 0, none⟩ = some (.slice (some ⟨r.gS, 0, none⟩) S.safe.length r.cS) := m0.cell 0
      have c2 : wr.cell? ⟨r.q, 2, none⟩ = some r.wv := m0.cell 2
      have hW : wr.ownsRow 0 299 2 r.wv S.wait.length (waits S.wait) := by
        refine h.wait.kept (row := some r.gS) ⟨hf.os, hf.tape, hf.output, hf.size, fun k hk hne => hf.block k hk (by simpa using hne)⟩ ?_
        cases hv : r.wv.ownBlock with
        | none => exact .inl rfl
        | some b => exact .inr (fun e => (HN4.out b hv).2.1 (by simpa using e.symm))
      have hstep : Hid (keptL S.wait S.safe (ks.take (j + 1)) = kept1 S.wait (keptL S.wait S.safe (ks.take j)) (ks.getD j 0)) := by
        show _ = _
        rw [take_snoc ks j 0 hlt, keptL_snoc]
      have hlk := keptL_len S.wait S.safe (ks.take j)
      generalize ks.getD j 0 = k at ck0 hstep
      generalize keptL S.wait S.safe (ks.take j) = l at mS hstep hlk
      by_cases hin : 0 ≤ k ∧ k < S.wait.length
      · obtain ⟨kn, rfl⟩ := Int.eq_ofNat_of_zero_le hin.1
        have hkn : kn < S.wait.length := by omega
        obtain ⟨gW, cW, hwv, _, lW⟩ := hW.form (by omega)
        have hcell := hW.cells (g := gW) (by rw [hwv]; rfl)
        obtain ⟨g1, g2⟩ := waits_get S.wait kn hkn
        have hadd : ∀ i, (⟨gW, 0, none⟩ : Addr).add i = ⟨gW, i, none⟩ := fun i => by unfold Addr.add; split <;> simp_all
        have d1 := hcell _ _ g1
        have d2 := hcell _ _ g2
        rw [hadd] at d1 d2
        have hwr := ok.wr (S.wait.getD kn (0, ByteArray.empty)) (by rw [List.getD_eq_getElem?_getD, List.getElem?_eq_getElem hkn]; exact List.getElem_mem hkn)
        have hst2 : Hid (keptL S.wait S.safe (ks.take (j + 1)) = l.set (S.wait.getD kn (0, ByteArray.empty)).1 (S.wait.getD kn (0, ByteArray.empty)).2) := by
          show _ = _
          rw [hstep.out]
          unfold kept1
          rw [if_pos hin]
          rfl
        generalize S.wait.getD kn (0, ByteArray.empty) = x at d1 d2 hwr hst2
        obtain ⟨xa, xd⟩ := x
        simp only at d1 d2 hwr hst2
        rw [hwv] at c2
        have cs := mS.cell xa (by rw [strs_length, hlk]; exact hwr.1)
        rw [strs_get _ _ (by rw [hlk]; exact hwr.1)] at cs
        have fs := mS.frozen xa
        generalize l.getD xa ByteArray.empty = old at cs
        have sS : Hid (Has (wr.setCell ⟨r.gS, xa, none⟩ (.string xd)).drew r.gS 9 r.cS 1 (strs (keptL S.wait S.safe (ks.take (j + 1))))) := by
          have := mS.set xa (.string xd)
          rw [strs_set, ← hst2.out] at this
          exact this.keep rfl
        have sF : Hid (Fr w (wr.setCell ⟨r.gS, xa, none⟩ (.string xd)).drew [r.gS]) := (hf.setCell _ _ (.inl (by simp))).drew
        have l1 := hwr.1
        clear hcell hW m0 mS hf hstep hst2 g1 g2 hadd hwr h hQ
        go_wp2
        go_region
        clear d1 d2 cs fs c0 c2 ck0
        go_wp2
        exact ⟨⟨j + 1, by omega, by go_num, sS.out, sF.out⟩, by simp [intOf]; omega⟩
      · have hst2 : Hid (keptL S.wait S.safe (ks.take (j + 1)) = l) := by
          show _ = _
          rw [hstep.out]
          unfold kept1
          rw [if_neg hin]
        rw [← hst2.out] at mS
        have hlenw : ∃ aw cw, r.wv = .slice aw S.wait.length cw := by
          rcases hW.2 with ⟨e, e0⟩ | ⟨g', cap', cur, e, _⟩
          · exact ⟨none, 0, by rw [e, e0]⟩
          · exact ⟨_, _, e⟩
        obtain ⟨aw, cw, hwv⟩ := hlenw
        rw [hwv] at c2
        clear hW m0 hstep hst2 h hQ
        by_cases hneg : k < 0
        · go_wp2
          exact ⟨⟨j + 1, by omega, by go_num, mS, hf⟩, by simp [intOf]; omega⟩
        · have hge : ¬ k < (S.wait.length : Int) := by omega
          go_wp2
          exact ⟨⟨j + 1, by omega, by go_num, mS, hf⟩, by simp [intOf]; omega⟩
    · have ej : j = ks.length := by omega
      subst ej
      rw [List.take_length] at mS
      go_wp2
      exact hQ.out _ _ _ _ _ _ _ _ _ _ _ _ _ _ _ _ _ _ _ _ _ _ _ _ _ _ _ _ _ _ _ _ _ _ _ _ _ _ _ _ _ _ _ _ _ mS hf
set_option maxHeartbeats 4000000 in
set_option maxRecDepth 1000000 in
theorem crashB_any {x1 x2 x3 x4 x5 x6 x7 x8 x9 x10 x11 x12 x13 x14 x15 x16 x17 x18 x19 x20 x21 x22 x23 x24 x25 x26 x27 x28 x29 x30 x31 x32 x33 x34 x35 x36 x37 x38 x39 x40 x41 x42 x43 x44 x45 x46 x47 x48 x49 x50 x51 x52 x53 x54 x55 x56 x57 x58 x59 x60 x61 x62 x63 x64 x65 x66 x67 x68 x69 x70 x71 x72 x73 x74 x75 x76 x77 x78 x79 : Value} (q gS cS gE cE n : Nat) (r2 r3 r4 r5 : Value) (l e : List ByteArray) (w : World) (R : Act → World → Prop)
    (hn : n ≤ 4096) (m0 : RowIs w q 139 [.slice (some ⟨gS, 0, none⟩) n cS, .slice (some ⟨gE, 0, none⟩) n cE, r2, r3, r4, r5]) (hl : l.length = n) (he : e.length = n) (hS : Has w gS 9 cS 1 (strs l)) (hE : Has w gE 9 cE 1 (strs e)) (n1 : q ≠ gE) (n2 : gS ≠ gE)
    (hQ : Hid (∀ (y6 y49 y50 y51 y52 y53 y54 y55 y56 y57 y58 y59 y60 y61 y62 y63 y64 y65 y66 y67 y68 y69 y70 : Value) (w' : World), Has w' gE 9 cE 1 (strs l) → Fr w w' [gE] → R ⟨#[.pointer (some ⟨q, 0, none⟩), x1, x2, x3, x4, x5, y6, x7, x8, x9, x10, x11, x12, x13, x14, x15, x16, x17, x18, x19, x20, x21, x22, x23, x24, x25, x26, x27, x28, x29, x30, x31, x32, x33, x34, x35, x36, x37, x38, x39, x40, x41, x42, x43, x44, x45, x46, x47, x48, y49, y50, y51, y52, y53, y54, y55, y56, y57, y58, y59, y60, y61, y62, y63, y64, y65, y66, y67, y68, y69, y70, x71, x72, x73, x74, x75, x76, x77, x78, x79], []⟩ w')) :
    Code.wp Tryz.prog crashB (At R) ⟨#[.pointer (some ⟨q, 0, none⟩), x1, x2, x3, x4, x5, x6, x7, x8, x9, x10, x11, x12, x13, x14, x15, x16, x17, x18, x19, x20, x21, x22, x23, x24, x25, x26, x27, x28, x29, x30, x31, x32, x33, x34, x35, x36, x37, x38, x39, x40, x41, x42, x43, x44, x45, x46, x47, x48, x49, x50, x51, x52, x53, x54, x55, x56, x57, x58, x59, x60, x61, x62, x63, x64, x65, x66, x67, x68, x69, x70, x71, x72, x73, x74, x75, x76, x77, x78, x79], []⟩ w := by
  conv => arg 2; whnf
  refine seq_at ?_
  go_wp2
  show Code.wp _ _ _ _ _
  refine wp_block ?_
  go_loopw [6] (fun i wr => ∃ j : Nat, j ≤ n ∧ i = .int .i64 j ∧ Has wr gE 9 cE 1 (strs (upto e l j)) ∧ Fr w wr [gE]) (fun i _ => n - (intOf i).toNat)
  case atStart => exact ⟨0, Nat.zero_le _, rfl, by simpa [upto] using hE, Fr.refl _ _⟩
  case round =>
    obtain ⟨j, hj, rfl, mE, hf⟩ := hrel
    have m1 := hf.row m0 (by simpa using n1)
    have mS := hS.fr hf (by simpa using n2)
    have c0 : wr.cell? ⟨q, 0, none⟩ = some (.slice (some ⟨gS, 0, none⟩) n cS) := m1.cell 0
    have c1 : wr.cell? ⟨q, 1, none⟩ = some (.slice (some ⟨gE, 0, none⟩) n cE) := m1.cell 1
    have hel : e.length = l.length := by omega
    by_cases hlt : j < n
    · have cs := mS.cell j (by rw [strs_length]; omega)
      rw [strs_get _ _ (by omega)] at cs
      have ce := mE.cell j (by rw [strs_length, upto_len _ _ _ hel]; omega)
      rw [strs_get _ _ (by rw [upto_len _ _ _ hel]; omega)] at ce
      have fe := mE.frozen j
      have hst : Hid _ := upto_step e l j hel (by omega)
      generalize l.getD j ByteArray.empty = x at cs hst
      generalize (upto e l j).getD j ByteArray.empty = old at ce
      have sE : Hid (Has (wr.setCell ⟨gE, j, none⟩ (.string x)).drew gE 9 cE 1 (strs (upto e l (j + 1)))) := by
        have := mE.set j (.string x)
        rw [strs_set, hst.out] at this
        exact this.keep rfl
      have sF : Hid (Fr w (wr.setCell ⟨gE, j, none⟩ (.string x)).drew [gE]) := (hf.setCell _ _ (.inl (by simp))).drew
      clear m0 m1 hS hE mS mE hf hQ
      go_wp2
      go_region
      clear cs ce fe c0 c1
      go_wp2
      exact ⟨⟨j + 1, by omega, by go_num, sE.out, sF.out⟩, by simp [intOf]; omega⟩
    · have ej : j = e.length := by omega
      subst ej
      rw [upto_end _ _ hel] at mE
      clear m0 hS hE m1 mS
      go_wp2
      exact hQ.out _ _ _ _ _ _ _ _ _ _ _ _ _ _ _ _ _ _ _ _ _ _ _ _ mE hf

set_option maxRecDepth 100000 in
set_option maxHeartbeats 2000000 in
theorem refCrash_any {w : World} {r : RD} {S : Dk} {left : Int} {lit : Bool} (h : RefAt w r S left lit) (ok : S.Ok) (a0 : Option Addr) (g off ck : Nat) (ks : List Int) (hks : ks.length ≤ 1000000) (hkp : KeepAt w a0 g off ks) (hg : g ∉ r.blocks) :
    Calls Tryz.prog 120 #[.pointer (some ⟨r.q, 0, none⟩), .slice a0 ks.length ck] w fun e w' =>
      e = .returned (.tuple #[]) ∧ (∃ r', RefAt w' r' ⟨keptL S.wait S.safe ks, [], 0, false⟩ left false ∧ r'.q = r.q ∧ (∀ b ∈ r'.blocks, b ∈ r.blocks ∨ w.heap.size ≤ b)) ∧ Fr w w' r.blocks := by
  obtain ⟨n1, n2, n3, n4⟩ := h.ne
  have hlk := keptL_len S.wait S.safe ks
  go_enter Tryz.func120, Tryz.ntmps120
  refine seq_at (crashA_any r S left lit a0 g off ck ks _ _ h ok hks hkp hg ?_)
  refine fun y4 y5 y7 y8 y9 y10 y11 y12 y13 y14 y15 y16 y17 y18 y19 y20 y21 y22 y23 y24 y25 y26 y27 y28 y29 y30 y31 y32 y33 y34 y35 y36 y37 y38 y39 y40 y41 y42 y43 y44 y45 y46 y47 y48 w1 hS1 hf1 => ?_
  show Code.wp _ _ _ _ _
  have m1 := hf1.row h.row (by simpa using n1)
  have hE1 := h.seen.fr hf1 (by simpa using n3.symm)
  refine seq_at (crashB_any r.q r.gS r.cS r.gE r.cE S.safe.length _ _ _ _ (keptL S.wait S.safe ks) S.seen _ _ ok.most m1 hlk S.seen_length hS1 hE1 n2 n3 ?_)
  refine fun z6 z49 z50 z51 z52 z53 z54 z55 z56 z57 z58 z59 z60 z61 z62 z63 z64 z65 z66 z67 z68 z69 z70 w2 hE2 hf2 => ?_
  show Code.wp _ _ _ _ _
  have m2 := hf2.row m1 (by simpa using n2)
  have hS2 := hS1.fr hf2 (by simpa using n3)
  have hF2 : Fr w w2 r.blocks := (hf1.wider (by simp [RD.blocks])).trans hf2 (by intro x hx _; simp at hx; subst hx; simp [RD.blocks])
  have c2 : w2.cell? ⟨r.q, 2, none⟩ = some r.wv := m2.cell 2
  have c4 : w2.cell? ⟨r.q, 4, none⟩ = some (.bool lit) := m2.cell 4
  have c5 : w2.cell? ⟨r.q, 5, none⟩ = some (.bool S.down) := m2.cell 5
  have f2 := m2.frozen 2
  have f4 := m2.frozen 4
  have f5 := m2.frozen 5
  have HM : Hid _ := ((m2.set 2 (.slice none 0 0)).set 4 (.bool false)).set 5 (.bool false)
  have HS : Hid _ := ((hS2.other (a := ⟨r.q, 2, none⟩) (.slice none 0 0) n1.symm).other (a := ⟨r.q, 4, none⟩) (.bool false) n1.symm).other (a := ⟨r.q, 5, none⟩) (.bool false) n1.symm
  have HE : Hid _ := ((hE2.other (a := ⟨r.q, 2, none⟩) (.slice none 0 0) n2.symm).other (a := ⟨r.q, 4, none⟩) (.bool false) n2.symm).other (a := ⟨r.q, 5, none⟩) (.bool false) n2.symm
  have HF : Hid _ := ((hF2.setCell ⟨r.q, 2, none⟩ (.slice none 0 0) (.inl (by simp [RD.blocks]))).setCell ⟨r.q, 4, none⟩ (.bool false) (.inl (by simp [RD.blocks]))).setCell ⟨r.q, 5, none⟩ (.bool false) (.inl (by simp [RD.blocks]))
  have hcaps := h.caps
  have hsm := h.small
  clear m1 m2 hS1 hS2 hE1 hE2 hf1 hf2 hF2 h hkp
  go_wp2
  go_end0
  refine ⟨rfl, ⟨⟨r.q, r.gS, r.cS, r.gE, r.cE, .slice none 0 0⟩, ⟨?_, HS.out, HE.out, World.ownsRow_nil _ _ _ _, ?_, hcaps, fun _ => ⟨rfl, fun h => absurd h (Nat.lt_irrefl 0)⟩, hsm⟩, rfl, ?_⟩, HF.out⟩
  · show RowIs _ _ _ [.slice (some ⟨r.gS, 0, none⟩) (keptL S.wait S.safe ks).length r.cS, .slice (some ⟨r.gE, 0, none⟩) (keptL S.wait S.safe ks).length r.cE, _, _, _, _]
    rw [hlk]; exact HM.out
  · show (r.q :: r.gS :: r.gE :: []).Nodup
    simp only [List.nodup_cons, List.mem_cons, List.not_mem_nil, or_false, not_or, not_false_eq_true, List.nodup_nil, and_true]
    exact ⟨⟨n1, n2⟩, n3⟩
  · intro b hb
    have hb' : b ∈ (r.q :: r.gS :: r.gE :: []) := hb
    simp only [List.mem_cons, List.not_mem_nil, or_false] at hb'
    left
    rcases hb' with rfl | rfl | rfl <;> simp [RD.blocks]
end Go.Proofs.YtdidjdoifpfmmaaGreatDoor
namespace Go.Proofs.YtdidjdoifpfmmaaGreatDoor
open Go.RowKit
noncomputable def crA : Code := fstC (sndC (sndC crCode))
theorem kept_sizes (ws : List (Nat × ByteArray)) (l : List ByteArray) (ks : List Int) (h : ∀ x ∈ l, x.size = 64) (hw : ∀ x ∈ ws, x.2.size = 64) : ∀ x ∈ keptL ws l ks, x.size = 64 := by
  induction ks generalizing l with
  | nil => exact h
  | cons k ks ih =>
    intro x hx
    refine ih (kept1 ws l k) ?_ x hx
    intro y hy
    unfold kept1 at hy
    split at hy
    · rename_i hin
      rcases List.mem_or_eq_of_mem_set hy with hy | hy
      · exact h y hy
      · rw [hy, List.getD_eq_getElem?_getD, List.getElem?_eq_getElem (by omega)]
        exact hw _ (List.getElem_mem _)
    · exact h y hy
set_option maxRecDepth 100000 in
set_option maxHeartbeats 4000000 in
theorem crA_any {df : List Deferred} {x2 x3 x4 x5 x6 x7 x8 x9 x10 x11 x12 x13 x14 x15 x16 x17 x18 x19 x20 x21 x22 x23 x24 x25 x26 x27 x28 x29 x30 x31 x32 x33 x34 x35 x36 x37 x38 x39 x40 x41 x42 x43 x44 x45 x46 x47 x48 x49 x50 x51 x52 x53 x54 x55 : Value} {w : World} {d : DP} {S : Dk} (h : Locked w d S) (ok : S.Ok) (a0 : Option Addr) (g off ck : Nat) (ks : List Int) (hks : ks.length ≤ 1000000) (hkp : KeepAt w a0 g off ks) (hg : g ∉ d.blocks) (R : Act → World → Prop)
    (hQ : Hid (∀ (y5 y6 y14 y15 y16 y17 y18 y19 y20 y21 y22 y23 y24 y25 y26 y27 y28 y29 y30 y31 y32 y33 y34 y35 y36 y37 y38 y39 y40 y41 y42 y43 y44 y45 y46 y47 : Value) (w' : World), RowIs w' d.gs 190 (secs (keptL S.wait S.safe ks)) → Fr w w' [d.gs] → R ⟨#[.pointer (some ⟨d.p, 0, none⟩), .slice a0 ks.length ck, x2, x3, x4, y5, y6, x7, x8, x9, x10, x11, x12, x13, y14, y15, y16, y17, y18, y19, y20, y21, y22, y23, y24, y25, y26, y27, y28, y29, y30, y31, y32, y33, y34, y35, y36, y37, y38, y39, y40, y41, y42, y43, y44, y45, y46, y47, x48, x49, x50, x51, x52, x53, x54, x55], df⟩ w')) :
    Code.wp Tryz.prog crA (At R) ⟨#[.pointer (some ⟨d.p, 0, none⟩), .slice a0 ks.length ck, x2, x3, x4, x5, x6, x7, x8, x9, x10, x11, x12, x13, x14, x15, x16, x17, x18, x19, x20, x21, x22, x23, x24, x25, x26, x27, x28, x29, x30, x31, x32, x33, x34, x35, x36, x37, x38, x39, x40, x41, x42, x43, x44, x45, x46, x47, x48, x49, x50, x51, x52, x53, x54, x55], df⟩ w := by
  conv => arg 2; whnf
  obtain ⟨np, npm, ngm, nown⟩ := h.ne
  obtain ⟨aw, cw, hwv⟩ := h.slice
  have hfew := ok.few
  have hmost := ok.most
  have hgq : g ≠ d.gs := fun e => hg (by rw [e]; simp [DP.blocks])
  have HW : Hid _ := h
  have HK : Hid _ := hkp.2
  have HA : Hid _ := hkp.1
  clear h hkp
  refine seq_at ?_
  go_wp2
  show Code.wp _ _ _ _ _
  refine wp_block ?_
  go_loopw [16] (fun i wr => ∃ j : Nat, j ≤ ks.length ∧ i = .int .i64 j ∧ RowIs wr d.gs 190 (secs (keptL S.wait S.safe (ks.take j))) ∧ Fr w wr [d.gs]) (fun i _ => ks.length - (intOf i).toNat)
  case atStart => exact ⟨0, Nat.zero_le _, rfl, by simpa [keptL] using HW.out.safe, Fr.refl _ _⟩
  case round =>
    obtain ⟨j, hj, rfl, hs, hf⟩ := hrel
    by_cases hlt : j < ks.length
    · obtain rfl := HA.out (by omega)
      have ck0 : wr.cell? ⟨g, off + j, none⟩ = some (.int .i64 (ks.getD j 0)) := by
        have := HK.out j hlt
        rw [World.cell?_of_block (hf.block g (World.block_lt_of_cell? w _ this) (by simpa using hgq))]; exact this
      have hstep : Hid (keptL S.wait S.safe (ks.take (j + 1)) = kept1 S.wait (keptL S.wait S.safe (ks.take j)) (ks.getD j 0)) := by
        show _ = _
        rw [take_snoc ks j 0 hlt, keptL_snoc]
      have hlk := keptL_len S.wait S.safe (ks.take j)
      have hsz := fun x hx => (ok.wr x hx).2
      have hos := kept_sizes S.wait S.safe (ks.take j) ok.sec hsz
      have rp := hf.row HW.out.row (by simpa using np)
      have c3 : wr.cell? ⟨d.p, 3, none⟩ = some (.slice aw S.wait.length cw) := by rw [← hwv]; exact rp.cell 3
      generalize ks.getD j 0 = kk at ck0 hstep
      generalize keptL S.wait S.safe (ks.take j) = l at hs hstep hlk hos
      by_cases hin : 0 ≤ kk ∧ kk < S.wait.length
      · obtain ⟨kn, rfl⟩ := Int.eq_ofNat_of_zero_le hin.1
        have hkn : kn < S.wait.length := by omega
        obtain ⟨gw, cap, hwv', hw, hlc, hcm, m1, m2, m3⟩ := HW.out.waits (by omega)
        have e := hwv.symm.trans hwv'
        injection e with e1 _ e2
        subst e1 e2
        have hwr := hw.fr hf (by simpa using m2.symm)
        have hrg := wcells_range hwr hsz kn hkn
        have hat := (ok.wr _ (List.getElem_mem hkn)).1
        have hx64 := hsz _ (List.getElem_mem hkn)
        have hst2 : keptL S.wait S.safe (ks.take (j + 1)) = l.set S.wait[kn].1 S.wait[kn].2 := by
          rw [hstep.out]
          unfold kept1
          rw [if_pos hin, Int.toNat_natCast, List.getD_eq_getElem?_getD, List.getElem?_eq_getElem hkn]
          rfl
        generalize S.wait[kn].1 = k at *
        generalize S.wait[kn].2 = x at *
        have hl64 := sec_length x hx64
        have hB : ∀ o, Below wr.heap.size wr (wr.alloc o) := fun o => (Below.refl _ _).alloc (Nat.le_refl _) _
        have cp2 : ∀ o, (wr.alloc o).cell? ⟨d.p, 2, none⟩ = some (.slice (some ⟨d.gs, 0, none⟩) S.safe.length S.safe.length) := fun o => (rp.below (hB o) rp.lt).cell 2
        have hs2 : ∀ o, RowIs (wr.alloc o) d.gs 190 (secs l) := fun o => hs.below (hB o) hs.lt
        have ht2 := fun o => secs_there (hs2 o) hos k (by omega)
        have rw_ := RowIs.new wr 192 (.int .i64 (k : Nat) :: bytes (textOf x))
        have ca2 : (wr.alloc (.cells (.int .i64 (k : Nat) :: bytes (textOf x)).toArray 192)).cell? ⟨wr.heap.size, 0, none⟩ = some (.int .i64 (k : Nat)) := rw_.cell 0
        have hrg2 : (wr.alloc (.cells (.int .i64 (k : Nat) :: bytes (textOf x)).toArray 192)).rangeAt wr.heap.size 1 (bytes (textOf x)) := by
          intro i v hv
          rw [rw_.cell, Nat.add_comm 1 i, List.getElem?_cons_succ, hv]
        have hsl := hs.lt
        have HN : Hid (RowIs ((wr.alloc (.cells (.int .i64 (k : Nat) :: bytes (textOf x)).toArray 192)).drew.setCells d.gs (k * 64) (bytes (textOf x))) d.gs 190 (secs (keptL S.wait S.safe (ks.take (j + 1))))) := by
          rw [hst2]
          exact secs_store (hs2 _).drew hos k (by omega) x hx64
        have HF : Hid (Fr w ((wr.alloc (.cells (.int .i64 (k : Nat) :: bytes (textOf x)).toArray 192)).drew.setCells d.gs (k * 64) (bytes (textOf x))) [d.gs]) := fr_many _ _ _ (hf.alloc _).drew (.inl (by simp))
        have hone : ∀ v ∈ bytes (textOf x), v.oneCell' = true := by
          intro v hv
          obtain ⟨n, _, rfl⟩ := List.mem_map.1 hv
          rfl
        have hoC : (.int .i64 (k : Nat) :: bytes (textOf x) : List Value).toArray.all (·.oneCell') = true := all_oneCell_toArray (by
          intro v hv
          rcases List.mem_cons.1 hv with rfl | hv
          · rfl
          · exact hone v hv)
        have hlC : (.int .i64 (k : Nat) :: bytes (textOf x) : List Value).length = 65 := by rw [List.length_cons, hl64]
        generalize bytes (textOf x) = D at *
        generalize (.int .i64 (k : Nat) :: D : List Value) = C at *
        have hiC : (Tryz.prog.info? 192).map (·.size) = some C.length := by rw [hlC]; exact wrSize
        have hiC2 : (Tryz.prog.info? 192).map (·.size) = some C.toArray.size := hiC
        have hsC : (Tryz.zeroCells192).size = C.toArray.size := by rw [show C.toArray.size = 65 from hlC, zeroW]; simp
        have HT : Hid _ := ht2
        have HR2 : Hid _ := hrg2
        have HO : Hid _ := hone
        clear hs hs2 rw_ rp hB hwr hf hw hos ht2 hrg2 hone hsz hstep hst2
        go_wp2_with (first
          | (refine wpList_load_mid rfl 192 _ rfl gw (kn * 65) rfl _ _ hrg Tryz.underlying192 rfl hiC ?_)
          | (refine wpList_store_new rfl 192 _ _ rfl wr.heap.size _ C.toArray rfl rfl rfl hiC2 hsC hoC ?_))
        refine wp_at (cr7_any d.p d.gs wr.heap.size S.safe.length k D _ _ (cp2 _) ca2 HR2.out hl64 HO.out hat hmost (HT.out _) np (by omega) ?_)
        refine fun y38 y39 y40 y41 y42 y43 y44 y45 y46 => ?_
        go_wp2
        exact ⟨⟨j + 1, by omega, by go_num, HN.out, HF.out⟩, by simp [intOf]; omega⟩
      · have hst2 : keptL S.wait S.safe (ks.take (j + 1)) = l := by
          rw [hstep.out]
          unfold kept1
          rw [if_neg hin]
        rw [← hst2] at hs
        have HS : Hid _ := hs
        have HF : Hid _ := hf
        clear hs hf rp hstep hst2
        by_cases hneg : kk < 0
        · go_wp2
          exact ⟨⟨j + 1, by omega, by go_num, HS.out, HF.out⟩, by simp [intOf]; omega⟩
        · have hge : ¬ kk < (S.wait.length : Int) := by omega
          go_wp2
          exact ⟨⟨j + 1, by omega, by go_num, HS.out, HF.out⟩, by simp [intOf]; omega⟩
    · have ej : j = ks.length := by omega
      subst ej
      rw [List.take_length] at hs
      have HS : Hid _ := hs
      clear hs
      go_wp2
      exact hQ.out _ _ _ _ _ _ _ _ _ _ _ _ _ _ _ _ _ _ _ _ _ _ _ _ _ _ _ _ _ _ _ _ _ _ _ _ _ HS.out hf
end Go.Proofs.YtdidjdoifpfmmaaGreatDoor
namespace Go.Proofs.YtdidjdoifpfmmaaGreatDoor
open Go.RowKit
set_option maxRecDepth 100000 in
set_option maxHeartbeats 4000000 in
theorem devCrash_any {w : World} {d : DP} {S : Dk} (h : DevAt w d S) (ok : S.Ok) (a0 : Option Addr) (g off ck : Nat) (ks : List Int) (hks : ks.length ≤ 1000000) (hkp : KeepAt w a0 g off ks) (hg : g ∉ d.blocks) :
    Calls Tryz.prog 59 #[.pointer (some ⟨d.p, 0, none⟩), .slice a0 ks.length ck] w fun e w' =>
      e = .returned (.tuple #[]) ∧ (∃ d', DevAt w' d' ⟨keptL S.wait S.safe ks, [], 0, false⟩ ∧ d'.p = d.p ∧ (∀ b ∈ d'.blocks, b ∈ d.blocks ∨ w.heap.size ≤ b)) ∧ Fr w w' d.blocks := by
  have z0 : w.cell? ⟨d.p, 0, none⟩ = some (.int .i32 0) := h.row.cell 0
  have z1 := h.row.frozen 0
  have hL := h.lock
  obtain ⟨np, npm, ngm, nown⟩ := h.ne
  have hfL : Fr w (w.setCell ⟨d.p, 0, none⟩ (.int .i32 1)) d.blocks := (Fr.refl _ _).setCell _ _ (.inl (by simp [DP.blocks]))
  have hkL : KeepAt (w.setCell ⟨d.p, 0, none⟩ (.int .i32 1)) a0 g off ks := ⟨hkp.1, fun j hj => by
    rw [World.cell?_setCell_other _ _ _ _ (by simp; intro e _; exact hg (by rw [← e]; simp [DP.blocks]))]
    exact hkp.2 j hj⟩
  have hlk := keptL_len S.wait S.safe ks
  generalize hWL : w.setCell ⟨d.p, 0, none⟩ (.int .i32 1) = L at *
  have HL : Hid _ := hL
  have HK : Hid _ := hkL
  have HB : Hid _ := hfL
  clear h hkp hL hkL hfL
  go_enter_defers Tryz.func59, Tryz.ntmps59
  refine seq_at ?_
  go_wp2_with (go_at_call 57; refine (lock_free ⟨d.p, 0, none⟩ _ z0 z1).mono ?_; rintro e w' ⟨rfl, rfl⟩)
  show Code.wp _ _ _ _ _
  refine seq_at ?_
  go_wp2
  show Code.wp _ _ _ _ _
  refine seq_at (crA_any HL.out ok a0 g off ck ks hks HK.out hg _ ?_)
  refine fun y5 y6 y14 y15 y16 y17 y18 y19 y20 y21 y22 y23 y24 y25 y26 y27 y28 y29 y30 y31 y32 y33 y34 y35 y36 y37 y38 y39 y40 y41 y42 y43 y44 y45 y46 y47 w1 hs f1 => ?_
  show Code.wp _ _ _ _ _
  have h := HL.out
  have rp := f1.row h.row (by simpa using np)
  have hm1 := map_fr h.last f1 (by simpa using ngm.symm)
  have hfo := devForget_any rp hm1 npm
  have HQ : Hid (∀ w2, RowIs w2 d.p 88 ({ d with wv := .slice none 0 0 }.cells S 1) → w2.ownsMap (H := Unit) Tryz.prog 3 (plainElem Tryz.prog 3) d.gm 0 (.map []) → Fr w1 w2 [d.p, d.gm] → Locked ((w2.setCell ⟨d.p, 5, none⟩ (.int .i64 0)).setCell ⟨d.p, 6, none⟩ (.bool false)) { d with wv := .slice none 0 0 } ⟨keptL S.wait S.safe ks, [], 0, false⟩ ∧ Fr w ((w2.setCell ⟨d.p, 5, none⟩ (.int .i64 0)).setCell ⟨d.p, 6, none⟩ (.bool false)) d.blocks) := by
    intro w2 hr hm f2
    have f3 : Fr w2 ((w2.setCell ⟨d.p, 5, none⟩ (.int .i64 0)).setCell ⟨d.p, 6, none⟩ (.bool false)) [d.p] := ((Fr.refl _ _).setCell _ _ (.inl (by simp))).setCell _ _ (.inl (by simp))
    refine ⟨⟨?_, f3.row (f2.row hs (by simp; exact ⟨np.symm, ngm⟩)) (by simpa using np.symm), World.ownsRow_nil _ _ _ _, map_fr hm f3 (by simpa using npm.symm), ?_⟩, ((HB.out.trans f1 (by simp [DP.blocks])).trans f2 (by intro y hy _; simp at hy; rcases hy with rfl | rfl <;> simp [DP.blocks])).trans f3 (by simp [DP.blocks])⟩
    · show RowIs _ _ _ [_, _, .slice (some ⟨d.gs, 0, none⟩) (keptL S.wait S.safe ks).length (keptL S.wait S.safe ks).length, _, _, _, _]
      rw [hlk]
      exact (hr.set 5 (.int .i64 0)).set 6 (.bool false)
    · show (d.p :: d.gs :: d.gm :: []).Nodup
      simp only [List.nodup_cons, List.mem_cons, List.not_mem_nil, or_false, not_or, not_false_eq_true, List.nodup_nil, and_true]
      exact ⟨⟨np, npm⟩, ngm⟩
  clear h rp hm1 hs f1
  refine seq_at ?_
  go_wp2_with (go_at_call 104; refine hfo.mono ?_; rintro e w' ⟨rfl, h1, h2, h3⟩)
  show Code.wp _ _ _ _ _
  have c5 : w'.cell? ⟨d.p, 5, none⟩ = some (.int .i64 (S.fuse : Nat)) := h1.cell 5
  have f5 := h1.frozen 5
  have h15 := h1.set 5 (.int .i64 0)
  have c6 : (w'.setCell ⟨d.p, 5, none⟩ (.int .i64 0)).cell? ⟨d.p, 6, none⟩ = some (.bool S.down) := h15.cell 6
  have f6 := h15.frozen 6
  have HE : Hid _ := HQ.out w' h1 h2 h3
  have h16 := h15.set 6 (.bool false)
  have q0 : ((w'.setCell ⟨d.p, 5, none⟩ (.int .i64 0)).setCell ⟨d.p, 6, none⟩ (.bool false)).cell? ⟨d.p, 0, none⟩ = some (.int .i32 1) := h16.cell 0
  have q1 := h16.frozen 0
  clear h1 h2 h3 h15 h16
  go_wp2
  refine leaves_cons (f := 58) (args := #[.pointer (some ⟨d.p, 0, none⟩)]) (by simp) (by simp [go_sem]) ?_
  refine (unlock_deferred ⟨d.p, 0, none⟩ .returning _ q0 q1).mono ?_
  rintro e u' w'' ⟨rfl, rfl, rfl⟩
  simp [Leaves, settle, results, Tryz.results59]
  refine ⟨⟨_, HE.out.1.free, rfl, ?_⟩, HE.out.2.setCell _ _ (.inl (by simp [DP.blocks]))⟩
  intro b hb
  have hb' : b ∈ (d.p :: d.gs :: d.gm :: []) := hb
  simp only [List.mem_cons, List.not_mem_nil, or_false] at hb'
  left
  rcases hb' with rfl | rfl | rfl <;> simp [DP.blocks]
end Go.Proofs.YtdidjdoifpfmmaaGreatDoor
