import Derived.Test.YtdidjdoifpfmmaaGreatDoorGT28
import Derived.Test.YtdidjdoifpfmmaaGreatDoorTreeArms
import Derived.Test.YtdidjdoifpfmmaaGreatDoorToldList
/- The calls of a tree of both, side by side. -/
namespace Go.Proofs.YtdidjdoifpfmmaaGreatDoor
open Go.RowKit
theorem mem_arcs {p rq mq : Nat} {y : TArc} {L1 : List It} {b1 m1 : ByteArray → Nat} {tv0 tv1 : Value} {L2 : List It} {b : Nat} : b ∈ allB (arcParts p rq mq y L1 b1 m1 tv0 tv1 L2) ↔ b = y.q ∨ b ∈ treeBlocks L1 b1 m1 ∨ b = y.bq ∨ tv1.ownBlock = some b := by
  simp [allB, arcParts, rowP, treeP, ownP]
section
variable {a : Nat → Addr} {w0 w : World} {mq p ga i : Nat} {x : TItem} {y : TArc}
/-- The program's tree has made the call, the document's not yet. -/
def MidA (a : Nat → Addr) (w0 : World) (n mq : Nat) (x : TItem) (y : TArc) (L' : List It) (w' : World) : Prop :=
  ∃ b1 m1, Hold w0.heap.size w' (devP x.d x.S :: refP x.r x.S x.left x.lit :: arcParts x.d.p x.r.q mq y L' b1 m1 y.tv y.tv y.L) ∧ (∀ b ∈ treeBlocks L' b1 m1, b ∈ treeBlocks y.L y.blk y.mblk ∨ n ≤ b) ∧ TreeOk L' ∧ Base a w0 w'
def DoneA (a : Nat → Addr) (w0 : World) (n mq : Nat) (x : TItem) (y : TArc) (L' : List It) (tv' : Value) (w' : World) : Prop :=
  ∃ b1 m1, Hold w0.heap.size w' (devP x.d x.S :: refP x.r x.S x.left x.lit :: arcParts x.d.p x.r.q mq y L' b1 m1 y.tv tv' L') ∧ (∀ b ∈ treeBlocks L' b1 m1, b ∈ treeBlocks y.L y.blk y.mblk ∨ n ≤ b) ∧ (∀ g, tv'.ownBlock = some g → y.tv.ownBlock = some g ∨ n ≤ g) ∧ TreeOk L' ∧ Base a w0 w'
theorem MidA.below {n : Nat} {L' : List It} {w1 w2 : World} (h : MidA a w0 n mq x y L' w1) (hb : Below w1.heap.size w1 w2) : MidA a w0 n mq x y L' w2 := by
  obtain ⟨b1, m1, h1, h2, h3, h4⟩ := h
  exact ⟨b1, m1, h1.below hb, h2, h3, h4.below hb⟩
theorem parts_some (hy : x.arc = some y) : x.parts mq = devP x.d x.S :: refP x.r x.S x.left x.lit :: arcParts x.d.p x.r.q mq y y.L y.blk y.mblk y.tv y.tv y.L := by
  unfold TItem.parts TItem.arcs
  rw [hy]
  rfl
theorem arc_of {w1 : World} {L1 : List It} {b1 m1 : ByteArray → Nat} {tv0 tv1 : Value} {L2 : List It} (h : Hold w0.heap.size w1 (devP x.d x.S :: refP x.r x.S x.left x.lit :: arcParts x.d.p x.r.q mq y L1 b1 m1 tv0 tv1 L2)) (ok : TreeOk L1) : ArcAt w1 y.q L1 b1 m1 := by
  have hrow : RowIs w1 y.q 119 (arcRow (.pointer (some ⟨b1 ⟨#[]⟩, 0, none⟩)) x.d.p y.ms (.slice none 0 0) 1 1 y.sc false) := h.at_ (rowP y.q 119 _) (by simp [arcParts])
  have ht : TreeAt w1 L1 b1 m1 := h.at_ (treeP L1 b1 m1) (by simp [arcParts])
  exact ⟨hrow.cell 0, ht, ok⟩
theorem midA_of {n : Nat} {w1 w' : World} {L' : List It} (bs : Base a w0 w1) (h : Hold w0.heap.size w1 (devP x.d x.S :: refP x.r x.S x.left x.lit :: arcParts x.d.p x.r.q mq y y.L y.blk y.mblk y.tv y.tv y.L)) (hd : ArcDone w1 w' y.q y.L L' y.blk y.mblk) (hn : n ≤ w1.heap.size) : MidA a w0 n mq x y L' w' ∧ Fr w1 w' (treeBlocks y.L y.blk y.mblk) := by
  obtain ⟨b1, m1, k1, k2, k3⟩ := hd
  have s := Step.at (ps := [devP x.d x.S, refP x.r x.S x.left x.lit, rowP y.q 119 (arcRow (.pointer (some ⟨y.blk ⟨#[]⟩, 0, none⟩)) x.d.p y.ms (.slice none 0 0) 1 1 y.sc false)]) (P := treeP y.L y.blk y.mblk) (Q := treeP L' b1 m1)
    (qs := [rowP y.bq 213 (ArRow (.pointer (some ⟨mq, 0, none⟩)) x.r.q 1 1 y.sc (.slice none 0 0) (.slice none 0 0) y.tv false), ownP 308 3 y.tv y.L.length (itCells y.L)]) bs.size h k1.tree k3 k2
  have hrow : RowIs w' y.q 119 (arcRow (.pointer (some ⟨y.blk ⟨#[]⟩, 0, none⟩)) x.d.p y.ms (.slice none 0 0) 1 1 y.sc false) := s.hold.at_ (rowP y.q 119 _) (by simp)
  have e : b1 ⟨#[]⟩ = y.blk ⟨#[]⟩ := by
    have h1 : w'.cell? ⟨y.q, 0, none⟩ = some (.pointer (some ⟨y.blk ⟨#[]⟩, 0, none⟩)) := hrow.cell 0
    rw [k1.root] at h1
    simpa using h1
  refine ⟨⟨b1, m1, ?_, fun b hb => (k2 b hb).imp id (fun hx => by omega), k1.ok, bs.fr k3 (fun b hb => h.far b (mem_item.2 (.inr (.inr (mem_arcs.2 (.inr (.inl hb)))))))⟩, k3⟩
  unfold arcParts
  rw [e]
  exact s.hold
theorem doneA_of {n : Nat} {w1 w' : World} {L' : List It} {tv' : Value} (h : MidA a w0 n mq x y L' w1) (hd : TreeDone w1 w' y.tv tv' L') (hn : n ≤ w1.heap.size) : DoneA a w0 n mq x y L' tv' w' ∧ Fr w1 w' y.tv.ownBlock.toList := by
  obtain ⟨b1, m1, k1, k2, k3, k4⟩ := h
  obtain ⟨l1, l2, l3⟩ := hd
  have s := Step.at (ps := [devP x.d x.S, refP x.r x.S x.left x.lit, rowP y.q 119 (arcRow (.pointer (some ⟨b1 ⟨#[]⟩, 0, none⟩)) x.d.p y.ms (.slice none 0 0) 1 1 y.sc false), treeP L' b1 m1, rowP y.bq 213 (ArRow (.pointer (some ⟨mq, 0, none⟩)) x.r.q 1 1 y.sc (.slice none 0 0) (.slice none 0 0) y.tv false)]) (P := ownP 308 3 y.tv y.L.length (itCells y.L)) (Q := ownP 308 3 tv' L'.length (itCells L')) (qs := []) k4.size k1 l1 l3
    (fun b hb => (l2 b (Option.mem_toList.1 hb)).imp (fun h => Option.mem_toList.2 h) id)
  exact ⟨⟨b1, m1, s.hold, k2, fun g hg => (l2 g hg).imp id (fun h => by omega), k3, k4.fr l3 (fun b hb => k1.far b (mem_item.2 (.inr (.inr (mem_arcs.2 (.inr (.inr (.inr (Option.mem_toList.1 hb)))))))))⟩, l3⟩
/-- What a call of a tree leaves. -/
def TreeTurned (a : Nat → Addr) (w0 w : World) (mq : Nat) (x : TItem) (w' : World) : Prop :=
  ∃ x' : TItem, x'.Ok ∧ x'.cells = x.cells ∧ x'.S = x.S ∧ Hold w0.heap.size w' (x'.parts mq) ∧ (∀ b ∈ allB (x'.parts mq), b ∈ allB (x.parts mq) ∨ w.heap.size ≤ b) ∧ Fr w w' (allB (x.parts mq)) ∧ Base a w0 w'
theorem treeTurned_of (hx : x.Ok) (hy : x.arc = some y) {L' : List It} {w2 : World} {tv' : Value} (hd : DoneA a w0 w.heap.size mq x y L' tv' w2) (f : Fr w w2 (treeBlocks y.L y.blk y.mblk ++ y.tv.ownBlock.toList)) : TreeTurned a w0 w mq x (w2.setCell ⟨y.bq, 7, none⟩ tv') := by
  obtain ⟨b1, m1, k1, k2, k3, k4, k5⟩ := hd
  have hrow : RowIs w2 y.bq 213 (ArRow (.pointer (some ⟨mq, 0, none⟩)) x.r.q 1 1 y.sc (.slice none 0 0) (.slice none 0 0) y.tv false) := k1.at_ (rowP y.bq 213 _) (by simp [arcParts])
  have fs : Fr w2 (w2.setCell ⟨y.bq, 7, none⟩ tv') [y.bq] := (Fr.refl _ _).setCell _ _ (.inl (by simp))
  have s := Step.at (ps := [devP x.d x.S, refP x.r x.S x.left x.lit, rowP y.q 119 (arcRow (.pointer (some ⟨b1 ⟨#[]⟩, 0, none⟩)) x.d.p y.ms (.slice none 0 0) 1 1 y.sc false), treeP L' b1 m1]) (P := rowP y.bq 213 (ArRow (.pointer (some ⟨mq, 0, none⟩)) x.r.q 1 1 y.sc (.slice none 0 0) (.slice none 0 0) y.tv false)) (Q := rowP y.bq 213 (ArRow (.pointer (some ⟨mq, 0, none⟩)) x.r.q 1 1 y.sc (.slice none 0 0) (.slice none 0 0) tv' false)) (qs := [ownP 308 3 tv' L'.length (itCells L')]) k5.size k1 (hrow.set 7 tv') fs (fun b hb => .inl hb)
  have hbq : y.bq ∈ allB (x.parts mq) := by rw [parts_some hy]; exact mem_item.2 (.inr (.inr (mem_arcs.2 (.inr (.inr (.inl rfl))))))
  refine ⟨⟨x.d, x.r, x.S, x.left, x.lit, some { y with L := L', blk := b1, mblk := m1, tv := tv' }⟩, ⟨hx.disk, fun z hz => by cases hz; exact k4⟩, ?_, rfl, s.hold, ?_, ?_, k5.fr fs (fun b hb => by rw [List.mem_singleton.1 hb]; exact k1.far _ (mem_item.2 (.inr (.inr (mem_arcs.2 (.inr (.inr (.inl rfl))))))))⟩
  · unfold TItem.cells TItem.pa TItem.pb
    rw [hy]
    rfl
  · intro b hb
    rw [parts_some hy]
    rw [parts_some (x := TItem.mk x.d x.r x.S x.left x.lit _) rfl] at hb
    rcases mem_item.1 hb with hb | hb | hb
    · exact .inl (mem_item.2 (.inl hb))
    · exact .inl (mem_item.2 (.inr (.inl hb)))
    · rcases mem_arcs.1 hb with hb | hb | hb | hb
      · exact .inl (mem_item.2 (.inr (.inr (mem_arcs.2 (.inl hb)))))
      · exact (k2 b hb).imp (fun h => mem_item.2 (.inr (.inr (mem_arcs.2 (.inr (.inl h)))))) id
      · exact .inl (mem_item.2 (.inr (.inr (mem_arcs.2 (.inr (.inr (.inl hb)))))))
      · exact (k3 b hb).imp (fun h => mem_item.2 (.inr (.inr (mem_arcs.2 (.inr (.inr (.inr h))))))) id
  · refine (f.wider (fun b hb => ?_)).trans fs (fun b hb _ => by rw [List.mem_singleton.1 hb]; exact hbq)
    rw [parts_some hy]
    rcases List.mem_append.1 hb with hb | hb
    · exact mem_item.2 (.inr (.inr (mem_arcs.2 (.inr (.inl hb)))))
    · exact mem_item.2 (.inr (.inr (mem_arcs.2 (.inr (.inr (.inr (Option.mem_toList.1 hb)))))))
/-- What the arms ask of places. -/
structure Spots (w : World) (x : TItem) (y : TArc) (mq ga : Nat) : Prop where
  h : Hold 0 w (devP x.d x.S :: refP x.r x.S x.left x.lit :: arcParts x.d.p x.r.q mq y y.L y.blk y.mblk y.tv y.tv y.L)
  lt1 : ∀ b ∈ treeBlocks y.L y.blk y.mblk, b < w.heap.size
  ga1 : ga ∉ treeBlocks y.L y.blk y.mblk
  lt2 : ∀ b ∈ y.tv.ownBlock.toList, b < w.heap.size
  ga2 : ga ∉ y.tv.ownBlock.toList
  c7 : w.cell? ⟨y.bq, 7, none⟩ = some y.tv
  f7 : w.frozen? ⟨y.bq, 7, none⟩ = false
  b1 : y.bq ∉ treeBlocks y.L y.blk y.mblk
  b2 : y.bq ∉ y.tv.ownBlock.toList
  gb : ga ≠ y.bq
theorem spots_of (h : Hold w0.heap.size w (x.parts mq)) (hy : x.arc = some y) (hga : ga ∉ allB (x.parts mq)) : Spots w x y mq ga := by
  rw [parts_some hy] at h hga
  have hrow : RowIs w y.bq 213 (ArRow (.pointer (some ⟨mq, 0, none⟩)) x.r.q 1 1 y.sc (.slice none 0 0) (.slice none 0 0) y.tv false) := h.at_ (rowP y.bq 213 _) (by simp [arcParts])
  have hap := h.apart
  have d1 : Apart (treeP y.L y.blk y.mblk) (rowP y.bq 213 (ArRow (.pointer (some ⟨mq, 0, none⟩)) x.r.q 1 1 y.sc (.slice none 0 0) (.slice none 0 0) y.tv false)) := by
    have h1 := (List.pairwise_cons.1 (List.pairwise_cons.1 (List.pairwise_cons.1 hap).2).2).2
    exact (List.pairwise_cons.1 h1).1 _ (by simp)
  have d2 : Apart (rowP y.bq 213 (ArRow (.pointer (some ⟨mq, 0, none⟩)) x.r.q 1 1 y.sc (.slice none 0 0) (.slice none 0 0) y.tv false)) (ownP 308 3 y.tv y.L.length (itCells y.L)) := by
    have h1 := (List.pairwise_cons.1 (List.pairwise_cons.1 (List.pairwise_cons.1 (List.pairwise_cons.1 hap).2).2).2).2
    exact (List.pairwise_cons.1 h1).1 _ (by simp)
  refine ⟨⟨h.at_, hap, fun _ _ => Nat.zero_le _⟩, fun b hb => h.lt b (mem_item.2 (.inr (.inr (mem_arcs.2 (.inr (.inl hb)))))), fun hb => hga (mem_item.2 (.inr (.inr (mem_arcs.2 (.inr (.inl hb)))))), fun b hb => h.lt b (mem_item.2 (.inr (.inr (mem_arcs.2 (.inr (.inr (.inr (Option.mem_toList.1 hb)))))))), fun hb => hga (mem_item.2 (.inr (.inr (mem_arcs.2 (.inr (.inr (.inr (Option.mem_toList.1 hb)))))))), hrow.cell 7, hrow.frozen 7, fun hb => d1 _ hb (by simp [rowP]), fun hb => d2 _ (by simp [rowP]) hb, fun e => hga (mem_item.2 (.inr (.inr (mem_arcs.2 (.inr (.inr (.inl e)))))))⟩
end
end Go.Proofs.YtdidjdoifpfmmaaGreatDoor
/- Write, Mkdir, Remove of both, side by side. -/
namespace Go.Proofs.YtdidjdoifpfmmaaGreatDoor
open Go.RowKit
theorem put_codes (L : List It) (s d : ByteArray) : (putOf L s d).2 ≤ 12 := by
  have h := spot_codes L s
  unfold putOf
  repeat' split
  all_goals first | (show (5 : Nat) ≤ 12; decide) | (show (11 : Nat) ≤ 12; decide) | (show spotOf L s ≤ 12; omega) | (show (7 : Nat) ≤ 12; decide) | (show (0 : Nat) ≤ 12; decide) | (show (10 : Nat) ≤ 12; decide)
theorem mkdir_codes (L : List It) (s : ByteArray) : (mkdirOf L s).2 ≤ 12 := by
  have h := spot_codes L s
  unfold mkdirOf
  repeat' split
  all_goals first | (show spotOf L s ≤ 12; omega) | (show (8 : Nat) ≤ 12; decide) | (show (0 : Nat) ≤ 12; decide) | (show (10 : Nat) ≤ 12; decide)
theorem remove_codes (L : List It) (s : ByteArray) : (removeOf L s).2 ≤ 12 := by
  have h := spot_codes L s
  unfold removeOf
  repeat' split
  all_goals first | (show spotOf L s ≤ 12; omega) | (show (6 : Nat) ≤ 12; decide) | (show (0 : Nat) ≤ 12; decide) | (show (9 : Nat) ≤ 12; decide)
section
variable {a : Nat → Addr} {w0 w : World} {mq p ga i : Nat} {x : TItem} {y : TArc}
theorem op_put (bs : Base a w0 w) (hx : x.Ok) (h : Hold w0.heap.size w (x.parts mq)) (hy : x.arc = some y) (o : OpR) (hk : o.kind = 14) (hs : o.s.size ≤ 262144) (ht : o.t.size ≤ 262144) (c2 : w.cell? ⟨ga, i + 2, none⟩ = some (.pointer (some ⟨y.q, 0, none⟩))) (c3 : w.cell? ⟨ga, i + 3, none⟩ = some (.pointer (some ⟨y.bq, 0, none⟩))) (hga : ga ∉ allB (x.parts mq)) :
    Calls Tryz.prog 74 #[.pointer (some ⟨p, 0, none⟩), .pointer (some ⟨ga, i, none⟩), OpR.agg o] w fun e w' => e = .returned (.bool true) ∧ TreeTurned a w0 w mq x w' := by
  have S := spots_of h hy hga
  have ok := hx.tree y hy
  have hc : (putOf y.L o.s o.t).2 ≤ 12 := put_codes _ _ _
  have h' := h
  rw [parts_some hy] at h'
  refine (tree_put o hk p ga i y.q y.bq c2 c3 ((putOf y.L o.s o.t).2 : Nat) (fun w' => MidA a w0 w.heap.size mq x y (putOf y.L o.s o.t).1 w' ∧ w.heap.size ≤ w'.heap.size) (DoneA a w0 w.heap.size mq x y (putOf y.L o.s o.t).1) (treeBlocks y.L y.blk y.mblk) y.tv.ownBlock.toList S.lt1 S.ga1 S.lt2 S.ga2 y.tv S.c7 S.f7 S.b1 S.b2 S.gb ?_ ?_ ?_).mono ?_
  · intro w1 hb
    have h1 := h'.below hb
    have bs1 := bs.below hb
    refine (plain_put (a := a) (N := fun w' => (MidA a w0 w.heap.size mq x y (putOf y.L o.s o.t).1 w' ∧ w.heap.size ≤ w'.heap.size) ∧ Fr w1 w' (treeBlocks y.L y.blk y.mblk)) hc ?_ ?_ ((devWriteT_any bs1.at.2 (arc_of h1 ok) o.s o.t hs).mono ?_)).mono ?_
    · rintro w2 ⟨⟨⟨_, _, _, _, _, hb⟩, _⟩, _⟩
      exact hb.at.1
    · rintro w2 w3 ⟨⟨hm2, hs2⟩, hf2⟩ hb
      exact ⟨⟨hm2.below hb, Nat.le_trans hs2 hb.size⟩, hf2.trans (Fr.of_below hb []) (by simp)⟩
    · rintro e w' ⟨rfl, hd'⟩
      obtain ⟨hm2, hf2⟩ := midA_of (n := w.heap.size) bs1 h1 hd' hb.size
      exact ⟨rfl, ⟨hm2, Nat.le_trans hb.size hf2.size⟩, hf2⟩
    · rintro e w' ⟨rfl, h2, h3⟩
      exact ⟨rfl, h2, h3⟩
  · rintro w1 ⟨hm, hs1⟩
    exact ⟨hm.below (Below.refl _ _).drew, hs1⟩
  · rintro w1 ⟨hm, hs1⟩
    have hm' := hm
    obtain ⟨b1, m1, k1, k2, k3, k4⟩ := hm
    have ho : TreeOwn w1 y.tv y.L := k1.at_ (ownP 308 3 y.tv y.L.length (itCells y.L)) (by simp [arcParts])
    have hfew := ok.few
    refine (refPut_any y.L o.s o.t y.tv w1 ho (by omega) (by omega) (by omega) (fun z hz => by have := ok.size z hz; omega)).mono ?_
    rintro e w' ⟨v', rfl, hd'⟩
    obtain ⟨av, cv, rfl⟩ := slice_formR hd'.1
    obtain ⟨k5, k6⟩ := doneA_of hm' hd' hs1
    exact ⟨av, _, cv, rfl, k5, k6⟩
  · rintro e w' ⟨rfl, w2, ta, tn, tc, hd, f, rfl⟩
    exact ⟨rfl, treeTurned_of hx hy hd f⟩
theorem op_mkdir (bs : Base a w0 w) (hx : x.Ok) (h : Hold w0.heap.size w (x.parts mq)) (hy : x.arc = some y) (o : OpR) (hk : o.kind = 15) (hs : o.s.size ≤ 262144) (c2 : w.cell? ⟨ga, i + 2, none⟩ = some (.pointer (some ⟨y.q, 0, none⟩))) (c3 : w.cell? ⟨ga, i + 3, none⟩ = some (.pointer (some ⟨y.bq, 0, none⟩))) (hga : ga ∉ allB (x.parts mq)) :
    Calls Tryz.prog 74 #[.pointer (some ⟨p, 0, none⟩), .pointer (some ⟨ga, i, none⟩), OpR.agg o] w fun e w' => e = .returned (.bool true) ∧ TreeTurned a w0 w mq x w' := by
  have S := spots_of h hy hga
  have ok := hx.tree y hy
  have hc : (mkdirOf y.L o.s).2 ≤ 12 := mkdir_codes _ _
  have h' := h
  rw [parts_some hy] at h'
  refine (tree_mkdir o hk p ga i y.q y.bq c2 c3 ((mkdirOf y.L o.s).2 : Nat) (fun w' => MidA a w0 w.heap.size mq x y (mkdirOf y.L o.s).1 w' ∧ w.heap.size ≤ w'.heap.size) (DoneA a w0 w.heap.size mq x y (mkdirOf y.L o.s).1) (treeBlocks y.L y.blk y.mblk) y.tv.ownBlock.toList S.lt1 S.ga1 S.lt2 S.ga2 y.tv S.c7 S.f7 S.b1 S.b2 S.gb ?_ ?_ ?_).mono ?_
  · intro w1 hb
    have h1 := h'.below hb
    have bs1 := bs.below hb
    refine (plain_mkdir (a := a) (N := fun w' => (MidA a w0 w.heap.size mq x y (mkdirOf y.L o.s).1 w' ∧ w.heap.size ≤ w'.heap.size) ∧ Fr w1 w' (treeBlocks y.L y.blk y.mblk)) hc ?_ ?_ ((devMkdirT_any bs1.at.2 (arc_of h1 ok) o.s hs).mono ?_)).mono ?_
    · rintro w2 ⟨⟨⟨_, _, _, _, _, hb⟩, _⟩, _⟩
      exact hb.at.1
    · rintro w2 w3 ⟨⟨hm2, hs2⟩, hf2⟩ hb
      exact ⟨⟨hm2.below hb, Nat.le_trans hs2 hb.size⟩, hf2.trans (Fr.of_below hb []) (by simp)⟩
    · rintro e w' ⟨rfl, hd'⟩
      obtain ⟨hm2, hf2⟩ := midA_of (n := w.heap.size) bs1 h1 hd' hb.size
      exact ⟨rfl, ⟨hm2, Nat.le_trans hb.size hf2.size⟩, hf2⟩
    · rintro e w' ⟨rfl, h2, h3⟩
      exact ⟨rfl, h2, h3⟩
  · rintro w1 ⟨hm, hs1⟩
    exact ⟨hm.below (Below.refl _ _).drew, hs1⟩
  · rintro w1 ⟨hm, hs1⟩
    have hm' := hm
    obtain ⟨b1, m1, k1, k2, k3, k4⟩ := hm
    have ho : TreeOwn w1 y.tv y.L := k1.at_ (ownP 308 3 y.tv y.L.length (itCells y.L)) (by simp [arcParts])
    have hfew := ok.few
    refine (refMkdir_any y.L o.s y.tv w1 ho (by omega) (by omega) (fun z hz => by have := ok.size z hz; omega)).mono ?_
    rintro e w' ⟨v', rfl, hd'⟩
    obtain ⟨av, cv, rfl⟩ := slice_formR hd'.1
    obtain ⟨k5, k6⟩ := doneA_of hm' hd' hs1
    exact ⟨av, _, cv, rfl, k5, k6⟩
  · rintro e w' ⟨rfl, w2, ta, tn, tc, hd, f, rfl⟩
    exact ⟨rfl, treeTurned_of hx hy hd f⟩
theorem op_remove (bs : Base a w0 w) (hx : x.Ok) (h : Hold w0.heap.size w (x.parts mq)) (hy : x.arc = some y) (o : OpR) (hk : o.kind = 16) (hs : o.s.size ≤ 262144) (c2 : w.cell? ⟨ga, i + 2, none⟩ = some (.pointer (some ⟨y.q, 0, none⟩))) (c3 : w.cell? ⟨ga, i + 3, none⟩ = some (.pointer (some ⟨y.bq, 0, none⟩))) (hga : ga ∉ allB (x.parts mq)) :
    Calls Tryz.prog 74 #[.pointer (some ⟨p, 0, none⟩), .pointer (some ⟨ga, i, none⟩), OpR.agg o] w fun e w' => e = .returned (.bool true) ∧ TreeTurned a w0 w mq x w' := by
  have S := spots_of h hy hga
  have ok := hx.tree y hy
  have hc : (removeOf y.L o.s).2 ≤ 12 := remove_codes _ _
  have h' := h
  rw [parts_some hy] at h'
  refine (tree_remove o hk p ga i y.q y.bq c2 c3 ((removeOf y.L o.s).2 : Nat) (fun w' => MidA a w0 w.heap.size mq x y (removeOf y.L o.s).1 w' ∧ w.heap.size ≤ w'.heap.size) (DoneA a w0 w.heap.size mq x y (removeOf y.L o.s).1) (treeBlocks y.L y.blk y.mblk) y.tv.ownBlock.toList S.lt1 S.ga1 S.lt2 S.ga2 y.tv S.c7 S.f7 S.b1 S.b2 S.gb ?_ ?_ ?_).mono ?_
  · intro w1 hb
    have h1 := h'.below hb
    have bs1 := bs.below hb
    refine (plain_remove (a := a) (N := fun w' => (MidA a w0 w.heap.size mq x y (removeOf y.L o.s).1 w' ∧ w.heap.size ≤ w'.heap.size) ∧ Fr w1 w' (treeBlocks y.L y.blk y.mblk)) hc ?_ ?_ ((devRemoveT_any bs1.at.2 (arc_of h1 ok) o.s hs).mono ?_)).mono ?_
    · rintro w2 ⟨⟨⟨_, _, _, _, _, hb⟩, _⟩, _⟩
      exact hb.at.1
    · rintro w2 w3 ⟨⟨hm2, hs2⟩, hf2⟩ hb
      exact ⟨⟨hm2.below hb, Nat.le_trans hs2 hb.size⟩, hf2.trans (Fr.of_below hb []) (by simp)⟩
    · rintro e w' ⟨rfl, hd'⟩
      obtain ⟨hm2, hf2⟩ := midA_of (n := w.heap.size) bs1 h1 hd' hb.size
      exact ⟨rfl, ⟨hm2, Nat.le_trans hb.size hf2.size⟩, hf2⟩
    · rintro e w' ⟨rfl, h2, h3⟩
      exact ⟨rfl, h2, h3⟩
  · rintro w1 ⟨hm, hs1⟩
    exact ⟨hm.below (Below.refl _ _).drew, hs1⟩
  · rintro w1 ⟨hm, hs1⟩
    have hm' := hm
    obtain ⟨b1, m1, k1, k2, k3, k4⟩ := hm
    have ho : TreeOwn w1 y.tv y.L := k1.at_ (ownP 308 3 y.tv y.L.length (itCells y.L)) (by simp [arcParts])
    have hfew := ok.few
    refine (refRemove_any y.L o.s y.tv w1 ho (by omega) (by omega) (fun z hz => by have := ok.size z hz; omega)).mono ?_
    rintro e w' ⟨v', rfl, hd'⟩
    obtain ⟨av, cv, rfl⟩ := slice_formR hd'.1
    obtain ⟨k5, k6⟩ := doneA_of hm' hd' hs1
    exact ⟨av, _, cv, rfl, k5, k6⟩
  · rintro e w' ⟨rfl, w2, ta, tn, tc, hd, f, rfl⟩
    exact ⟨rfl, treeTurned_of hx hy hd f⟩
end
end Go.Proofs.YtdidjdoifpfmmaaGreatDoor
/- Read and List of both, side by side. -/
namespace Go.Proofs.YtdidjdoifpfmmaaGreatDoor
open Go.RowKit
theorem read_codes (L : List It) (s : ByteArray) : (readOf L s).2 ≤ 12 := by
  have h := findF_codes L (namesOf s).1 ⟨#[]⟩ (-1)
  unfold readOf
  repeat' split
  all_goals first | (show (5 : Nat) ≤ 12; decide) | (show (findF L ⟨#[]⟩ (-1) (namesOf s).1).2 ≤ 12; omega) | (show (7 : Nat) ≤ 12; decide) | (show (0 : Nat) ≤ 12; decide)
section
variable {a : Nat → Addr} {w0 w : World} {mq p ga i : Nat} {x : TItem} {y : TArc}
theorem op_get (bs : Base a w0 w) (hx : x.Ok) (h : Hold w0.heap.size w (x.parts mq)) (hy : x.arc = some y) (o : OpR) (hk : o.kind = 19) (ha : o.a = 0) (hs : o.s.size ≤ 262144) (c2 : w.cell? ⟨ga, i + 2, none⟩ = some (.pointer (some ⟨y.q, 0, none⟩))) (c3 : w.cell? ⟨ga, i + 3, none⟩ = some (.pointer (some ⟨y.bq, 0, none⟩))) :
    Calls Tryz.prog 76 #[.pointer (some ⟨p, 0, none⟩), .pointer (some ⟨ga, i, none⟩), OpR.agg o] w fun e w' => e = .returned (.bool true) ∧ Below w.heap.size w w' := by
  have ok := hx.tree y hy
  have hc := read_codes y.L o.s
  rw [parts_some hy] at h
  have hfew := ok.few
  refine (told_get o hk p ga i y.q y.bq c2 c3 (readOf y.L o.s).1 ((readOf y.L o.s).2 : Nat) (-1) (-1) (.inr rfl) (fun w' => Below w.heap.size w w') (fun w' => Below w.heap.size w w') [] [] (by simp) (by simp) (by simp) (by simp) ?_ ?_ ?_).mono ?_
  · intro w1 hb
    have h1 := h.below hb
    have bs1 := bs.below hb
    rw [ha]
    refine (plain_get (a := a) (N := fun w' => Below w1.heap.size w1 w') hc ?_ ?_ (devReadT_any bs1.at.2 (arc_of h1 ok) o.s (by omega))).mono ?_
    · intro w2 hb2
      exact (bs1.below hb2).at.1
    · intro w2 w3 hb2 hb3
      exact hb2.trans (hb3.mono hb2.size)
    · rintro e w' ⟨rfl, hb2⟩
      exact ⟨rfl, hb.trans (hb2.mono hb.size), Fr.of_below hb2 _⟩
  · intro w1 hb
    exact hb.drew
  · intro w1 hb
    have h1 := h.below hb
    have ho : TreeOwn w1 y.tv y.L := h1.at_ (ownP 308 3 y.tv y.L.length (itCells y.L)) (by simp [arcParts])
    have hrow : RowIs w1 y.bq 213 (ArRow (.pointer (some ⟨mq, 0, none⟩)) x.r.q 1 1 y.sc (.slice none 0 0) (.slice none 0 0) y.tv false) := h1.at_ (rowP y.bq 213 _) (by simp [arcParts])
    rw [ha]
    refine (refReadT_any y.L o.s y.tv y.bq w1 ho (hrow.cell 7) (by omega) (by omega)).mono ?_
    rintro e w' ⟨rfl, hb2⟩
    exact ⟨rfl, hb.trans (hb2.mono hb.size), Fr.of_below hb2 _⟩
  · rintro e w' ⟨rfl, hb, _⟩
    exact ⟨rfl, hb⟩
theorem op_list (bs : Base a w0 w) (hx : x.Ok) (h : Hold w0.heap.size w (x.parts mq)) (hy : x.arc = some y) (o : OpR) (hk : o.kind = 20) (ha : o.a = 0) (hs : o.s.size ≤ 262144) (c2 : w.cell? ⟨ga, i + 2, none⟩ = some (.pointer (some ⟨y.q, 0, none⟩))) (c3 : w.cell? ⟨ga, i + 3, none⟩ = some (.pointer (some ⟨y.bq, 0, none⟩))) :
    Calls Tryz.prog 76 #[.pointer (some ⟨p, 0, none⟩), .pointer (some ⟨ga, i, none⟩), OpR.agg o] w fun e w' => e = .returned (.bool true) ∧ Below w.heap.size w w' := by
  have ok := hx.tree y hy
  rw [parts_some hy] at h
  have hfew := ok.few
  have hkf := kids_few ok o.s
  by_cases h0 : listErr y.L o.s = 0
  · refine (told_list_ok o hk p ga i y.q y.bq c2 c3 (-1) (-1) ((kidsFold o.s y.L).map (enOf y.L o.s)) (by rw [List.length_map]; omega) (fun v w' => EnsAt w' v (cutEn o.b ((kidsFold o.s y.L).map (enOf y.L o.s))) ∧ Below w.heap.size w w') (fun w' => Below w.heap.size w w') [] [] (by simp) (by simp) (by simp) (by simp) ?_ ?_ ?_ ?_).mono ?_
    · intro w1 hb
      have h1 := h.below hb
      have bs1 := bs.below hb
      rw [ha]
      refine (plainList_ok bs1.at.2 (arc_of h1 ok) o.s (by omega) h0 o.b).mono ?_
      rintro e w' ⟨lv, rfl, ho, hb2⟩
      exact ⟨lv, rfl, ⟨ensAt_of ho, hb.trans (hb2.mono hb.size)⟩, Fr.of_below hb2 _⟩
    · rintro v w1 ⟨he, hb⟩
      exact ⟨he.below (Below.refl _ _).drew, hb.drew⟩
    · rintro v1 w1 ⟨he, hb⟩
      have h1 := h.below hb
      have ho : TreeOwn w1 y.tv y.L := h1.at_ (ownP 308 3 y.tv y.L.length (itCells y.L)) (by simp [arcParts])
      have hrow : RowIs w1 y.bq 213 (ArRow (.pointer (some ⟨mq, 0, none⟩)) x.r.q 1 1 y.sc (.slice none 0 0) (.slice none 0 0) y.tv false) := h1.at_ (rowP y.bq 213 _) (by simp [arcParts])
      rw [ha]
      refine (refListT_ok y.L o.s y.tv y.bq w1 ho (hrow.cell 7) (by omega) (by omega) (fun z hz => by have := ok.size z hz; omega) (fun z hz => by have := ok.data z hz; omega) h0 (fun k hk2 => ?_) (by omega)).mono ?_
      · obtain ⟨hn, z, hz, hp⟩ := (mem_kids ok o.s k).1 hk2
        have := name_size hn
        refine ⟨by omega, ?_⟩
        rcases findAt_cases y.L (joinB o.s k) with ⟨_, hno⟩ | ⟨j, hj, e, _⟩
        · exact absurd hp (hno z hz)
        · exact ⟨j, hj, e⟩
      · rintro e w' ⟨lv, rfl, ho2, hb2⟩
        exact ⟨lv, rfl, he.below hb2, ensAt_of ho2, hb.trans (hb2.mono hb.size), Fr.of_below hb2 _⟩
    · intro w1 w2 hb hb2
      exact hb.trans (hb2.mono hb.size)
    · rintro e w' ⟨rfl, hb, _⟩
      exact ⟨rfl, hb⟩
  · refine (told_list_err o hk p ga i y.q y.bq c2 c3 (listErr y.L o.s : Nat) (-1) (-1) (by omega) (.inr rfl) (fun w' => Below w.heap.size w w') (fun w' => Below w.heap.size w w') [] [] (by simp) (by simp) (by simp) (by simp) ?_ ?_ ?_).mono ?_
    · intro w1 hb
      have h1 := h.below hb
      have bs1 := bs.below hb
      rw [ha]
      refine (plainList_err bs1.at.1 bs1.at.2 (arc_of h1 ok) o.s (by omega) h0 o.b).mono ?_
      rintro e w' ⟨rfl, hb2⟩
      exact ⟨rfl, hb.trans (hb2.mono hb.size), Fr.of_below hb2 _⟩
    · intro w1 hb
      exact hb.drew
    · intro w1 hb
      have h1 := h.below hb
      have ho : TreeOwn w1 y.tv y.L := h1.at_ (ownP 308 3 y.tv y.L.length (itCells y.L)) (by simp [arcParts])
      have hrow : RowIs w1 y.bq 213 (ArRow (.pointer (some ⟨mq, 0, none⟩)) x.r.q 1 1 y.sc (.slice none 0 0) (.slice none 0 0) y.tv false) := h1.at_ (rowP y.bq 213 _) (by simp [arcParts])
      rw [ha]
      refine (refListT_err y.L o.s y.tv y.bq w1 ho (hrow.cell 7) (by omega) (by omega) h0).mono ?_
      rintro e w' ⟨rfl, hb2⟩
      exact ⟨rfl, hb.trans (hb2.mono hb.size), Fr.of_below hb2 _⟩
    · rintro e w' ⟨rfl, hb, _⟩
      exact ⟨rfl, hb⟩
end
end Go.Proofs.YtdidjdoifpfmmaaGreatDoor
