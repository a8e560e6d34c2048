import Derived.Test.YtdidjdoifpfmmaaGreatDoorGT27
/- Format and Mount of both, side by side. -/
namespace Go.Proofs.YtdidjdoifpfmmaaGreatDoor
open Go.RowKit
theorem mem_item {d : DP} {S : Dk} {r : RD} {S2 : Dk} {l : Int} {t : Bool} {A : List Part} {b : Nat} : b ∈ allB (devP d S :: refP r S2 l t :: A) ↔ b ∈ d.blocks ∨ b ∈ r.blocks ∨ b ∈ allB A := by
  simp [allB, devP, refP]
/-- The program's disk has made the call, the document's not yet. -/
def Mid0 (a : Nat → Addr) (w0 : World) (n : Nat) (x : TItem) (S1 : Dk) (A : List Part) (w' : World) : Prop :=
  ∃ d', DP.p d' = x.d.p ∧ Hold w0.heap.size w' (devP d' S1 :: refP x.r x.S x.left x.lit :: A) ∧ (∀ b ∈ d'.blocks, b ∈ x.d.blocks ∨ n ≤ b) ∧ Base a w0 w'
theorem Mid0.below {a : Nat → Addr} {w0 : World} {n : Nat} {x : TItem} {S1 : Dk} {A : List Part} {w1 w2 : World} (h : Mid0 a w0 n x S1 A w1) (hb : Below w1.heap.size w1 w2) : Mid0 a w0 n x S1 A w2 := by
  obtain ⟨d', h1, h2, h3, h4⟩ := h
  exact ⟨d', h1, h2.below hb, h3, h4.below hb⟩
/-- From the program's disk behind a call to all parts. -/
theorem mid0_of {a : Nat → Addr} {w0 w w' : World} {n : Nat} {x : TItem} {S1 : Dk} {A : List Part} (bs : Base a w0 w) (h : Hold w0.heap.size w (devP x.d x.S :: refP x.r x.S x.left x.lit :: A)) (hd : DevDone w w' x.d S1) (hn : n ≤ w.heap.size) : Mid0 a w0 n x S1 A w' ∧ Fr w w' x.d.blocks := by
  obtain ⟨d', h1, h2, h3, h4⟩ := hd
  have s := Step.at (ps := []) (qs := refP x.r x.S x.left x.lit :: A) (P := devP x.d x.S) (Q := devP d' S1) bs.size h h1 h4 h3
  exact ⟨⟨d', h2, s.hold, fun b hb => (h3 b hb).imp id (fun hx => by omega), bs.fr h4 (fun b hb => h.far b (mem_item.2 (.inl hb)))⟩, h4⟩
def Done0 (a : Nat → Addr) (w0 : World) (n : Nat) (x : TItem) (S1 : Dk) (A : List Part) (w' : World) : Prop :=
  ∃ d' r' left', DP.p d' = x.d.p ∧ RD.q r' = x.r.q ∧ Hold w0.heap.size w' (devP d' S1 :: refP r' S1 left' x.lit :: A) ∧ (∀ b ∈ d'.blocks, b ∈ x.d.blocks ∨ n ≤ b) ∧ (∀ b ∈ r'.blocks, b ∈ x.r.blocks ∨ n ≤ b) ∧ Base a w0 w'
theorem done0_of {a : Nat → Addr} {w0 w w' : World} {n : Nat} {x : TItem} {S1 : Dk} {A : List Part} (h : Mid0 a w0 n x S1 A w) (hd : RefDone w w' x.r S1 x.lit) (hn : n ≤ w.heap.size) : Done0 a w0 n x S1 A w' ∧ Fr w w' x.r.blocks := by
  obtain ⟨d', h1, h2, h3, h4⟩ := h
  obtain ⟨r', left', k1, k2, k3, k4⟩ := hd
  have s := Step.at (ps := [devP d' S1]) (qs := A) (P := refP x.r x.S x.left x.lit) (Q := refP r' S1 left' x.lit) h4.size h2 k1 k4 k3
  exact ⟨⟨d', r', left', h1, k2, s.hold, h3, fun b hb => (k3 b hb).imp id (fun hx => by omega), h4.fr k4 (fun b hb => h2.far b (mem_item.2 (.inr (.inl hb))))⟩, k4⟩
theorem far_of {a : Nat → Addr} {w0 w : World} {d : DP} {S : Dk} {ps : List Part} (bs : Base a w0 w) (h : Hold w0.heap.size w (devP d S :: ps)) : Far d := fun b hb => by
  have := h.far b (by rw [allB_cons]; exact List.mem_append_left _ hb)
  have := bs.g
  omega
section
variable {a : Nat → Addr} {w0 w : World} {mq p ga i : Nat} {x : TItem}
/-- Format. -/
theorem op_format (bs : Base a w0 w) (hx : x.Ok) (h : Hold w0.heap.size w (x.parts mq)) (o : OpR) (hk : o.kind = 12) (c0 : w.cell? ⟨ga, i, none⟩ = some (.pointer (some ⟨x.d.p, 0, none⟩))) (c1 : w.cell? ⟨ga, i + 1, none⟩ = some (.pointer (some ⟨x.r.q, 0, none⟩)))
    (left : Int) (hl0 : -10000 ≤ left) (hl1 : left ≤ 262144) (cl : w.cell? ⟨p, 5, none⟩ = some (.int .i64 left)) (fl : w.frozen? ⟨p, 5, none⟩ = false) (npg : p ≠ ga) (hp : p ∉ allB (x.parts mq)) (hga : ga ∉ allB (x.parts mq)) (hp0 : w0.heap.size ≤ p) :
    Calls Tryz.prog 72 #[.pointer (some ⟨p, 0, none⟩), .pointer (some ⟨ga, i, none⟩), OpR.agg o] w fun e w' => e = .returned (.bool true) ∧ ∃ x' : TItem, x'.Ok ∧ x'.d.p = x.d.p ∧ x'.r.q = x.r.q ∧ x'.arc = x.arc ∧ Hold w0.heap.size w' (x'.parts mq) ∧ (∀ b ∈ allB (x'.parts mq), b ∈ allB (x.parts mq) ∨ w.heap.size ≤ b) ∧ Fr w w' (p :: allB (x.parts mq)) ∧ ∀ t vs, RowIs w p t vs → RowIs w' p t (vs.set 5 (.int .i64 (left - x.S.safe.length))) := by
  have ok := hx.disk.ok
  obtain ⟨hw0, hf0, hm⟩ := hx.disk.few
  obtain ⟨hP, hc⟩ := hx.disk.format
  have hr : RefAt w x.r x.S x.left x.lit := h.at_ (refP x.r x.S x.left x.lit) (by simp [TItem.parts])
  have hpi : p ∉ x.d.blocks ∧ p ∉ x.r.blocks := ⟨fun hb => hp (mem_item.2 (.inl hb)), fun hb => hp (mem_item.2 (.inr (.inl hb)))⟩
  have hgi : ga ∉ x.d.blocks ∧ ga ∉ x.r.blocks := ⟨fun hb => hga (mem_item.2 (.inl hb)), fun hb => hga (mem_item.2 (.inr (.inl hb)))⟩
  have hsub : ∀ y ∈ x.d.blocks ++ x.r.blocks, y ∈ allB (x.parts mq) := fun y hy => by
    rcases List.mem_append.1 hy with hy | hy
    · exact mem_item.2 (.inl hy)
    · exact mem_item.2 (.inr (.inl hy))
  refine (disk_format o hk p ga i x.d.p x.r.q c0 c1 left hl0 hl1 cl fl x.S.safe.length x.r.gE x.r.cE hm npg (fun e => hpi.2 (by rw [e]; simp [RD.blocks])) (hr.row.cell 1) ((formatOf x.S).2 : Nat)
    (fun w' => Mid0 a w0 w.heap.size x (formatOf x.S).1 (x.arcs mq) w' ∧ w.heap.size ≤ w'.heap.size) (Done0 a w0 w.heap.size x (formatOf x.S).1 (x.arcs mq)) x.d.blocks x.r.blocks hgi.1 ?_ ?_ hpi.1 hpi.2).mono ?_
  · intro w1 f1
    have h1 : Hold w0.heap.size w1 (x.parts mq) := h.fr f1 (fun b hb hm => hp (by rw [← List.mem_singleton.1 hm]; exact hb))
    have bs1 : Base a w0 w1 := bs.fr f1 (by simpa using hp0)
    have hd : DevAt w1 x.d x.S := h1.at_ (devP x.d x.S) (by simp [TItem.parts])
    refine (plain_format (a := a) (N := fun w' => (Mid0 a w0 w.heap.size x (formatOf x.S).1 (x.arcs mq) w' ∧ w.heap.size ≤ w'.heap.size) ∧ Fr w1 w' x.d.blocks) hc ?_ ?_ ((devFormat_any bs1.at.2 hd (far_of bs1 h1) ok (by omega) (by omega) (Nat.le_trans bs1.g bs1.size)).mono ?_)).mono ?_
    · rintro w2 ⟨⟨⟨_, _, _, _, hb⟩, _⟩, _⟩
      exact hb.at.1
    · rintro w2 w3 ⟨⟨hm2, hs2⟩, hf2⟩ hb
      exact ⟨⟨hm2.below hb, Nat.le_trans hs2 hb.size⟩, hf2.trans (Fr.of_below hb []) (by simp)⟩
    · rintro e w' ⟨rfl, hd'⟩
      obtain ⟨hm2, hf2⟩ := mid0_of (n := w.heap.size) bs1 h1 hd' f1.size
      exact ⟨rfl, ⟨hm2, Nat.le_trans f1.size hf2.size⟩, hf2⟩
    · rintro e w' ⟨rfl, h2, h3⟩
      exact ⟨rfl, h2, h3⟩
  · rintro w1 ⟨hm1, hs1⟩
    obtain ⟨d', k1, k2, k3, k4⟩ := hm1
    have hr1 : RefAt w1 x.r x.S x.left x.lit := k2.at_ (refP x.r x.S x.left x.lit) (by simp)
    refine (refFormat_any hr1 ok (by omega)).mono ?_
    rintro e w' ⟨rfl, hd'⟩
    obtain ⟨h5, h6⟩ := done0_of (n := w.heap.size) ⟨d', k1, k2, k3, k4⟩ hd' hs1
    exact ⟨rfl, h5, h6⟩
  · rintro e w' ⟨rfl, ⟨d', r', left', k1, k2, k3, k4, k5, k6⟩, f, hrow⟩
    have ea : (TItem.mk d' r' (formatOf x.S).1 left' x.lit x.arc).arcs mq = x.arcs mq := by unfold TItem.arcs; rw [k1, k2]
    refine ⟨rfl, ⟨d', r', (formatOf x.S).1, left', x.lit, x.arc⟩, ⟨hP, hx.tree⟩, k1, k2, rfl, ?_, ?_, ?_, hrow⟩
    · unfold TItem.parts
      rw [ea]
      exact k3
    · intro b hb
      unfold TItem.parts at hb
      rw [ea] at hb
      rcases mem_item.1 hb with hb | hb | hb
      · exact (k4 b hb).imp (fun hb => mem_item.2 (.inl hb)) id
      · exact (k5 b hb).imp (fun hb => mem_item.2 (.inr (.inl hb))) id
      · exact .inl (mem_item.2 (.inr (.inr hb)))
    · exact f.wider (fun y hy => by
        rcases List.mem_cons.1 hy with rfl | hy
        · exact List.mem_cons_self
        · exact List.mem_cons_of_mem _ (hsub y hy))
end
end Go.Proofs.YtdidjdoifpfmmaaGreatDoor
/- Mount of both, side by side. -/
namespace Go.Proofs.YtdidjdoifpfmmaaGreatDoor
open Go.RowKit
theorem Hold.snoc {B : Nat} {w : World} {ps : List Part} {Q : Part} (h : Hold B w ps) (hq : Q.At w) (hd : ∀ b ∈ Q.blocks, b ∉ allB ps) (hB : ∀ b ∈ Q.blocks, B ≤ b) : Hold B w (ps ++ [Q]) := by
  refine ⟨fun P hP => ?_, List.pairwise_append.2 ⟨h.apart, List.pairwise_singleton _ _, fun P hP Q' hQ b hbP hbQ => ?_⟩, fun b hb => ?_⟩
  · rcases List.mem_append.1 hP with hP | hP
    · exact h.at_ P hP
    · rw [List.mem_singleton.1 hP]; exact hq
  · rw [List.mem_singleton.1 hQ] at hbQ
    exact hd b hbQ (mem_allB.2 ⟨P, hP, hbP⟩)
  · rw [allB_append] at hb
    rcases List.mem_append.1 hb with hb | hb
    · exact h.far b hb
    · exact hB b (by simpa [allB] using hb)
theorem kids_nil (p : ByteArray) : kidsFold p [] = [] := rfl
theorem tree_new {w : World} {nb mb : Nat} (c0 : w.cell? ⟨nb, 0, none⟩ = some (.map (some mb))) (c1 : w.cell? ⟨nb, 1, none⟩ = some (.string ⟨#[]⟩)) (ho : w.ownsMap (H := Unit) Tryz.prog 9 nodeR mb 0 (.map [])) : TreeAt w [] (fun _ => nb) (fun _ => mb) := by
  refine ⟨fun p hp => ⟨c0, c1, .map [], ho, fun k => ?_, fun k hk => ?_⟩, fun x hx => by simp at hx, fun p q hp hq _ => ?_⟩
  · simp [kids_nil, Maps.has]
  · simp [kids_nil] at hk
  · rcases hp with rfl | ⟨y, hy, _⟩
    · rcases hq with rfl | ⟨z, hz, _⟩
      · rfl
      · simp at hz
    · simp at hy
theorem blocks_nil (nb mb : Nat) : treeBlocks [] (fun _ => nb) (fun _ => mb) = [nb, mb] := rfl
theorem Plain0.mount {S : Dk} (h : Plain0 S) : (S.safe.length < 4 ∨ S.seen.getD 0 ByteArray.empty ≠ superT S.safe.length) ∨ (4 ≤ S.safe.length ∧ S.seen.getD 0 ByteArray.empty = superT S.safe.length ∧ S.seen.getD 1 ByteArray.empty = zero64 ∧ wipeOf S 1 = (S, 0)) := by
  obtain ⟨n, h1, h2, rfl | ⟨h4, rfl⟩⟩ := h
  · refine .inl (.inr ?_)
    rw [blank_seen, blank_at n 0 h1, blank_len]
    exact superT_ne n
  · refine .inr ⟨by rw [head_len n h1]; exact h4, by rw [head_seen, head_len n h1]; rfl, head_at n 1 (by decide) (by omega), wipe_head n h1⟩
/-- Mount, as far as the program has made it. -/
def MidM (a : Nat → Addr) (w0 : World) (n : Nat) (x : TItem) (z : Option Addr) (w' : World) : Prop :=
  (z = none ∧ Mid0 a w0 n x x.S [] w') ∨ ∃ (q nb mb : Nat) (ms : List Nat), z = some ⟨q, 0, none⟩ ∧ Mid0 a w0 n x x.S [rowP q 119 (arcRow (.pointer (some ⟨nb, 0, none⟩)) x.d.p ms (.slice none 0 0) 1 1 (superSum x.S.safe.length) false), treeP [] (fun _ => nb) (fun _ => mb)] w' ∧ n ≤ q ∧ n ≤ nb ∧ n ≤ mb
theorem MidM.below {a : Nat → Addr} {w0 : World} {n : Nat} {x : TItem} {z : Option Addr} {w1 w2 : World} (h : MidM a w0 n x z w1) (hb : Below w1.heap.size w1 w2) : MidM a w0 n x z w2 := by
  rcases h with ⟨h1, h2⟩ | ⟨q, nb, mb, ms, h1, h2, h3⟩
  · exact .inl ⟨h1, h2.below hb⟩
  · exact .inr ⟨q, nb, mb, ms, h1, h2.below hb, h3⟩
def codeM (S : Dk) : Nat := if S.safe.length < 4 ∨ S.seen.getD 0 ByteArray.empty ≠ superT S.safe.length then 3 else 0
section
variable {a : Nat → Addr} {w0 w : World} {mq p ga i : Nat} {x : TItem}
/-- The program's Mount. -/
theorem dev_mount (n : Nat) (bs : Base a w0 w) (hx : x.Ok) (h : Hold w0.heap.size w [devP x.d x.S, refP x.r x.S x.left x.lit]) (hn : n ≤ w.heap.size) :
    Calls Tryz.prog 45 #[.pointer (some ⟨x.d.p, 0, none⟩)] w fun e w' => ∃ z, e = .returned (.tuple #[.pointer z, errOf a (codeM x.S)]) ∧ MidM a w0 n x z w' ∧ (z.isSome = true ↔ codeM x.S = 0) ∧ Fr w w' x.d.blocks := by
  have ok := hx.disk.ok
  obtain ⟨hw0, hf0, hm⟩ := hx.disk.few
  have hd : DevAt w x.d x.S := h.at_ (devP x.d x.S) (by simp)
  rcases hx.disk.mount with hno | ⟨h4, h0, h1, hwp⟩
  · have ec : codeM x.S = 3 := by unfold codeM; rw [if_pos hno]
    rw [ec]
    refine (devMount_none bs.at.2 hd (far_of bs h) ok hno).mono ?_
    rintro e w' ⟨rfl, hd', f'⟩
    have hdn : DevDone w w' x.d x.S := hd'.done f' (by simp [DP.blocks])
    obtain ⟨h5, h6⟩ := mid0_of (n := n) bs h hdn hn
    exact ⟨none, rfl, .inl ⟨rfl, h5⟩, by simp, h6⟩
  · have ec : codeM x.S = 0 := by unfold codeM; rw [if_neg]; rintro (hq | hq); omega; exact hq h0
    rw [ec]
    refine (devMount_head bs.at.2 hd (far_of bs h) ok (by omega) (by omega) (Nat.le_trans bs.g bs.size) h4 h0 h1 (by rw [hwp])).mono ?_
    rintro e w' ⟨q, rfl, d', ms, nb, mb, _, k1, k2, k3, k4, k5, k6, k7, k8, k9, l1, l2, l3, l4, l5, l6, l7, l8, l9, _⟩
    rw [hwp] at k1
    obtain ⟨⟨d2, e1, e2, e3, e4⟩, h6⟩ : Mid0 a w0 n x x.S [] w' ∧ Fr w w' x.d.blocks := mid0_of (n := n) bs h ⟨d', k1, k2, k3, k4⟩ hn
    have s := Step.at (ps := []) (qs := [refP x.r x.S x.left x.lit]) (P := devP x.d x.S) (Q := devP d' x.S) bs.size h k1 k4 k3
    have hB := bs.size
    have hlt : ∀ b ∈ x.r.blocks, b < w.heap.size := fun b hb => h.lt b (mem_item.2 (.inr (.inl hb)))
    have mem2 : ∀ {b : Nat}, b ∈ allB [devP d' x.S, refP x.r x.S x.left x.lit] ↔ b ∈ d'.blocks ∨ b ∈ x.r.blocks := fun {b} => by rw [mem_item]; simp [allB]
    have t1 : Hold w0.heap.size w' ([devP d' x.S, refP x.r x.S x.left x.lit] ++ [rowP q 119 (arcRow (.pointer (some ⟨nb, 0, none⟩)) x.d.p ms (.slice none 0 0) 1 1 (superSum x.S.safe.length) false)]) := by
      refine s.hold.snoc k5 (fun b hb hc => ?_) (fun b hb => ?_)
      · obtain rfl : b = q := List.mem_singleton.1 hb
        rcases mem2.1 hc with hq | hq
        · exact l4 hq
        · have := hlt b hq; omega
      · obtain rfl : b = q := List.mem_singleton.1 hb
        omega
    have t2 : Hold w0.heap.size w' (([devP d' x.S, refP x.r x.S x.left x.lit] ++ [rowP q 119 (arcRow (.pointer (some ⟨nb, 0, none⟩)) x.d.p ms (.slice none 0 0) 1 1 (superSum x.S.safe.length) false)]) ++ [treeP [] (fun _ => nb) (fun _ => mb)]) := by
      refine t1.snoc (tree_new k7 k8 k9) (fun b hb hc => ?_) (fun b hb => ?_)
      · have hb2 : b = nb ∨ b = mb := by simpa [treeP, blocks_nil] using hb
        rw [allB_append] at hc
        rcases List.mem_append.1 hc with hc | hc
        · rcases mem2.1 hc with hq | hq
          · rcases hb2 with rfl | rfl
            · exact l5 hq
            · exact l6 hq
          · have := hlt b hq; omega
        · have : b = q := by simpa [allB, rowP] using hc
          omega
      · have hb2 : b = nb ∨ b = mb := by simpa [treeP, blocks_nil] using hb
        omega
    exact ⟨some ⟨q, 0, none⟩, rfl, .inr ⟨q, nb, mb, ms, rfl, ⟨d', k2, t2, fun b hb => (k3 b hb).imp id (fun hx => by omega), e4⟩, by omega, by omega, by omega⟩, by simp, h6⟩
end
end Go.Proofs.YtdidjdoifpfmmaaGreatDoor
/- Mount of both: the whole. -/
namespace Go.Proofs.YtdidjdoifpfmmaaGreatDoor
open Go.RowKit
section
variable {a : Nat → Addr} {w0 w : World} {mq p ga i : Nat} {x : TItem}
/-- Both have mounted. -/
def DoneM (a : Nat → Addr) (w0 : World) (n mq : Nat) (x : TItem) (z y : Option Addr) (w' : World) : Prop :=
  ∃ x' : TItem, x'.Ok ∧ x'.d.p = x.d.p ∧ x'.r.q = x.r.q ∧ x'.pa = z ∧ x'.pb = y ∧ Hold w0.heap.size w' (x'.parts mq) ∧ (∀ b ∈ allB (x'.parts mq), b ∈ x.d.blocks ∨ b ∈ x.r.blocks ∨ n ≤ b) ∧ Base a w0 w'
/-- The document's Mount, behind the program's. -/
theorem ref_mount (n : Nat) (hx : x.Ok) (z : Option Addr) (hz : z.isSome = true ↔ codeM x.S = 0) (h : MidM a w0 n x z w) (hn : n ≤ w.heap.size) (_hln : ∀ b ∈ x.r.blocks, b < n) :
    Calls Tryz.prog 122 #[.pointer (some ⟨mq, 0, none⟩), .pointer (some ⟨x.r.q, 0, none⟩)] w fun e w' => ∃ y, e = .returned (.tuple #[.pointer y, .int .i64 (codeM x.S : Nat)]) ∧ DoneM a w0 n mq x z y w' ∧ y.isSome = z.isSome ∧ Fr w w' x.r.blocks := by
  have ok := hx.disk.ok
  obtain ⟨hw0, hf0, hm⟩ := hx.disk.few
  rcases hx.disk.mount with hno | ⟨h4, h0, h1, hwp⟩
  · have ec : codeM x.S = 3 := by unfold codeM; rw [if_pos hno]
    rw [ec] at hz ⊢
    rcases h with ⟨rfl, d', k1, k2, k3, k4⟩ | ⟨q, nb, mb, ms, rfl, _⟩
    · have hr : RefAt w x.r x.S x.left x.lit := k2.at_ (refP x.r x.S x.left x.lit) (by simp)
      refine (refMount_none hr ok _ hno).mono ?_
      rintro e w' ⟨rfl, hb⟩
      refine ⟨none, rfl, ⟨⟨d', x.r, x.S, x.left, x.lit, none⟩, ⟨hx.disk, fun y hy => by cases hy⟩, k1, rfl, rfl, rfl, k2.below hb, fun b hb => ?_, k4.below hb⟩, rfl, Fr.of_below hb _⟩
      rcases mem_item.1 hb with hb | hb | hb
      · exact (k3 b hb).imp id .inr
      · exact .inr (.inl hb)
      · simp [TItem.arcs, allB] at hb
    · simp at hz
  · have ec : codeM x.S = 0 := by unfold codeM; rw [if_neg]; rintro (hq | hq); omega; exact hq h0
    rw [ec] at hz ⊢
    rcases h with ⟨rfl, _⟩ | ⟨q, nb, mb, ms, rfl, ⟨d', k1, k2, k3, k4⟩, l1, l2, l3⟩
    · simp at hz
    · have hr : RefAt w x.r x.S x.left x.lit := k2.at_ (refP x.r x.S x.left x.lit) (by simp)
      refine (refMount_head hr ok (some ⟨mq, 0, none⟩) h4 (by omega) h0 h1 (by rw [hwp])).mono ?_
      rintro e w' ⟨bq, rfl, r', left', m1, m2, m3, m4, m5, m6, m7⟩
      rw [hwp] at m3
      have s := Step.at (ps := [devP d' x.S]) (qs := [rowP q 119 (arcRow (.pointer (some ⟨nb, 0, none⟩)) x.d.p ms (.slice none 0 0) 1 1 (superSum x.S.safe.length) false), treeP [] (fun _ => nb) (fun _ => mb)]) (P := refP x.r x.S x.left x.lit) (Q := refP r' x.S left' x.lit) k4.size k2 m3 m7 m5
      have hlt := k2.lt
      have bs' : Base a w0 w' := k4.fr m7 (fun b hb => k2.far b (mem_item.2 (.inr (.inl hb))))
      have hB := k4.size
      have t1 := s.hold.snoc (Q := rowP bq 213 (ArRow (.pointer (some ⟨mq, 0, none⟩)) x.r.q 1 1 (superSum x.S.safe.length) (.slice none 0 0) (.slice none 0 0) (.slice none 0 0) false)) m2 (fun b hb hc => by
        obtain rfl : b = bq := List.mem_singleton.1 hb
        rcases mem_item.1 hc with hc | hc | hc
        · have := hlt b (mem_item.2 (.inl hc)); omega
        · exact m6 hc
        · have := hlt b (mem_item.2 (.inr (.inr hc))); omega) (fun b hb => by
        obtain rfl : b = bq := List.mem_singleton.1 hb
        omega)
      have t2 := t1.snoc (Q := ownP 308 3 (.slice none 0 0) ([] : List It).length (itCells [])) (World.ownsRow_nil _ _ _ _) (fun b hb => by simp [ownP, Value.ownBlock] at hb) (fun b hb => by simp [ownP, Value.ownBlock] at hb)
      refine ⟨some ⟨bq, 0, none⟩, rfl, ⟨⟨d', r', x.S, left', x.lit, some ⟨q, ms, [], fun _ => nb, fun _ => mb, superSum x.S.safe.length, bq, .slice none 0 0⟩⟩, ⟨hx.disk, fun y hy => by cases hy; exact TreeOk.nil⟩, k1, m4, rfl, rfl, ?_, ?_, bs'⟩, rfl, m7⟩
      · have ep : (TItem.mk d' r' x.S left' x.lit (some ⟨q, ms, [], fun _ => nb, fun _ => mb, superSum x.S.safe.length, bq, .slice none 0 0⟩)).parts mq = (([devP d' x.S] ++ refP r' x.S left' x.lit :: [rowP q 119 (arcRow (.pointer (some ⟨nb, 0, none⟩)) x.d.p ms (.slice none 0 0) 1 1 (superSum x.S.safe.length) false), treeP [] (fun _ => nb) (fun _ => mb)]) ++ [rowP bq 213 (ArRow (.pointer (some ⟨mq, 0, none⟩)) x.r.q 1 1 (superSum x.S.safe.length) (.slice none 0 0) (.slice none 0 0) (.slice none 0 0) false)]) ++ [ownP 308 3 (.slice none 0 0) ([] : List It).length (itCells [])] := by
          unfold TItem.parts TItem.arcs TArc.parts arcParts
          simp only [k1, m4]
          rfl
        rw [ep]
        exact t2
      · intro b hb
        rcases mem_item.1 hb with hb | hb | hb
        · exact (k3 b hb).imp id .inr
        · rcases m5 b hb with hq | hq
          · exact .inr (.inl hq)
          · exact .inr (.inr (by omega))
        · simp [TItem.arcs, TArc.parts, arcParts, allB, rowP, treeP, ownP, treeBlocks, Value.ownBlock] at hb
          rcases hb with rfl | rfl | rfl | rfl
          · exact .inr (.inr l1)
          · exact .inr (.inr l2)
          · exact .inr (.inr l3)
          · exact .inr (.inr (by omega))
/-- Mount. -/
theorem op_mount (bs : Base a w0 w) (hx : x.Ok) (h : Hold w0.heap.size w (x.parts mq)) (c0 : w.cell? ⟨ga, i, none⟩ = some (.pointer (some ⟨x.d.p, 0, none⟩))) (c1 : w.cell? ⟨ga, i + 1, none⟩ = some (.pointer (some ⟨x.r.q, 0, none⟩))) (c2 : w.cell? ⟨ga, i + 2, none⟩ = some (.pointer x.pa)) (c3 : w.cell? ⟨ga, i + 3, none⟩ = some (.pointer x.pb)) (g2 : w.frozen? ⟨ga, i + 2, none⟩ = false) (g3 : w.frozen? ⟨ga, i + 3, none⟩ = false)
    (left : Int) (hl0 : -10000 ≤ left) (hl1 : left ≤ 262144) (cm : w.cell? ⟨p, 0, none⟩ = some (.pointer (some ⟨mq, 0, none⟩))) (cl : w.cell? ⟨p, 5, none⟩ = some (.int .i64 left)) (fl : w.frozen? ⟨p, 5, none⟩ = false) (npg : p ≠ ga) (hp : p ∉ allB (x.parts mq)) (hga : ga ∉ allB (x.parts mq)) (hp0 : w0.heap.size ≤ p) :
    Calls Tryz.prog 73 #[.pointer (some ⟨p, 0, none⟩), .pointer (some ⟨ga, i, none⟩)] w fun e w' => e = .returned (.bool true) ∧ ∃ (x' : TItem) (w2 : World), x'.Ok ∧ x'.d.p = x.d.p ∧ x'.r.q = x.r.q ∧ Hold w0.heap.size w2 (x'.parts mq) ∧ (∀ b ∈ allB (x'.parts mq), b ∈ allB (x.parts mq) ∨ w.heap.size ≤ b) ∧ Fr w w2 (p :: allB (x.parts mq)) ∧ w' = (w2.setCell ⟨ga, i + 2, none⟩ (.pointer x'.pa)).setCell ⟨ga, i + 3, none⟩ (.pointer x'.pb) ∧ ∀ t vs, RowIs w p t vs → RowIs w2 p t (vs.set 5 (.int .i64 (left - x.S.safe.length))) := by
  obtain ⟨hw0, hf0, hm⟩ := hx.disk.few
  have h2 : Hold w0.heap.size w [devP x.d x.S, refP x.r x.S x.left x.lit] := Hold.left (qs := x.arcs mq) h
  have hr : RefAt w x.r x.S x.left x.lit := h.at_ (refP x.r x.S x.left x.lit) (by simp [TItem.parts])
  have hpi : p ∉ x.d.blocks ∧ p ∉ x.r.blocks := ⟨fun hb => hp (mem_item.2 (.inl hb)), fun hb => hp (mem_item.2 (.inr (.inl hb)))⟩
  have hgi : ga ∉ x.d.blocks ∧ ga ∉ x.r.blocks := ⟨fun hb => hga (mem_item.2 (.inl hb)), fun hb => hga (mem_item.2 (.inr (.inl hb)))⟩
  have hsub : ∀ y ∈ x.d.blocks ++ x.r.blocks, y ∈ allB (x.parts mq) := fun y hy => by
    rcases List.mem_append.1 hy with hy | hy
    · exact mem_item.2 (.inl hy)
    · exact mem_item.2 (.inr (.inl hy))
  have hc : codeM x.S ≤ 12 := by unfold codeM; split <;> decide
  have hrl : ∀ b ∈ x.r.blocks, b < w.heap.size := hr.lt
  refine (law_mounted p ga i x.d.p x.r.q mq c0 c1 x.pa x.pb c2 c3 g2 g3 left hl0 hl1 cm cl fl x.S.safe.length x.r.gE x.r.cE hm npg (fun e => hpi.2 (by rw [e]; simp [RD.blocks])) (hr.row.cell 1) (codeM x.S : Nat)
    (fun z w' => (MidM a w0 w.heap.size x z w' ∧ (z.isSome = true ↔ codeM x.S = 0)) ∧ w.heap.size ≤ w'.heap.size) (fun z y w' => DoneM a w0 w.heap.size mq x z y w') x.d.blocks x.r.blocks hgi.1 hgi.2 ?_ ?_ ?_ hpi.1 hpi.2).mono ?_
  · intro w1 f1
    have h1 : Hold w0.heap.size w1 [devP x.d x.S, refP x.r x.S x.left x.lit] := h2.fr f1 (fun b hb hm => by
      rw [List.mem_singleton.1 hm] at hb
      rcases mem_item.1 hb with hb | hb | hb
      · exact hpi.1 hb
      · exact hpi.2 hb
      · simp [allB] at hb)
    have bs1 : Base a w0 w1 := bs.fr f1 (by simpa using hp0)
    refine (plain_mount (a := a) (N := fun z w' => ((MidM a w0 w.heap.size x z w' ∧ (z.isSome = true ↔ codeM x.S = 0)) ∧ w.heap.size ≤ w'.heap.size) ∧ Fr w1 w' x.d.blocks) hc ?_ ?_ ((dev_mount w.heap.size bs1 hx h1 f1.size).mono ?_)).mono ?_
    · rintro z w2 ⟨⟨⟨hm2, _⟩, _⟩, _⟩
      rcases hm2 with ⟨_, _, _, _, _, hb⟩ | ⟨_, _, _, _, _, ⟨_, _, _, _, hb⟩, _⟩
      · exact hb.at.1
      · exact hb.at.1
    · rintro z w2 w3 ⟨⟨⟨hm2, hi2⟩, hs2⟩, hf2⟩ hb
      exact ⟨⟨⟨hm2.below hb, hi2⟩, Nat.le_trans hs2 hb.size⟩, hf2.trans (Fr.of_below hb []) (by simp)⟩
    · rintro e w' ⟨z, rfl, hm2, hi2, hf2⟩
      exact ⟨z, rfl, ⟨⟨hm2, hi2⟩, Nat.le_trans f1.size hf2.size⟩, hf2⟩
    · rintro e w' ⟨z, rfl, h2, h3⟩
      exact ⟨z, rfl, h2, h3⟩
  · rintro z w1 ⟨⟨hm2, hi2⟩, hs2⟩
    exact ⟨⟨hm2.below (Below.refl _ _).drew, hi2⟩, hs2⟩
  · rintro z w1 ⟨⟨hm2, hi2⟩, hs2⟩
    refine (ref_mount (mq := mq) w.heap.size hx z hi2 hm2 hs2 hrl).mono ?_
    rintro e w' ⟨y, rfl, k1, k2, k3⟩
    exact ⟨y, rfl, k1, k2, k3⟩
  · rintro e w' ⟨rfl, z, y, w2, ⟨x', k1, k2, k3, k4, k5, k6, k7, k8⟩, f, rfl, hrow⟩
    refine ⟨rfl, x', w2, k1, k2, k3, k6, fun b hb => ?_, f.wider (fun y hy => ?_), by rw [k4, k5], hrow⟩
    · rcases k7 b hb with hq | hq | hq
      · exact .inl (mem_item.2 (.inl hq))
      · exact .inl (mem_item.2 (.inr (.inl hq)))
      · exact .inr hq
    · rcases List.mem_cons.1 hy with rfl | hy
      · exact List.mem_cons_self
      · exact List.mem_cons_of_mem _ (hsub y hy)
end
end Go.Proofs.YtdidjdoifpfmmaaGreatDoor
