import Derived.Test.YtdidjdoifpfmmaaGreatDoorGF4
import Derived.Test.YtdidjdoifpfmmaaGreatDoorGA6
import Derived.Test.YtdidjdoifpfmmaaGreatDoorGD3
import Derived.Test.YtdidjdoifpfmmaaGreatDoorScript
/- Disks, the program's and the document's, side by side: each call. -/
namespace Go.Proofs.YtdidjdoifpfmmaaGreatDoor
open Go.RowKit

/-- A disk of the script: the program's, the document's, what both are. -/
structure Item where
  d : DP
  r : RD
  S : Dk
  left : Int
  lit : Bool
def Item.blocks (x : Item) : List Nat := x.d.blocks ++ x.r.blocks
def Item.cells (x : Item) : List Value := [.pointer (some ⟨x.d.p, 0, none⟩), .pointer (some ⟨x.r.q, 0, none⟩), .pointer none, .pointer none]
theorem DevAt.fr {w w' : World} {d : DP} {S : Dk} {bs : List Nat} (h : DevAt w d S) (f : Fr w w' bs) (hn : ∀ b ∈ d.blocks, b ∉ bs) : DevAt w' d S :=
  ⟨f.row h.row (hn _ (by simp [DP.blocks])), f.row h.safe (hn _ (by simp [DP.blocks])), owns_fr h.wait f (fun g hg => hn g (by simp [DP.blocks, hg])), map_fr h.last f (hn _ (by simp [DP.blocks])), h.apart⟩
theorem RefAt.fr {w w' : World} {r : RD} {S : Dk} {left : Int} {lit : Bool} {bs : List Nat} (h : RefAt w r S left lit) (f : Fr w w' bs) (hn : ∀ b ∈ r.blocks, b ∉ bs) : RefAt w' r S left lit :=
  ⟨f.row h.row (hn _ (by simp [RD.blocks])), h.safe.fr f (hn _ (by simp [RD.blocks])), h.seen.fr f (hn _ (by simp [RD.blocks])), owns_fr h.wait f (fun g hg => hn g (by simp [RD.blocks, hg])), h.apart, h.caps, h.lit, h.small⟩
theorem DevAt.lt {w : World} {d : DP} {S : Dk} (h : DevAt w d S) : ∀ b ∈ d.blocks, b < w.heap.size := by
  intro b hb
  simp only [DP.blocks, List.mem_cons, Option.mem_toList] at hb
  rcases hb with rfl | rfl | rfl | hb
  · exact h.row.lt
  · exact h.safe.lt
  · exact h.last.lt
  · exact own_lt h.wait b hb
theorem RefAt.lt {w : World} {r : RD} {S : Dk} {left : Int} {lit : Bool} (h : RefAt w r S left lit) : ∀ b ∈ r.blocks, b < w.heap.size := by
  intro b hb
  simp only [RD.blocks, List.mem_cons, Option.mem_toList] at hb
  rcases hb with rfl | rfl | rfl | hb
  · exact h.row.lt
  · exact h.safe.lt
  · exact h.seen.lt
  · exact own_lt h.wait b hb
theorem below_fr {B : Nat} {w0 w1 w' : World} {bs : List Nat} (hb : Below B w0 w1) (f : Fr w1 w' bs) (hB : B ≤ w1.heap.size) (hn : ∀ b ∈ bs, B ≤ b) : Below B w0 w' :=
  ⟨f.os.trans hb.os, f.tape.trans hb.tape, f.output.trans hb.output, Nat.le_trans hb.size f.size, fun k hk => (f.block k (by omega) (fun hx => by have := hn k hx; omega)).trans (hb.block k hk)⟩

structure Good (S : Dk) (k : Nat) : Prop where
  ok : S.Ok
  fuse : S.fuse ≤ 9223372036854775807
  few : S.wait.length ≤ k
structure ItemAt (w : World) (x : Item) (k : Nat) : Prop where
  dev : DevAt w x.d x.S
  ref : RefAt w x.r x.S x.left x.lit
  good : Good x.S k
  apart : ∀ b ∈ x.d.blocks, b ∉ x.r.blocks
/-- The program's disk has made the call, the document's not yet. -/
def Mid (w0 : World) (H : Nat) (x : Item) (S' : Dk) (w1 : World) : Prop :=
  ∃ d', DevAt w1 d' S' ∧ d'.p = x.d.p ∧ (∀ b ∈ d'.blocks, b ∈ x.d.blocks ∨ H ≤ b) ∧ (∀ b ∈ d'.blocks, b ∉ x.r.blocks) ∧ RefAt w1 x.r x.S x.left x.lit ∧ Below w0.heap.size w0 w1 ∧ H ≤ w1.heap.size
/-- Both have. -/
def Done (w0 : World) (H : Nat) (x : Item) (S' : Dk) (w1 : World) : Prop :=
  ∃ x' : Item, DevAt w1 x'.d S' ∧ RefAt w1 x'.r S' x'.left x'.lit ∧ x'.S = S' ∧ x'.d.p = x.d.p ∧ x'.r.q = x.r.q ∧ (∀ b ∈ x'.blocks, b ∈ x.blocks ∨ H ≤ b) ∧ (∀ b ∈ x'.d.blocks, b ∉ x'.r.blocks) ∧ Below w0.heap.size w0 w1

structure At1 (w0 w : World) (x : Item) (k : Nat) : Prop where
  item : ItemAt w x k
  b0 : Below w0.heap.size w0 w
  far : ∀ b ∈ x.blocks, w0.heap.size ≤ b
  k : k ≤ 262144
theorem At1.lt {w0 w : World} {x : Item} {k : Nat} (h : At1 w0 w x k) : (∀ b ∈ x.d.blocks, b < w.heap.size) ∧ (∀ b ∈ x.r.blocks, b < w.heap.size) := ⟨h.item.dev.lt, h.item.ref.lt⟩
theorem At1.dev {w0 w w1 : World} {x : Item} {k : Nat} (h : At1 w0 w x k) (hb : Below w.heap.size w w1) : DevAt w1 x.d x.S := h.item.dev.fr (Fr.of_below hb []) (by simp)
theorem At1.sents {w0 w w1 : World} {x : Item} {k : Nat} (h : At1 w0 w x k) {a : Nat → Addr} (hS : Sents a w0) (hb : Below w.heap.size w w1) : Sents a w1 := hS.below (h.b0.trans (hb.mono h.b0.size))
theorem At1.pos {w0 w : World} {x : Item} {k : Nat} (h : At1 w0 w x k) {a : Nat → Addr} (hS : Sents a w0) : x.d.p ≠ 0 ∧ x.d.p ≠ 1 := by
  have h1 := h.far x.d.p (by simp [Item.blocks, DP.blocks])
  have h2 := hS.size
  omega
theorem mid_of {w0 w w1 w' : World} {x : Item} {k : Nat} {S' : Dk} {d' : DP} (h : At1 w0 w x k) (hb : Below w.heap.size w w1) (hd : DevAt w' d' S') (hp : d'.p = x.d.p) (hsub : ∀ b ∈ d'.blocks, b ∈ x.d.blocks ∨ w1.heap.size ≤ b) (f : Fr w1 w' x.d.blocks) : Mid w0 w.heap.size x S' w' := by
  have hs := hb.size
  have hs0 := h.b0.size
  refine ⟨d', hd, hp, fun b hb' => (hsub b hb').imp id (fun h => by omega), ?_, ?_, ?_, Nat.le_trans hs f.size⟩
  · intro b hb' hr
    rcases hsub b hb' with hx | hx
    · exact h.item.apart b hx hr
    · have := h.lt.2 b hr; omega
  · refine (h.item.ref.fr (Fr.of_below hb []) (by simp)).fr f ?_
    intro b hr hx
    exact h.item.apart b hx hr
  · refine below_fr (h.b0.trans (hb.mono h.b0.size)) f (by omega) ?_
    intro b hx
    exact h.far b (by simp [Item.blocks, hx])
theorem done_of {w0 w w1 w' : World} {x : Item} {k : Nat} {S' : Dk} {r' : RD} {left' : Int} {lit' : Bool} (h : At1 w0 w x k) (hm : Mid w0 w.heap.size x S' w1) (hr : RefAt w' r' S' left' lit') (hq : r'.q = x.r.q) (hsub : ∀ b ∈ r'.blocks, b ∈ x.r.blocks ∨ w1.heap.size ≤ b) (f : Fr w1 w' x.r.blocks) : Done w0 w.heap.size x S' w' := by
  obtain ⟨d', h1, h2, h3, h4, h5, h6, h7⟩ := hm
  have hs0 := h.b0.size
  have hlt := h1.lt
  refine ⟨⟨d', r', S', left', lit'⟩, h1.fr f h4, hr, rfl, h2, hq, ?_, ?_, below_fr h6 f (by omega) (fun b hx => h.far b (by simp [Item.blocks, hx]))⟩
  · intro b hb
    rcases List.mem_append.1 hb with hb | hb
    · exact (h3 b hb).imp (fun h => by simp [Item.blocks, h]) id
    · exact (hsub b hb).imp (fun h => by simp [Item.blocks, h]) (fun h => by omega)
  · intro b hb hb2
    rcases hsub b hb2 with hx | hx
    · exact h4 b hb hx
    · have := hlt b hb; omega
theorem Mid.below {w0 w1 w2 : World} {H : Nat} {x : Item} {S' : Dk} (h : Mid w0 H x S' w1) (hb : Below w1.heap.size w1 w2) : Mid w0 H x S' w2 := by
  obtain ⟨d', h1, h2, h3, h4, h5, h6, h7⟩ := h
  exact ⟨d', h1.fr (Fr.of_below hb []) (by simp), h2, h3, h4, h5.fr (Fr.of_below hb []) (by simp), h6.trans (hb.mono h6.size), Nat.le_trans h7 hb.size⟩
theorem Mid.drew {w0 w1 : World} {H : Nat} {x : Item} {S' : Dk} (h : Mid w0 H x S' w1) : Mid w0 H x S' w1.drew := h.below (Below.refl _ _).drew
theorem mid_nil {w0 : World} {H : Nat} {x : Item} {S' : Dk} (w1 : World) (h : Mid w0 H x S' w1) : Calls Tryz.prog 43 #[.nilIface] w1 fun e w' => e = .returned (.tuple #[.int .i64 0, .int .i64 (-1)]) ∧ Mid w0 H x S' w' ∧ Fr w1 w' [] :=
  (number_nil w1).mono fun e w' he => ⟨he.1, by rw [← he.2]; exact h, by rw [← he.2]; exact Fr.refl _ _⟩
theorem mid_err {w0 : World} {H : Nat} {x : Item} {S' : Dk} {a : Nat → Addr} (hS : Sents a w0) (j : Nat) (hj : j < 12) (w1 : World) (h : Mid w0 H x S' w1) : Calls Tryz.prog 43 #[.iface 452 (.pointer (some (a j)))] w1 fun e w' => e = .returned (.tuple #[.int .i64 (j + 1 : Nat), .int .i64 (-1)]) ∧ Mid w0 H x S' w' ∧ Fr w1 w' [] := by
  have hS1 : Sents a w1 := by
    obtain ⟨d', h1, h2, h3, h4, h5, h6, h7⟩ := h
    exact hS.below h6
  exact (number_E hS1 j hj).mono fun e w' he => ⟨he.1, h.below he.2, Fr.of_below he.2 []⟩

/-- Read, whichever write waits. -/
theorem devRead_any {w : World} {d : DP} {S : Dk} (h : DevAt w d S) (ok : S.Ok) (k : Nat) (hk : k < S.safe.length) :
    Calls Tryz.prog 84 #[.pointer (some ⟨d.p, 0, none⟩), .int .i64 (k : Nat)] w fun e w' => e = .returned (.tuple #[.string (S.seen.getD k ByteArray.empty), .nilIface]) ∧ DevAt w' d S ∧ Fr w w' [d.p] := by
  rcases lastD_at S.wait k with ⟨h1, h2⟩ | ⟨i, y, h0, h1, h2, h3⟩
  · have e : S.seen.getD k ByteArray.empty = S.safe[k] := by rw [List.getD_eq_getElem?_getD, Dk.seen, h2, List.getElem?_eq_getElem hk]; rfl
    rw [e]
    exact devRead_none h ok k hk h1
  · have e : S.seen.getD k ByteArray.empty = y := by rw [List.getD_eq_getElem?_getD, Dk.seen, h3 S.safe hk]; rfl
    rw [e]
    exact devRead_some h ok k hk h1 i y h0 h2
theorem op_read {w0 w : World} {x : Item} {k : Nat} (h : At1 w0 w x k) (o : OpR) (p ga i : Nat) (c0 : w.cell? ⟨ga, i, none⟩ = some (.pointer (some ⟨x.d.p, 0, none⟩))) (c1 : w.cell? ⟨ga, i + 1, none⟩ = some (.pointer (some ⟨x.r.q, 0, none⟩))) (hga : ga ∉ x.blocks) {a : Nat → Addr} (hS : Sents a w0) (hk : o.kind = 4) : Calls Tryz.prog 72 #[.pointer (some ⟨p, 0, none⟩), .pointer (some ⟨ga, i, none⟩), OpR.agg o] w fun e w' => e = .returned (.bool true) ∧ Done w0 w.heap.size x x.S w' ∧ Fr w w' x.blocks := by
  simp only [Item.blocks, List.mem_append, not_or] at hga
  have ok := h.item.good.ok
  have hR : ∀ w1, Mid w0 w.heap.size x x.S w1 → Calls Tryz.prog 114 #[.pointer (some ⟨x.r.q, 0, none⟩), .int .i64 o.a] w1 fun e w' => e = .returned (.tuple (if 0 ≤ o.a ∧ o.a < x.S.safe.length then #[.string (x.S.seen.getD o.a.toNat ByteArray.empty), .int .i64 0] else #[.string ByteArray.empty, .int .i64 1])) ∧ Done w0 w.heap.size x x.S w' ∧ Fr w1 w' x.r.blocks := by
    intro w1 hm
    have hm' := hm
    obtain ⟨d', h1, h2, h3, h4, h5, h6, h7⟩ := hm
    refine (refRead_any h5 ok o.a).mono ?_
    rintro e w' ⟨rfl, rfl⟩
    exact ⟨rfl, done_of h hm' h5 rfl (fun b hb => .inl hb) (Fr.refl _ _), Fr.refl _ _⟩
  by_cases hin : 0 ≤ o.a ∧ o.a < x.S.safe.length
  · rw [if_pos hin] at hR
    obtain ⟨n, hn⟩ := Int.eq_ofNat_of_zero_le hin.1
    refine disk_read o hk p ga i x.d.p x.r.q c0 c1 0 (x.S.seen.getD o.a.toNat ByteArray.empty) (Mid w0 w.heap.size x x.S) (Done w0 w.heap.size x x.S) x.d.blocks x.r.blocks h.lt.1 hga.1 h.lt.2 hga.2 ?_ (fun _ hm => hm.drew) hR
    intro w1 hb
    refine plain_read (m := -1) ?_ mid_nil
    rw [hn, Int.toNat_natCast]
    refine (devRead_any (h.dev hb) ok n (by omega)).mono ?_
    rintro e w' ⟨rfl, hd, hf⟩
    exact ⟨rfl, mid_of h hb hd rfl (fun b hb => .inl hb) (hf.wider (by simp [DP.blocks])), hf.wider (by simp [DP.blocks])⟩
  · rw [if_neg hin] at hR
    refine disk_read o hk p ga i x.d.p x.r.q c0 c1 1 ByteArray.empty (Mid w0 w.heap.size x x.S) (Done w0 w.heap.size x x.S) x.d.blocks x.r.blocks h.lt.1 hga.1 h.lt.2 hga.2 ?_ (fun _ hm => hm.drew) hR
    intro w1 hb
    refine plain_read (m := -1) ?_ (mid_err hS 0 (by decide))
    refine (devRead_arg (h.dev hb) ok o.a hin (a 0) ((h.sents hS hb).var 0 (by decide)) (h.pos hS).1).mono ?_
    rintro e w' ⟨rfl, hd, hf⟩
    exact ⟨rfl, mid_of h hb hd rfl (fun b hb => .inl hb) (hf.wider (by simp [DP.blocks])), hf.wider (by simp [DP.blocks])⟩
theorem op_fuse {w0 w : World} {x : Item} {k : Nat} (h : At1 w0 w x k) (o : OpR) (p ga i : Nat) (c0 : w.cell? ⟨ga, i, none⟩ = some (.pointer (some ⟨x.d.p, 0, none⟩))) (c1 : w.cell? ⟨ga, i + 1, none⟩ = some (.pointer (some ⟨x.r.q, 0, none⟩))) (hga : ga ∉ x.blocks) (hk : o.kind = 7) (ha : -9223372036854775808 ≤ o.a ∧ o.a ≤ 9223372036854775807) : ∃ S', Good S' (k + 1) ∧ Calls Tryz.prog 72 #[.pointer (some ⟨p, 0, none⟩), .pointer (some ⟨ga, i, none⟩), OpR.agg o] w fun e w' => e = .returned (.bool true) ∧ Done w0 w.heap.size x S' w' ∧ Fr w w' x.blocks := by
  simp only [Item.blocks, List.mem_append, not_or] at hga
  have ok := h.item.good.ok
  have few := h.item.good.few
  refine ⟨{ x.S with fuse := o.a.toNat }, ⟨⟨ok.pos, ok.most, ok.sec, ok.wr, ok.few⟩, by show o.a.toNat ≤ _; omega, by show x.S.wait.length ≤ _; omega⟩, ?_⟩
  refine disk_fuse o hk p ga i x.d.p x.r.q c0 c1 (Mid w0 w.heap.size x { x.S with fuse := o.a.toNat }) (Done w0 w.heap.size x { x.S with fuse := o.a.toNat }) x.d.blocks x.r.blocks h.lt.1 hga.1 h.lt.2 hga.2 ?_ (fun _ hm => hm.drew) ?_
  · intro w1 hb
    refine (devFuse_any (h.dev hb) o.a).mono ?_
    rintro e w' ⟨rfl, hd, hf⟩
    exact ⟨rfl, mid_of h hb hd rfl (fun b hb => .inl hb) (hf.wider (by simp [DP.blocks])), hf.wider (by simp [DP.blocks])⟩
  · intro w1 hm
    have hm' := hm
    obtain ⟨d', h1, h2, h3, h4, h5, h6, h7⟩ := hm
    refine (refFuse_any h5 o.a ha).mono ?_
    rintro e w' ⟨rfl, hr, hf⟩
    exact ⟨rfl, done_of h hm' hr rfl (fun b hb => .inl hb) (hf.wider (by simp [RD.blocks])), hf.wider (by simp [RD.blocks])⟩
theorem Good.tick {S : Dk} {k : Nat} (g : Good S k) : Good S.tick (k + 1) := by
  refine ⟨g.ok.tick, ?_, ?_⟩
  · have := g.fuse
    unfold Dk.tick
    split
    · exact this
    · show S.fuse - 1 ≤ _; omega
  · have := g.few; rw [S.tick_wait]; omega
theorem Good.more {S : Dk} {k : Nat} (g : Good S k) : Good S (k + 1) := ⟨g.ok, g.fuse, Nat.le_succ_of_le g.few⟩
theorem op_write {w0 w : World} {x : Item} {k : Nat} (h : At1 w0 w x k) (o : OpR) (p ga i : Nat) (c0 : w.cell? ⟨ga, i, none⟩ = some (.pointer (some ⟨x.d.p, 0, none⟩))) (c1 : w.cell? ⟨ga, i + 1, none⟩ = some (.pointer (some ⟨x.r.q, 0, none⟩))) (hga : ga ∉ x.blocks) {a : Nat → Addr} (hS : Sents a w0) (hk : o.kind = 5) (hz : o.s.size ≤ 140737488351232) : ∃ S', Good S' (k + 1) ∧ Calls Tryz.prog 72 #[.pointer (some ⟨p, 0, none⟩), .pointer (some ⟨ga, i, none⟩), OpR.agg o] w fun e w' => e = .returned (.bool true) ∧ Done w0 w.heap.size x S' w' ∧ Fr w w' x.blocks := by
  simp only [Item.blocks, List.mem_append, not_or] at hga
  have ok := h.item.good.ok
  have few := h.item.good.few
  have fu := h.item.good.fuse
  have hk2 := h.k
  by_cases hbad : ¬ (0 ≤ o.a ∧ o.a < x.S.safe.length) ∨ o.s.size ≠ 64
  · refine ⟨x.S, h.item.good.more, disk_write o hk p ga i x.d.p x.r.q c0 c1 1 (Mid w0 w.heap.size x x.S) (Done w0 w.heap.size x x.S) x.d.blocks x.r.blocks h.lt.1 hga.1 h.lt.2 hga.2 ?_ (fun _ hm => hm.drew) ?_⟩
    · intro w1 hb
      refine plain_write (m := -1) ?_ (mid_err hS 0 (by decide))
      refine (devWrite_arg (h.dev hb) ok o.a o.s hbad hz (a 0) ((h.sents hS hb).var 0 (by decide)) (h.pos hS).1).mono ?_
      rintro e w' ⟨rfl, hd, hf⟩
      exact ⟨rfl, mid_of h hb hd rfl (fun b hb => .inl hb) (hf.wider (by simp [DP.blocks])), hf.wider (by simp [DP.blocks])⟩
    · intro w1 hm
      have hm' := hm
      obtain ⟨d', h1, h2, h3, h4, h5, h6, h7⟩ := hm
      refine (refWrite_arg h5 ok o.a o.s (by rcases hbad with hb | hb; omega; exact .inr (.inr hb)) hz).mono ?_
      rintro e w' ⟨rfl, rfl⟩
      exact ⟨rfl, done_of h hm' h5 rfl (fun b hb => .inl hb) (Fr.refl _ _), Fr.refl _ _⟩
  · have hin : 0 ≤ o.a ∧ o.a < x.S.safe.length := by
      by_cases hq : 0 ≤ o.a ∧ o.a < x.S.safe.length
      · exact hq
      · exact absurd (.inl hq) hbad
    have h64 : o.s.size = 64 := by
      by_cases hq : o.s.size = 64
      · exact hq
      · exact absurd (.inr hq) hbad
    obtain ⟨n, hn⟩ := Int.eq_ofNat_of_zero_le hin.1
    cases hu : x.S.tick.down
    · refine ⟨{ x.S.tick with wait := x.S.wait ++ [(n, o.s)] }, ⟨⟨by rw [x.S.tick_safe]; exact ok.pos, by rw [x.S.tick_safe]; exact ok.most, by rw [x.S.tick_safe]; exact ok.sec, ?_, ?_⟩, h.item.good.tick.fuse, ?_⟩, disk_write o hk p ga i x.d.p x.r.q c0 c1 0 (Mid w0 w.heap.size x { x.S.tick with wait := x.S.wait ++ [(n, o.s)] }) (Done w0 w.heap.size x { x.S.tick with wait := x.S.wait ++ [(n, o.s)] }) x.d.blocks x.r.blocks h.lt.1 hga.1 h.lt.2 hga.2 ?_ (fun _ hm => hm.drew) ?_⟩
      · intro y hy
        rw [x.S.tick_safe]
        rcases List.mem_append.1 hy with hy | hy
        · exact ok.wr y hy
        · rw [List.mem_singleton.1 hy]; exact ⟨by omega, h64⟩
      · show (x.S.wait ++ [(n, o.s)]).length ≤ _
        rw [List.length_append, List.length_singleton]; omega
      · show (x.S.wait ++ [(n, o.s)]).length ≤ _
        rw [List.length_append, List.length_singleton]; omega
      · intro w1 hb
        refine plain_write (m := -1) ?_ mid_nil
        rw [hn]
        refine (devWrite_ok (h.dev hb) ok n (by omega) o.s h64 hu fu (by omega)).mono ?_
        rintro e w' ⟨rfl, ⟨d', hd, hp, hsub⟩, hf⟩
        exact ⟨rfl, mid_of h hb hd hp hsub hf, hf⟩
      · intro w1 hm
        have hm' := hm
        obtain ⟨d', h1, h2, h3, h4, h5, h6, h7⟩ := hm
        rw [hn]
        refine (refWrite_ok h5 ok n (by omega) o.s h64 hu (by omega)).mono ?_
        rintro e w' ⟨rfl, ⟨r', left', hr, hq, hsub⟩, hf⟩
        exact ⟨rfl, done_of h hm' hr hq hsub hf, hf⟩
    · refine ⟨x.S.tick, h.item.good.tick, disk_write o hk p ga i x.d.p x.r.q c0 c1 2 (Mid w0 w.heap.size x x.S.tick) (Done w0 w.heap.size x x.S.tick) x.d.blocks x.r.blocks h.lt.1 hga.1 h.lt.2 hga.2 ?_ (fun _ hm => hm.drew) ?_⟩
      · intro w1 hb
        refine plain_write (m := -1) ?_ (mid_err hS 1 (by decide))
        rw [hn]
        refine (devWrite_down (h.dev hb) ok n (by omega) o.s h64 hu fu (a 1) ((h.sents hS hb).var 1 (by decide)) (h.pos hS).2).mono ?_
        rintro e w' ⟨rfl, hd, hf⟩
        exact ⟨rfl, mid_of h hb hd rfl (fun b hb => .inl hb) (hf.wider (by simp [DP.blocks])), hf.wider (by simp [DP.blocks])⟩
      · intro w1 hm
        have hm' := hm
        obtain ⟨d', h1, h2, h3, h4, h5, h6, h7⟩ := hm
        rw [hn]
        refine (refWrite_down h5 ok n (by omega) o.s h64 hu).mono ?_
        rintro e w' ⟨rfl, ⟨left', hr⟩, hf⟩
        exact ⟨rfl, done_of h hm' hr rfl (fun b hb => .inl hb) (hf.wider (by simp [RD.blocks])), hf.wider (by simp [RD.blocks])⟩
theorem op_flush {w0 w : World} {x : Item} {k : Nat} (h : At1 w0 w x k) (o : OpR) (p ga i : Nat) (c0 : w.cell? ⟨ga, i, none⟩ = some (.pointer (some ⟨x.d.p, 0, none⟩))) (c1 : w.cell? ⟨ga, i + 1, none⟩ = some (.pointer (some ⟨x.r.q, 0, none⟩))) (hga : ga ∉ x.blocks) {a : Nat → Addr} (hS : Sents a w0) (hk : o.kind = 6) : ∃ S', Good S' (k + 1) ∧ Calls Tryz.prog 72 #[.pointer (some ⟨p, 0, none⟩), .pointer (some ⟨ga, i, none⟩), OpR.agg o] w fun e w' => e = .returned (.bool true) ∧ Done w0 w.heap.size x S' w' ∧ Fr w w' x.blocks := by
  simp only [Item.blocks, List.mem_append, not_or] at hga
  have ok := h.item.good.ok
  have few := h.item.good.few
  have fu := h.item.good.fuse
  have hk2 := h.k
  cases hu : x.S.tick.down
  · refine ⟨{ x.S.tick with safe := x.S.seen, wait := [] }, ⟨⟨?_, ?_, ?_, ?_, ?_⟩, h.item.good.tick.fuse, Nat.zero_le _⟩, disk_flush o hk p ga i x.d.p x.r.q c0 c1 0 (Mid w0 w.heap.size x { x.S.tick with safe := x.S.seen, wait := [] }) (Done w0 w.heap.size x { x.S.tick with safe := x.S.seen, wait := [] }) x.d.blocks x.r.blocks h.lt.1 hga.1 h.lt.2 hga.2 ?_ (fun _ hm => hm.drew) ?_⟩
    · show 0 < x.S.seen.length; rw [x.S.seen_length]; exact ok.pos
    · show x.S.seen.length ≤ _; rw [x.S.seen_length]; exact ok.most
    · exact over_sizes _ _ ok.sec (fun y hy => (ok.wr y hy).2)
    · intro y hy; simp at hy
    · exact Nat.zero_le _
    · intro w1 hb
      refine plain_flush (m := -1) ?_ mid_nil
      refine (devFlush_ok (h.dev hb) ok hu fu).mono ?_
      rintro e w' ⟨rfl, ⟨d', hd, hp, hsub⟩, hf⟩
      exact ⟨rfl, mid_of h hb hd hp hsub hf, hf⟩
    · intro w1 hm
      have hm' := hm
      obtain ⟨d', h1, h2, h3, h4, h5, h6, h7⟩ := hm
      refine (refFlush_ok h5 ok hu).mono ?_
      rintro e w' ⟨rfl, ⟨r', left', hr, hq, hsub⟩, hf⟩
      exact ⟨rfl, done_of h hm' hr hq hsub hf, hf⟩
  · refine ⟨x.S.tick, h.item.good.tick, disk_flush o hk p ga i x.d.p x.r.q c0 c1 2 (Mid w0 w.heap.size x x.S.tick) (Done w0 w.heap.size x x.S.tick) x.d.blocks x.r.blocks h.lt.1 hga.1 h.lt.2 hga.2 ?_ (fun _ hm => hm.drew) ?_⟩
    · intro w1 hb
      refine plain_flush (m := -1) ?_ (mid_err hS 1 (by decide))
      refine (devFlush_down (h.dev hb) hu fu (a 1) ((h.sents hS hb).var 1 (by decide)) (h.pos hS).2).mono ?_
      rintro e w' ⟨rfl, hd, hf⟩
      exact ⟨rfl, mid_of h hb hd rfl (fun b hb => .inl hb) (hf.wider (by simp [DP.blocks])), hf.wider (by simp [DP.blocks])⟩
    · intro w1 hm
      have hm' := hm
      obtain ⟨d', h1, h2, h3, h4, h5, h6, h7⟩ := hm
      refine (refFlush_down h5 hu).mono ?_
      rintro e w' ⟨rfl, ⟨left', hr⟩, hf⟩
      exact ⟨rfl, done_of h hm' hr rfl (fun b hb => .inl hb) (hf.wider (by simp [RD.blocks])), hf.wider (by simp [RD.blocks])⟩
theorem op_waiting {w0 w : World} {x : Item} {k : Nat} (h : At1 w0 w x k) (o : OpR) (p ga i : Nat) (c0 : w.cell? ⟨ga, i, none⟩ = some (.pointer (some ⟨x.d.p, 0, none⟩))) (c1 : w.cell? ⟨ga, i + 1, none⟩ = some (.pointer (some ⟨x.r.q, 0, none⟩))) (hga : ga ∉ x.blocks) (hk : o.kind = 10) : Calls Tryz.prog 72 #[.pointer (some ⟨p, 0, none⟩), .pointer (some ⟨ga, i, none⟩), OpR.agg o] w fun e w' => e = .returned (.bool true) ∧ Done w0 w.heap.size x x.S w' ∧ Fr w w' x.blocks := by
  simp only [Item.blocks, List.mem_append, not_or] at hga
  have ok := h.item.good.ok
  have few := h.item.good.few
  have fu := h.item.good.fuse
  have hk2 := h.k
  obtain ⟨aw, cw, hwv⟩ : ∃ aw cw, x.r.wv = .slice aw x.S.wait.length cw := by
    rcases h.item.ref.wait.2 with ⟨e, e0⟩ | ⟨g', cap', cur, e, _⟩
    · exact ⟨none, 0, by rw [e, e0]⟩
    · exact ⟨_, _, e⟩
  refine (disk_waiting o hk p ga i x.d.p x.r.q c0 c1 x.S.wait.length x.S.safe.length (by omega) ok.most aw (some ⟨x.r.gE, 0, none⟩) cw x.r.cE (fun w1 => Mid w0 w.heap.size x x.S w1 ∧ DevAt w1 x.d x.S) x.d.blocks h.lt.1 hga.1 ?_ ?_ ?_).mono ?_
  · intro w1 hb
    refine (devWaiting_any (h.dev hb) ok).mono ?_
    rintro e w' ⟨rfl, hd, hf⟩
    exact ⟨rfl, ⟨mid_of h hb hd rfl (fun b hb => .inl hb) (hf.wider (by simp [DP.blocks])), hd⟩, hf.wider (by simp [DP.blocks])⟩
  · intro w1 hm
    exact devSectors_any hm.2 ok
  · intro w1 hm
    obtain ⟨⟨d', h1, h2, h3, h4, h5, h6, h7⟩, _⟩ := hm
    exact ⟨by rw [← hwv]; exact h5.row.cell 2, h5.row.cell 1⟩
  · rintro e w' ⟨rfl, ⟨hm, hd⟩, hf⟩
    have hm' := hm
    obtain ⟨d', h1, h2, h3, h4, h5, h6, h7⟩ := hm
    exact ⟨rfl, done_of h hm' h5 rfl (fun b hb => .inl hb) (Fr.refl _ _), hf.wider (by simp [Item.blocks]; intro b hb; exact .inl hb)⟩
theorem op_image {w0 w : World} {x : Item} {k : Nat} (h : At1 w0 w x k) (o : OpR) (p ga i : Nat) (c0 : w.cell? ⟨ga, i, none⟩ = some (.pointer (some ⟨x.d.p, 0, none⟩))) (c1 : w.cell? ⟨ga, i + 1, none⟩ = some (.pointer (some ⟨x.r.q, 0, none⟩))) (hga : ga ∉ x.blocks) (hk : o.kind = 11) (left : Int) (hl0 : -10000 ≤ left) (hl1 : left ≤ 262144) (cl : w.cell? ⟨p, 5, none⟩ = some (.int .i64 left)) (fl : w.frozen? ⟨p, 5, none⟩ = false) (npg : p ≠ ga) (hp : p ∉ x.blocks) (hp0 : w0.heap.size ≤ p) :
    Calls Tryz.prog 72 #[.pointer (some ⟨p, 0, none⟩), .pointer (some ⟨ga, i, none⟩), OpR.agg o] w fun e w' => e = .returned (.bool true) ∧ Done w0 w.heap.size x x.S w' ∧ Fr w w' (p :: x.blocks) ∧ ∀ t vs, RowIs w p t vs → RowIs w' p t (vs.set 5 (.int .i64 (left - x.S.safe.length))) := by
  simp only [Item.blocks, List.mem_append, not_or] at hga hp
  have ok := h.item.good.ok
  have lp : p < w.heap.size := World.block_lt_of_cell? w _ cl
  have hsz := h.b0.size
  have apart := h.item.apart
  have fS : Fr w (w.setCell ⟨p, 5, none⟩ (.int .i64 (left - x.S.safe.length))) [p] := (Fr.refl w [p]).setCell _ _ (.inl (by simp))
  refine (disk_image o hk p ga i x.d.p x.r.q c0 c1 left hl0 hl1 cl fl x.S.safe.length x.r.gE x.r.cE ok.most (fun j => x.S.seen.getD j ByteArray.empty) (fun w1 => DevAt w1 x.d x.S ∧ RefAt w1 x.r x.S x.left x.lit ∧ Below w0.heap.size w0 w1 ∧ w0.heap.size ≤ w1.heap.size ∧ Fr (w.setCell ⟨p, 5, none⟩ (.int .i64 (left - x.S.safe.length))) w1 x.d.blocks) x.d.blocks h.lt.1 hga.1 npg (fun e => hp.2 (by rw [e]; simp [RD.blocks])) (fun e => apart _ e (by simp [RD.blocks])) (h.item.ref.row.cell 1) ?_ ?_ ?_).mono ?_
  · intro w1 hb
    have hb' : Below (w.setCell ⟨p, 5, none⟩ (.int .i64 (left - x.S.safe.length))).heap.size (w.setCell ⟨p, 5, none⟩ (.int .i64 (left - x.S.safe.length))) w1 := by simpa using hb
    have f1 : Fr w w1 [p] := fS.trans (Fr.of_below hb' []) (by simp)
    exact ⟨h.item.dev.fr f1 (fun b hb hb2 => by rw [List.mem_singleton.1 hb2] at hb; exact hp.1 hb), h.item.ref.fr f1 (fun b hb hb2 => by rw [List.mem_singleton.1 hb2] at hb; exact hp.2 hb), below_fr h.b0 f1 (by omega) (by simpa using hp0), Nat.le_trans hsz f1.size, Fr.of_below hb' _⟩
  · rintro w1 j hj ⟨h1, h2, h3, h4, h5⟩
    refine plain_read (N := fun w1 => DevAt w1 x.d x.S ∧ RefAt w1 x.r x.S x.left x.lit ∧ Below w0.heap.size w0 w1 ∧ w0.heap.size ≤ w1.heap.size ∧ Fr (w.setCell ⟨p, 5, none⟩ (.int .i64 (left - x.S.safe.length))) w1 x.d.blocks) (ev := .nilIface) (m := -1) ?_ ?_
    · refine (devRead_any h1 ok j hj).mono ?_
      rintro e w' ⟨rfl, hd, hf⟩
      have hf' : Fr w1 w' x.d.blocks := hf.wider (by simp [DP.blocks])
      exact ⟨rfl, ⟨hd, h2.fr hf' (fun b hb hb2 => apart b hb2 hb), below_fr h3 hf' h4 (fun b hb => h.far b (by simp [Item.blocks, hb])), Nat.le_trans h4 hf.size, h5.trans hf' (fun y hy _ => hy)⟩, hf'⟩
    · intro w1 hm
      refine (number_nil w1).mono ?_
      rintro e w' ⟨rfl, rfl⟩
      exact ⟨rfl, hm, Fr.refl _ _⟩
  · rintro w1 j hj ⟨h1, h2, h3, h4, h5⟩
    have := h2.seen.cell j (by rw [strs_length, x.S.seen_length]; exact hj)
    rw [strs_get _ _ (by rw [x.S.seen_length]; exact hj)] at this
    exact this
  · rintro e w' ⟨rfl, ⟨h1, h2, h3, h4, h5⟩, hf⟩
    refine ⟨rfl, ⟨x, h1, h2, rfl, rfl, rfl, fun b hb => .inl hb, apart, h3⟩, hf.wider (by simp [Item.blocks]; intro b hb; exact .inr (.inl hb)), ?_⟩
    intro t vs hr
    exact h5.row (hr.set 5 _) hp.1
theorem op_crash {w0 w : World} {x : Item} {k : Nat} (h : At1 w0 w x k) (o : OpR) (p ga i : Nat) (c0 : w.cell? ⟨ga, i, none⟩ = some (.pointer (some ⟨x.d.p, 0, none⟩))) (c1 : w.cell? ⟨ga, i + 1, none⟩ = some (.pointer (some ⟨x.r.q, 0, none⟩))) (hga : ga ∉ x.blocks) (hk : o.kind = 9) (kv : Value) (ks : List Int) (cp : w.cell? ⟨p, 1, none⟩ = some kv) (hks : w.ownsRow 0 3 1 kv ks.length (intsV ks)) (hkl : ks.length ≤ 1000000) (npg : p ≠ ga) (fz : w.frozen? ⟨p, 1, none⟩ = false) (hp : p ∉ x.blocks) (hkb : ∀ g, kv.ownBlock = some g → g ∉ x.blocks) (hw0 : 0 < w0.heap.size) :
    ∃ S', Good S' (k + 1) ∧ Calls Tryz.prog 72 #[.pointer (some ⟨p, 0, none⟩), .pointer (some ⟨ga, i, none⟩), OpR.agg o] w fun e w' => e = .returned (.bool true) ∧ ∃ w1, Done w0 w.heap.size x S' w1 ∧ Fr w w1 x.blocks ∧ w' = w1.setCell ⟨p, 1, none⟩ (.slice none 0 0) := by
  simp only [Item.blocks, List.mem_append, not_or] at hga hp hkb
  have ok := h.item.good.ok
  have lp : p < w.heap.size := World.block_lt_of_cell? w _ cp
  have hlk := keptL_len x.S.wait x.S.safe ks
  have hwr := fun y hy => (ok.wr y hy).2
  refine ⟨⟨keptL x.S.wait x.S.safe ks, [], 0, false⟩, ⟨⟨by show 0 < (keptL x.S.wait x.S.safe ks).length; rw [hlk]; exact ok.pos, by show (keptL x.S.wait x.S.safe ks).length ≤ _; rw [hlk]; exact ok.most, kept_sizes _ _ _ ok.sec hwr, by intro y hy; simp at hy, Nat.zero_le _⟩, Nat.zero_le _, Nat.zero_le _⟩, ?_⟩
  refine (disk_crash o hk p ga i x.d.p x.r.q c0 c1 kv ks cp hks hkl npg (fun w1 => Mid w0 w.heap.size x ⟨keptL x.S.wait x.S.safe ks, [], 0, false⟩ w1 ∧ Fr w w1 x.d.blocks) (fun w1 => Done w0 w.heap.size x ⟨keptL x.S.wait x.S.safe ks, [], 0, false⟩ w1 ∧ Fr w w1 x.blocks) x.d.blocks x.r.blocks h.lt.1 hga.1 hp.1 hga.2 hp.2 ?_ ?_ ?_ ?_).mono ?_
  · intro w1 a0 g ck hb hka hg
    refine plain_crash ?_
    refine (devCrash_any (h.dev hb) ok a0 g 0 ck ks hkl hka (fun hx => by have := h.lt.1 g hx; omega)).mono ?_
    rintro e w' ⟨rfl, ⟨d', hd, hp', hsub⟩, hf⟩
    exact ⟨rfl, ⟨mid_of h hb hd hp' hsub hf, (Fr.of_below hb _).trans hf (fun y hy _ => hy)⟩, hf⟩
  · rintro w1 ⟨h1, h2⟩
    exact ⟨h1.drew, h2.drew⟩
  · rintro w1 ⟨hm, hf1⟩
    have hm' := hm
    obtain ⟨d', h1, h2, h3, h4, h5, h6, h7⟩ := hm
    have hk1 := owns_fr hks hf1 (fun g hg => (hkb g hg).1)
    obtain ⟨a0, g, ck, hv, hka, hx1, _, hx2, hx3⟩ := keepAt_of hk1
    have hgr : g ∉ x.r.blocks := by
      intro hg
      cases hq : kv.ownBlock with
      | none =>
        rw [hx3 hq] at hg
        have := h.far 0 (by simp [Item.blocks, hg])
        omega
      | some b => rw [hx1 b hq] at hg; exact (hkb b hq).2 hg
    rw [hv]
    refine (refCrash_any h5 ok a0 g 0 ck ks hkl hka hgr).mono ?_
    rintro e w' ⟨rfl, ⟨r', hr, hq, hsub⟩, hf⟩
    exact ⟨rfl, ⟨done_of h hm' hr hq hsub hf, (hf1.wider (by intro y hy; simp [Item.blocks, hy])).trans hf (by intro y hy _; simp [Item.blocks, hy])⟩, hf⟩
  · rintro w1 ⟨_, hf⟩
    rw [World.frozen?_of_block (hf.block p lp (by simp [Item.blocks, hp]))]
    exact fz
  · rintro e w' ⟨rfl, w1, ⟨hd, hf⟩, _, rfl⟩
    exact ⟨rfl, w1, hd, hf, rfl⟩
end Go.Proofs.YtdidjdoifpfmmaaGreatDoor
/- What stays through a script of disks. -/
namespace Go.Proofs.YtdidjdoifpfmmaaGreatDoor
open Go.RowKit
structure DInv (k : Nat) (w : World) (p pm : Nat) (kv av : Value) (ks : List Int) (xs : List Item) (left : Int) : Prop where
  row : RowIs w p 73 [.pointer (some ⟨pm, 0, none⟩), kv, av, .slice none 0 0, .int .i64 0, .int .i64 left]
  keep : w.ownsRow 0 3 1 kv ks.length (intsV ks)
  keepN : ks.length ≤ k
  all : w.ownsRow 0 142 4 av xs.length (xs.flatMap Item.cells)
  allN : xs.length ≤ k
  l0 : -5000 ≤ left
  l1 : left ≤ 262144
  items : ∀ (j : Nat) x, xs[j]? = some x → ItemAt w x k
  far : ∀ (j : Nat) x, xs[j]? = some x → ∀ b ∈ x.blocks, p < b ∧ kv.ownBlock ≠ some b ∧ av.ownBlock ≠ some b
  apart : ∀ (i j : Nat) x y, xs[i]? = some x → xs[j]? = some y → i ≠ j → ∀ b ∈ x.blocks, b ∉ y.blocks
  kp : ∀ b, kv.ownBlock = some b → p < b ∧ av.ownBlock ≠ some b
  ap : ∀ b, av.ownBlock = some b → p < b
theorem ItemAt.fr {w w' : World} {x : Item} {k : Nat} {bs : List Nat} (h : ItemAt w x k) (f : Fr w w' bs) (hn : ∀ b ∈ x.blocks, b ∉ bs) : ItemAt w' x k :=
  ⟨h.dev.fr f (fun b hb => hn b (by simp [Item.blocks, hb])), h.ref.fr f (fun b hb => hn b (by simp [Item.blocks, hb])), h.good, h.apart⟩
theorem ItemAt.more {w : World} {x : Item} {k : Nat} (h : ItemAt w x k) : ItemAt w x (k + 1) := ⟨h.dev, h.ref, h.good.more, h.apart⟩
theorem ItemAt.lt {w : World} {x : Item} {k : Nat} (h : ItemAt w x k) : ∀ b ∈ x.blocks, b < w.heap.size := by
  intro b hb
  rcases List.mem_append.1 hb with hb | hb
  · exact h.dev.lt b hb
  · exact h.ref.lt b hb
theorem DInv.below {k : Nat} {w w' : World} {p pm : Nat} {kv av : Value} {ks : List Int} {xs : List Item} {left : Int} (i : DInv k w p pm kv av ks xs left) (hb : Below w.heap.size w w') : DInv k w' p pm kv av ks xs left :=
  have f := Fr.of_below hb []
  ⟨f.row i.row (by simp), owns_fr i.keep f (by simp), i.keepN, owns_fr i.all f (by simp), i.allN, i.l0, i.l1, fun j x hx => (i.items j x hx).fr f (by simp), i.far, i.apart, i.kp, i.ap⟩
theorem DInv.more {k : Nat} {w : World} {p pm : Nat} {kv av : Value} {ks : List Int} {xs : List Item} {left : Int} (i : DInv k w p pm kv av ks xs left) : DInv (k + 1) w p pm kv av ks xs left :=
  ⟨i.row, i.keep, Nat.le_succ_of_le i.keepN, i.all, Nat.le_succ_of_le i.allN, i.l0, i.l1, fun j x hx => (i.items j x hx).more, i.far, i.apart, i.kp, i.ap⟩
theorem cells_set (xs : List Item) (j : Nat) (x x' : Item) (hx : xs[j]? = some x) (h1 : x'.d.p = x.d.p) (h2 : x'.r.q = x.r.q) : (xs.set j x').flatMap Item.cells = xs.flatMap Item.cells := by
  induction xs generalizing j with
  | nil => rfl
  | cons y ys ih =>
    cases j with
    | zero =>
      simp only [List.getElem?_cons_zero, Option.some.injEq] at hx
      subst hx
      simp [Item.cells, h1, h2]
    | succ j =>
      rw [List.set_cons_succ, List.flatMap_cons, List.flatMap_cons, ih j (by simpa using hx)]
theorem pair_cells {w : World} {ga n ca : Nat} {xs : List Item} (h : w.ownsRow 0 142 4 (.slice (some ⟨ga, 0, none⟩) n ca) n (xs.flatMap Item.cells)) (j : Nat) (x : Item) (hx : xs[j]? = some x) :
    w.cell? ⟨ga, j * 4, none⟩ = some (.pointer (some ⟨x.d.p, 0, none⟩)) ∧ w.cell? ⟨ga, j * 4 + 1, none⟩ = some (.pointer (some ⟨x.r.q, 0, none⟩)) := by
  obtain ⟨hh, _, _⟩ := has_of_owns h
  obtain ⟨hj, rfl⟩ := List.getElem?_eq_some_iff.1 hx
  have hl : (xs.flatMap Item.cells).length = xs.length * 4 := flat_length _ 4 xs (fun x _ => rfl)
  constructor
  · have := hh.cell (j * 4 + 0) (by rw [hl]; omega)
    rw [flat_get _ 4 xs (fun x _ => rfl) j hj 0 (by decide)] at this
    exact this
  · have := hh.cell (j * 4 + 1) (by rw [hl]; omega)
    rw [flat_get _ 4 xs (fun x _ => rfl) j hj 1 (by decide)] at this
    exact this
/-- A call of one disk. -/
theorem DInv.call {k : Nat} {w0 w w1 w' : World} {p pm : Nat} {kv kv' av : Value} {ks ks' : List Int} {xs : List Item} {left left' : Int} (i : DInv k w p pm kv av ks xs left) {j : Nat} {x : Item} (hx : xs[j]? = some x) {S' : Dk} (hd : Done w0 w.heap.size x S' w1) (g : Good S' (k + 1))
    (f : Fr w w' (p :: x.blocks)) (f1 : Fr w1 w' [p]) (row' : RowIs w' p 73 [.pointer (some ⟨pm, 0, none⟩), kv', av, .slice none 0 0, .int .i64 0, .int .i64 left']) (hkv : (kv' = kv ∧ ks' = ks) ∨ (kv' = .slice none 0 0 ∧ ks' = [])) (hl0 : -5000 ≤ left') (hl1 : left' ≤ 262144) :
    ∃ xs', DInv (k + 1) w' p pm kv' av ks' xs' left' := by
  obtain ⟨x', h1, h2, h3, h4, h5, h6, h7, h8⟩ := hd
  have lp := i.row.lt
  have hxi := i.items j x hx
  have hxf := i.far j x hx
  have hxl := hxi.lt
  have hj : j < xs.length := (List.getElem?_eq_some_iff.1 hx).1
  have hget : ∀ a y, (xs.set j x')[a]? = some y → (a = j ∧ y = x') ∨ (a ≠ j ∧ xs[a]? = some y) := by
    intro a y hy
    by_cases e : a = j
    · subst e
      rw [List.getElem?_set_self hj] at hy
      exact .inl ⟨rfl, (Option.some.inj hy).symm⟩
    · rw [List.getElem?_set_ne (fun h => e h.symm)] at hy
      exact .inr ⟨e, hy⟩
  have hpb : ∀ b ∈ x'.blocks, p < b := fun b hb => by
    rcases h6 b hb with hq | hq
    · exact (hxf b hq).1
    · omega
  have hown : ∀ b, kv'.ownBlock = some b → kv.ownBlock = some b := by
    intro b hb
    rcases hkv with ⟨rfl, _⟩ | ⟨rfl, _⟩
    · exact hb
    · simp [Value.ownBlock] at hb
  have hkl : ∀ b, kv.ownBlock = some b → b < w.heap.size := own_lt i.keep
  have hal : ∀ b, av.ownBlock = some b → b < w.heap.size := own_lt i.all
  refine ⟨xs.set j x', row', ?_, ?_, ?_, ?_, hl0, hl1, ?_, ?_, ?_, ?_, i.ap⟩
  · rcases hkv with ⟨rfl, rfl⟩ | ⟨rfl, rfl⟩
    · refine owns_fr i.keep f (fun b hb hm => ?_)
      rcases List.mem_cons.1 hm with hq | hq
      · have := (i.kp b hb).1; omega
      · exact (hxf b hq).2.1 hb
    · exact World.ownsRow_nil _ _ _ _
  · rcases hkv with ⟨_, rfl⟩ | ⟨_, rfl⟩
    · exact Nat.le_succ_of_le i.keepN
    · exact Nat.zero_le _
  · rw [List.length_set, cells_set xs j x x' hx h4 h5]
    refine owns_fr i.all f (fun b hb hm => ?_)
    rcases List.mem_cons.1 hm with hq | hq
    · have := i.ap b hb; omega
    · exact (hxf b hq).2.2 hb
  · rw [List.length_set]; exact Nat.le_succ_of_le i.allN
  · intro a y hy
    rcases hget a y hy with ⟨rfl, rfl⟩ | ⟨ha, hy⟩
    · refine ⟨?_, ?_, by rw [h3]; exact g, h7⟩
      · rw [h3]; exact h1.fr f1 (fun b hb hm => by have := hpb b (by simp [Item.blocks, hb]); simp at hm; omega)
      · rw [h3]; exact h2.fr f1 (fun b hb hm => by have := hpb b (by simp [Item.blocks, hb]); simp at hm; omega)
    · refine ((i.items a y hy).fr f (fun b hb hm => ?_)).more
      rcases List.mem_cons.1 hm with hq | hq
      · have := (i.far a y hy b hb).1; omega
      · exact i.apart a j y x hy hx ha b hb hq
  · intro a y hy b hb
    rcases hget a y hy with ⟨rfl, rfl⟩ | ⟨ha, hy⟩
    · refine ⟨hpb b hb, fun e => ?_, fun e => ?_⟩
      · have e' := hown b e
        rcases h6 b hb with hq | hq
        · exact (hxf b hq).2.1 e'
        · have := hkl b e'; omega
      · rcases h6 b hb with hq | hq
        · exact (hxf b hq).2.2 e
        · have := hal b e; omega
    · have := i.far a y hy b hb
      exact ⟨this.1, fun e => this.2.1 (hown b e), this.2.2⟩
  · intro a c y z hy hz hne b hb hb2
    rcases hget a y hy with ⟨rfl, rfl⟩ | ⟨ha, hy'⟩
    · rcases hget c z hz with ⟨rfl, rfl⟩ | ⟨hc, hz'⟩
      · exact hne rfl
      · rcases h6 b hb with hq | hq
        · exact i.apart _ c x z hx hz' hne b hq hb2
        · have := (i.items c z hz').lt b hb2; omega
    · rcases hget c z hz with ⟨rfl, rfl⟩ | ⟨hc, hz'⟩
      · rcases h6 b hb2 with hq | hq
        · exact i.apart a _ y x hy' hx hne b hb hq
        · have := (i.items a y hy').lt b hb; omega
      · exact i.apart a c y z hy' hz' hne b hb hb2
  · intro b hb
    exact i.kp b (hown b hb)
/-- A place joins those that the next crash keeps. -/
theorem DInv.kept {k : Nat} {w w4 : World} {p pm : Nat} {kv av : Value} {ks : List Int} {xs : List Item} {left : Int} (i : DInv k w p pm kv av ks xs left) (a : Int) (g cap : Nat) (ho : w4.ownsRow 0 3 1 (.slice (some ⟨g, 0, none⟩) (ks.length + 1) cap) (ks.length + 1) (intsV ks ++ [.int .i64 a]))
    (hat : kv.ownBlock = some g ∨ w.heap.size ≤ g) (f : Fr w w4 kv.ownBlock.toList) : DInv (k + 1) (w4.setCell ⟨p, 1, none⟩ (.slice (some ⟨g, 0, none⟩) (ks.length + 1) cap)) p pm (.slice (some ⟨g, 0, none⟩) (ks.length + 1) cap) av (ks ++ [a]) xs left := by
  have lp := i.row.lt
  have hal : ∀ b, av.ownBlock = some b → b < w.heap.size := own_lt i.all
  have hpg : p < g := by
    rcases hat with hq | hq
    · exact (i.kp g hq).1
    · omega
  have f5 : Fr w (w4.setCell ⟨p, 1, none⟩ (.slice (some ⟨g, 0, none⟩) (ks.length + 1) cap)) (p :: kv.ownBlock.toList) := (f.wider (fun y hy => List.mem_cons_of_mem _ hy)).setCell _ _ (.inl (by simp))
  have hr4 : RowIs w4 p 73 [.pointer (some ⟨pm, 0, none⟩), kv, av, .slice none 0 0, .int .i64 0, .int .i64 left] := f.row i.row (fun hm => by
    rw [Option.mem_toList] at hm
    have := (i.kp p hm).1; omega)
  have hg' : ∀ b, (Value.slice (some ⟨g, 0, none⟩) (ks.length + 1) cap).ownBlock = some b → b = g := fun b hb => by simp [Value.ownBlock] at hb; exact hb.symm
  refine ⟨hr4.set 1 _, ?_, ?_, ?_, Nat.le_succ_of_le i.allN, i.l0, i.l1, ?_, ?_, i.apart, ?_, i.ap⟩
  · rw [List.length_append, List.length_singleton, show intsV (ks ++ [a]) = intsV ks ++ [.int .i64 a] by simp [intsV]]
    exact wait_other ho (fun b hb => by rw [hg' b hb]; show g ≠ p; omega)
  · rw [List.length_append, List.length_singleton]; have := i.keepN; omega
  · refine owns_fr i.all f5 (fun b hb hm => ?_)
    rcases List.mem_cons.1 hm with hq | hq
    · have := i.ap b hb; omega
    · rw [Option.mem_toList] at hq; exact (i.kp b hq).2 hb
  · intro j x hx
    refine ((i.items j x hx).fr f5 (fun b hb hm => ?_)).more
    rcases List.mem_cons.1 hm with hq | hq
    · have := (i.far j x hx b hb).1; omega
    · rw [Option.mem_toList] at hq; exact (i.far j x hx b hb).2.1 hq
  · intro j x hx b hb
    refine ⟨(i.far j x hx b hb).1, fun e => ?_, (i.far j x hx b hb).2.2⟩
    rw [hg' b e] at hb
    rcases hat with hq | hq
    · exact (i.far j x hx g hb).2.1 hq
    · have := (i.items j x hx).lt g hb; omega
  · intro b hb
    rw [hg' b hb]
    refine ⟨hpg, fun e => ?_⟩
    rcases hat with hq | hq
    · exact (i.kp g hq).2 e
    · have := hal g e; omega
/-- A disk more. -/
theorem DInv.new {k : Nat} {w w2 w4 : World} {p pm : Nat} {kv av : Value} {ks : List Int} {xs : List Item} {left : Int} (i : DInv k w p pm kv av ks xs left) (m : Nat) (hm : m ≤ 4096) (hl : 0 < left) (x : Item) (hx : ItemAt w2 x k) (hxb : ∀ b ∈ x.blocks, w.heap.size ≤ b) (hb : Below w.heap.size w w2) (g cap : Nat)
    (ho : w4.ownsRow 0 142 4 (.slice (some ⟨g, 0, none⟩) (xs.length + 1) cap) (xs.length + 1) (xs.flatMap Item.cells ++ x.cells)) (hat : av.ownBlock = some g ∨ w2.heap.size ≤ g)
    (f : Fr (w2.setCell ⟨p, 5, none⟩ (.int .i64 (left - m))) w4 av.ownBlock.toList) : DInv (k + 1) (w4.setCell ⟨p, 2, none⟩ (.slice (some ⟨g, 0, none⟩) (xs.length + 1) cap)) p pm kv (.slice (some ⟨g, 0, none⟩) (xs.length + 1) cap) ks (xs ++ [x]) (left - m) := by
  have lp := i.row.lt
  have hs2 := hb.size
  have hal : ∀ b, av.ownBlock = some b → b < w.heap.size := own_lt i.all
  have hkl : ∀ b, kv.ownBlock = some b → b < w.heap.size := own_lt i.keep
  have hpg : p < g := by
    rcases hat with hq | hq
    · exact i.ap g hq
    · omega
  have hxl := hx.lt
  have f2 : Fr w2 (w4.setCell ⟨p, 2, none⟩ (.slice (some ⟨g, 0, none⟩) (xs.length + 1) cap)) (p :: av.ownBlock.toList) :=
    ((((Fr.refl w2 (p :: av.ownBlock.toList)).setCell ⟨p, 5, none⟩ (.int .i64 (left - m)) (.inl (by simp))).trans f (fun y hy _ => List.mem_cons_of_mem _ hy))).setCell _ _ (.inl (by simp))
  have f5 : Fr w (w4.setCell ⟨p, 2, none⟩ (.slice (some ⟨g, 0, none⟩) (xs.length + 1) cap)) (p :: av.ownBlock.toList) := (Fr.of_below hb _).trans f2 (fun y hy _ => hy)
  have hr2 := (i.row.below hb lp).set 5 (.int .i64 (left - m))
  have hr4 := f.row hr2 (fun hm => by
    rw [Option.mem_toList] at hm
    have := i.ap p hm; omega)
  have hg' : ∀ b, (Value.slice (some ⟨g, 0, none⟩) (xs.length + 1) cap).ownBlock = some b → b = g := fun b hb => by simp [Value.ownBlock] at hb; exact hb.symm
  have hget : ∀ a y, (xs ++ [x])[a]? = some y → (xs[a]? = some y) ∨ (a = xs.length ∧ y = x) := by
    intro a y hy
    rcases Nat.lt_or_ge a xs.length with h | h
    · rw [List.getElem?_append_left h] at hy; exact .inl hy
    · rw [List.getElem?_append_right h] at hy
      have h0 : a - xs.length = 0 := by
        have := (List.getElem?_eq_some_iff.1 hy).1
        simp at this
        omega
      rw [h0] at hy
      exact .inr ⟨by omega, (Option.some.inj hy).symm⟩
  refine ⟨hr4.set 2 _, ?_, Nat.le_succ_of_le i.keepN, ?_, ?_, by omega, by have := i.l1; omega, ?_, ?_, ?_, ?_, ?_⟩
  · refine owns_fr i.keep f5 (fun b hb hm => ?_)
    rcases List.mem_cons.1 hm with hq | hq
    · have := (i.kp b hb).1; omega
    · rw [Option.mem_toList] at hq; exact (i.kp b hb).2 hq
  · rw [List.length_append, List.length_singleton, List.flatMap_append, List.flatMap_singleton]
    exact wait_other ho (fun b hb => by rw [hg' b hb]; show g ≠ p; omega)
  · rw [List.length_append, List.length_singleton]; have := i.allN; omega
  · intro j y hy
    rcases hget j y hy with hy' | ⟨_, rfl⟩
    · refine ((i.items j y hy').fr f5 (fun b hb hm => ?_)).more
      rcases List.mem_cons.1 hm with hq | hq
      · have := (i.far j y hy' b hb).1; omega
      · rw [Option.mem_toList] at hq; exact (i.far j y hy' b hb).2.2 hq
    · refine (hx.fr f2 (fun b hb hm => ?_)).more
      have := hxb b hb
      rcases List.mem_cons.1 hm with hq | hq
      · omega
      · rw [Option.mem_toList] at hq; have := hal b hq; omega
  · intro j y hy b hb
    rcases hget j y hy with hy' | ⟨_, rfl⟩
    · have hfar := i.far j y hy' b hb
      refine ⟨hfar.1, hfar.2.1, fun e => ?_⟩
      rw [hg' b e] at hb hfar
      rcases hat with hq | hq
      · exact hfar.2.2 hq
      · have := (i.items j y hy').lt g hb; omega
    · have := hxb b hb
      have hlt := hxl b hb
      refine ⟨by omega, fun e => by have := hkl b e; omega, fun e => ?_⟩
      have hbg := hg' b e
      rcases hat with hq | hq
      · have := hal g hq; omega
      · omega
  · intro a c y z hy hz hne b hb hb2
    rcases hget a y hy with hy' | ⟨ea, rfl⟩
    · rcases hget c z hz with hz' | ⟨ec, rfl⟩
      · exact i.apart a c y z hy' hz' hne b hb hb2
      · have := (i.items a y hy').lt b hb
        have := hxb b hb2
        omega
    · rcases hget c z hz with hz' | ⟨ec, rfl⟩
      · have := (i.items c z hz').lt b hb2
        have := hxb b hb
        omega
      · omega
  · intro b hb
    refine ⟨(i.kp b hb).1, fun e => ?_⟩
    have hbg := hg' b e
    rcases hat with hq | hq
    · rw [hbg] at hb; exact (i.kp g hb).2 hq
    · have := hkl b hb; omega
  · intro b hb
    rw [hg' b hb]; exact hpg
end Go.Proofs.YtdidjdoifpfmmaaGreatDoor
/- Every step of a script of disks. -/
namespace Go.Proofs.YtdidjdoifpfmmaaGreatDoor
open Go.RowKit
def DisksInv (k : Nat) (w : World) (p : Nat) : Prop := ∃ pm kv av ks xs left, DInv k w p pm kv av ks xs left
theorem good_new (m : Nat) (h0 : 0 < m) (h1 : m ≤ 4096) (k : Nat) : Good ⟨List.replicate m zero64, [], 0, false⟩ k :=
  ⟨⟨by simpa using h0, by simpa using h1, fun x hx => by rw [List.eq_of_mem_replicate hx]; exact zero64_size, by intro y hy; simp at hy, Nat.zero_le _⟩, Nat.zero_le _, Nat.zero_le _⟩
theorem disks_new {k : Nat} {w0 w : World} {pm : Nat} {kv av : Value} {ks : List Int} {xs : List Item} {left : Int} (i : DInv k w w0.heap.size pm kv av ks xs left) (hB : Below w0.heap.size w0 w) (hk : k ≤ 262144) (hl : 0 < left) (o : OpR) (ho : o.kind = 3) :
    Calls Tryz.prog 41 #[.pointer (some ⟨w0.heap.size, 0, none⟩), OpR.agg o] w fun e w' => e = .returned (.bool true) ∧ DisksInv (k + 1) w' w0.heap.size ∧ Below w0.heap.size w0 w' := by
  have lp := i.row.lt
  have hal : ∀ b, av.ownBlock = some b → b < w.heap.size := own_lt i.all
  have hN := i.allN
  refine (step_new o ho w0.heap.size xs.length av (xs.flatMap Item.cells) left (by have := i.l0; omega) i.l1 (by omega)
    (fun dp w1 => ∃ d, d.p = dp ∧ DevAt w1 d ⟨List.replicate (max 1 (min o.a 4096)).toNat zero64, [], 0, false⟩ ∧ (∀ b ∈ d.blocks, w.heap.size ≤ b) ∧ w.heap.size ≤ w1.heap.size)
    (fun dp rq m w2 => m = (max 1 (min o.a 4096)).toNat ∧ ∃ x : Item, x.d.p = dp ∧ x.r.q = rq ∧ ItemAt w2 x k ∧ ∀ b ∈ x.blocks, w.heap.size ≤ b)
    (i.row.cell 2) (i.row.cell 5) (fun j => i.row.frozen j) i.all (fun e => by have := i.ap _ e; omega) ?_ ?_).mono ?_
  · intro w1 hb
    refine (devNew_any o.a w1).mono ?_
    rintro e w' ⟨m, d, rfl, rfl, hd, hbl, hb'⟩
    exact ⟨d.p, rfl, ⟨d, rfl, hd, fun b hb2 => Nat.le_trans hb.size (hbl b hb2), Nat.le_trans hb.size hb'.size⟩, hb'⟩
  · rintro w1 dp ⟨d, rfl, hd, hbl, hsz⟩
    refine (refNew_any o.a w1).mono ?_
    rintro e w' ⟨m, r, rfl, rfl, hr, hbl2, hb'⟩
    refine ⟨r.q, _, some ⟨r.gE, 0, none⟩, r.cE, rfl, ⟨rfl, ⟨d, r, ⟨List.replicate (max 1 (min o.a 4096)).toNat zero64, [], 0, false⟩, 0, false⟩, rfl, rfl, ⟨hd.fr (Fr.of_below hb' []) (by simp), hr, good_new _ (by omega) (by omega) k, ?_⟩, ?_⟩, hb', ?_, by omega⟩
    · intro b hb1 hb2
      have := hd.lt b hb1
      have := hbl2 b hb2
      omega
    · intro b hb
      rcases List.mem_append.1 hb with hb | hb
      · exact hbl b hb
      · exact Nat.le_trans hsz (hbl2 b hb)
    · have := hr.row.cell 1
      simpa using this
  · rintro e w' ⟨rfl, dp, rq, m, w2, w4, g, cap, ⟨rfl, x, rfl, rfl, hx, hxb⟩, hb2, ho4, hat, hlt, hf, rfl⟩
    have hi := i.new _ (by omega) hl x hx hxb hb2 g cap ho4 hat hf
    refine ⟨rfl, ⟨_, _, _, _, _, _, hi⟩, ?_⟩
    have b2 : Below w0.heap.size w0 w2 := hB.trans (hb2.mono hB.size)
    have f2 : Fr w2 (w4.setCell ⟨w0.heap.size, 2, none⟩ (.slice (some ⟨g, 0, none⟩) (xs.length + 1) cap)) (w0.heap.size :: av.ownBlock.toList) :=
      ((((Fr.refl w2 (w0.heap.size :: av.ownBlock.toList)).setCell ⟨w0.heap.size, 5, none⟩ _ (.inl (by simp))).trans hf (fun y hy _ => List.mem_cons_of_mem _ hy))).setCell _ _ (.inl (by simp))
    refine below_fr b2 f2 b2.size ?_
    intro b hb
    rcases List.mem_cons.1 hb with hq | hq
    · omega
    · rw [Option.mem_toList] at hq; exact Nat.le_of_lt (i.ap b hq)
theorem disks_keep {k : Nat} {w0 w : World} {pm : Nat} {kv av : Value} {ks : List Int} {xs : List Item} {left : Int} (i : DInv k w w0.heap.size pm kv av ks xs left) (hB : Below w0.heap.size w0 w) (hk : k ≤ 262144) (o : OpR) (ho : o.kind = 8) :
    Calls Tryz.prog 41 #[.pointer (some ⟨w0.heap.size, 0, none⟩), OpR.agg o] w fun e w' => e = .returned (.bool true) ∧ DisksInv (k + 1) w' w0.heap.size ∧ Below w0.heap.size w0 w' := by
  have hN := i.keepN
  refine (step_keep o ho w0.heap.size ks.length kv (intsV ks) (by omega) (i.row.cell 1) (i.row.frozen 1) i.keep (fun e => by have := (i.kp _ e).1; omega)).mono ?_
  rintro e w' ⟨rfl, w4, g, cap, ho4, hat, hlt, hf, rfl⟩
  refine ⟨rfl, ⟨_, _, _, _, _, _, i.kept o.a g cap ho4 hat hf⟩, ?_⟩
  have f2 : Fr w (w4.setCell ⟨w0.heap.size, 1, none⟩ (.slice (some ⟨g, 0, none⟩) (ks.length + 1) cap)) (w0.heap.size :: kv.ownBlock.toList) := (hf.wider (fun y hy => List.mem_cons_of_mem _ hy)).setCell _ _ (.inl (by simp))
  refine below_fr hB f2 hB.size ?_
  intro b hb
  rcases List.mem_cons.1 hb with hq | hq
  · omega
  · rw [Option.mem_toList] at hq; exact Nat.le_of_lt (i.kp b hq).1
theorem disks_call {k : Nat} {w0 w : World} {pm : Nat} {kv av : Value} {ks : List Int} {xs : List Item} {left : Int} (i : DInv k w w0.heap.size pm kv av ks xs left) (hB : Below w0.heap.size w0 w) {a : Nat → Addr} (hS : Sents a w0) (hk : k ≤ 262144) (hl : 0 < left) (o : OpR) (ho : o.kind = 4 ∨ o.kind = 5 ∨ o.kind = 6 ∨ o.kind = 7 ∨ o.kind = 9 ∨ o.kind = 10 ∨ o.kind = 11) (hfit : o.Fit) (hz : o.s.size ≤ 140737488351232) :
    Calls Tryz.prog 41 #[.pointer (some ⟨w0.heap.size, 0, none⟩), OpR.agg o] w fun e w' => e = .returned (.bool true) ∧ DisksInv (k + 1) w' w0.heap.size ∧ Below w0.heap.size w0 w' := by
  have hN := i.allN
  have hKN := i.keepN
  have hl1 := i.l1
  rcases Nat.eq_zero_or_pos xs.length with h0 | hpos
  · obtain ⟨ag, ca, hav⟩ : ∃ ag ca, av = .slice ag 0 ca := by
      rcases i.all.2 with ⟨e, e0⟩ | ⟨g', cap', cur, e, _⟩
      · exact ⟨none, 0, e⟩
      · exact ⟨_, _, by rw [e, h0]⟩
    refine (step_none o ho w0.heap.size ag ca (by rw [← hav]; exact i.row.cell 2)).mono ?_
    rintro e w' ⟨rfl, hb⟩
    exact ⟨rfl, ⟨_, _, _, _, _, _, (i.below hb).more⟩, hB.trans (hb.mono hB.size)⟩
  · obtain ⟨ga, ca, hav, _, _⟩ := i.all.form hpos
    refine step_disk o ho hfit.2.2.2 w0.heap.size ga xs.length ca hpos (by omega) (by rw [← hav]; exact i.row.cell 2) (fun w' => DisksInv (k + 1) w' w0.heap.size ∧ Below w0.heap.size w0 w') ?_
    intro w1 hb
    have i1 := i.below hb
    have hB1 : Below w0.heap.size w0 w1 := hB.trans (hb.mono hB.size)
    have hj := pickOf_lt o.d xs.length hpos
    generalize pickOf o.d xs.length = j at hj
    obtain ⟨x, hx⟩ : ∃ x, xs[j]? = some x := ⟨xs[j], List.getElem?_eq_getElem hj⟩
    have hall := i1.all
    rw [hav] at hall
    obtain ⟨c0, c1⟩ := pair_cells hall j x hx
    have hfar := i1.far j x hx
    have hga : ga ∉ x.blocks := fun h => (hfar ga h).2.2 (by rw [hav]; rfl)
    have hpx : w0.heap.size ∉ x.blocks := fun h => by have := (hfar _ h).1; omega
    have h1 : At1 w0 w1 x k := ⟨i1.items j x hx, hB1, fun b hb => Nat.le_of_lt (hfar b hb).1, hk⟩
    have npg : w0.heap.size ≠ ga := by have := i1.ap ga (by rw [hav]; rfl); omega
    have hxB : ∀ b ∈ x.blocks, w0.heap.size ≤ b := h1.far
    -- a call that leaves the script's own row as it was
    have fin : ∀ S' w', Good S' (k + 1) → Done w0 w1.heap.size x S' w' → Fr w1 w' x.blocks → DisksInv (k + 1) w' w0.heap.size ∧ Below w0.heap.size w0 w' := by
      intro S' w' hg hd hf
      obtain ⟨xs', hi⟩ := i1.call hx hd hg (hf.wider (fun y hy => List.mem_cons_of_mem _ hy)) (Fr.refl _ _) (hf.row i1.row hpx) (.inl ⟨rfl, rfl⟩) i1.l0 i1.l1
      exact ⟨⟨_, _, _, _, _, _, hi⟩, below_fr hB1 hf hB1.size hxB⟩
    rcases ho with ho | ho | ho | ho | ho | ho | ho
    · refine (op_read h1 o w0.heap.size ga (j * 4) c0 c1 hga hS ho).mono ?_
      rintro e w' ⟨rfl, hd, hf⟩
      exact ⟨rfl, fin _ _ h1.item.good.more hd hf⟩
    · obtain ⟨S', hg, hc⟩ := op_write h1 o w0.heap.size ga (j * 4) c0 c1 hga hS ho hz
      refine hc.mono ?_
      rintro e w' ⟨rfl, hd, hf⟩
      exact ⟨rfl, fin _ _ hg hd hf⟩
    · obtain ⟨S', hg, hc⟩ := op_flush h1 o w0.heap.size ga (j * 4) c0 c1 hga hS ho
      refine hc.mono ?_
      rintro e w' ⟨rfl, hd, hf⟩
      exact ⟨rfl, fin _ _ hg hd hf⟩
    · obtain ⟨S', hg, hc⟩ := op_fuse h1 o w0.heap.size ga (j * 4) c0 c1 hga ho hfit.2.1
      refine hc.mono ?_
      rintro e w' ⟨rfl, hd, hf⟩
      exact ⟨rfl, fin _ _ hg hd hf⟩
    · obtain ⟨S', hg, hc⟩ := op_crash h1 o w0.heap.size ga (j * 4) c0 c1 hga ho kv ks (i1.row.cell 1) i1.keep (by omega) npg (i1.row.frozen 1) hpx (fun b hb hm => (hfar b hm).2.1 hb) (by have := hS.size; omega)
      refine hc.mono ?_
      rintro e w' ⟨rfl, w2, hd, hf, rfl⟩
      have f2 : Fr w2 (w2.setCell ⟨w0.heap.size, 1, none⟩ (.slice none 0 0)) [w0.heap.size] := (Fr.refl _ _).setCell _ _ (.inl (by simp))
      have f3 : Fr w1 (w2.setCell ⟨w0.heap.size, 1, none⟩ (.slice none 0 0)) (w0.heap.size :: x.blocks) := (hf.wider (fun y hy => List.mem_cons_of_mem _ hy)).setCell _ _ (.inl (by simp))
      obtain ⟨xs', hi⟩ := i1.call (kv' := .slice none 0 0) (ks' := []) hx hd hg f3 f2 ((hf.row i1.row hpx).set 1 _) (.inr ⟨rfl, rfl⟩) i1.l0 i1.l1
      refine ⟨rfl, ⟨_, _, _, _, _, _, hi⟩, below_fr hB1 f3 hB1.size ?_⟩
      intro b hb
      rcases List.mem_cons.1 hb with hq | hq
      · omega
      · exact hxB b hq
    · refine (op_waiting h1 o w0.heap.size ga (j * 4) c0 c1 hga ho).mono ?_
      rintro e w' ⟨rfl, hd, hf⟩
      exact ⟨rfl, fin _ _ h1.item.good.more hd hf⟩
    · have hmost := h1.item.good.ok.most
      refine (op_image h1 o w0.heap.size ga (j * 4) c0 c1 hga ho left (by omega) hl1 (i1.row.cell 5) (i1.row.frozen 5) npg hpx (Nat.le_refl _)).mono ?_
      rintro e w' ⟨rfl, hd, hf, hrow⟩
      obtain ⟨xs', hi⟩ := i1.call hx hd h1.item.good.more hf (Fr.refl _ _) (hrow _ _ i1.row) (.inl ⟨rfl, rfl⟩) (by omega) (by omega)
      refine ⟨rfl, ⟨_, _, _, _, _, _, hi⟩, below_fr hB1 hf hB1.size ?_⟩
      intro b hb
      rcases List.mem_cons.1 hb with hq | hq
      · omega
      · exact hxB b hq
end Go.Proofs.YtdidjdoifpfmmaaGreatDoor
