import Derived.Test.YtdidjdoifpfmmaaGreatDoorGT19
import Derived.Test.YtdidjdoifpfmmaaGreatDoorGT7
import Derived.Test.YtdidjdoifpfmmaaGreatDoorGT15
/- Disks, the program's and the document's, side by side: each call. -/
namespace Go.Proofs.YtdidjdoifpfmmaaGreatDoor
open Go.RowKit

/-- A disk of the script: the program's, the document's, what both are. -/
structure Item where
  d : DP
  r : RD
  S : Dk
  left : Int
  lit : Bool
def Item.blocks (x : Item) : List Nat := x.d.blocks ++ x.r.blocks
def Item.cells (x : Item) : List Value := [.pointer (some ⟨x.d.p, 0, none⟩), .pointer (some ⟨x.r.q, 0, none⟩), .pointer none, .pointer none]
theorem DevAt.fr {w w' : World} {d : DP} {S : Dk} {bs : List Nat} (h : DevAt w d S) (f : Fr w w' bs) (hn : ∀ b ∈ d.blocks, b ∉ bs) : DevAt w' d S :=
  ⟨f.row h.row (hn _ (by simp [DP.blocks])), f.row h.safe (hn _ (by simp [DP.blocks])), owns_fr h.wait f (fun g hg => hn g (by simp [DP.blocks, hg])), map_fr h.last f (hn _ (by simp [DP.blocks])), h.apart⟩
theorem RefAt.fr {w w' : World} {r : RD} {S : Dk} {left : Int} {lit : Bool} {bs : List Nat} (h : RefAt w r S left lit) (f : Fr w w' bs) (hn : ∀ b ∈ r.blocks, b ∉ bs) : RefAt w' r S left lit :=
  ⟨f.row h.row (hn _ (by simp [RD.blocks])), h.safe.fr f (hn _ (by simp [RD.blocks])), h.seen.fr f (hn _ (by simp [RD.blocks])), owns_fr h.wait f (fun g hg => hn g (by simp [RD.blocks, hg])), h.apart, h.caps, h.lit, h.small⟩
theorem DevAt.lt {w : World} {d : DP} {S : Dk} (h : DevAt w d S) : ∀ b ∈ d.blocks, b < w.heap.size := by
  intro b hb
  simp only [DP.blocks, List.mem_cons, Option.mem_toList] at hb
  rcases hb with rfl | rfl | rfl | hb
  · exact h.row.lt
  · exact h.safe.lt
  · exact h.last.lt
  · exact own_lt h.wait b hb
theorem RefAt.lt {w : World} {r : RD} {S : Dk} {left : Int} {lit : Bool} (h : RefAt w r S left lit) : ∀ b ∈ r.blocks, b < w.heap.size := by
  intro b hb
  simp only [RD.blocks, List.mem_cons, Option.mem_toList] at hb
  rcases hb with rfl | rfl | rfl | hb
  · exact h.row.lt
  · exact h.safe.lt
  · exact h.seen.lt
  · exact own_lt h.wait b hb
theorem below_fr {B : Nat} {w0 w1 w' : World} {bs : List Nat} (hb : Below B w0 w1) (f : Fr w1 w' bs) (hB : B ≤ w1.heap.size) (hn : ∀ b ∈ bs, B ≤ b) : Below B w0 w' :=
  ⟨f.os.trans hb.os, f.tape.trans hb.tape, f.output.trans hb.output, Nat.le_trans hb.size f.size, fun k hk => (f.block k (by omega) (fun hx => by have := hn k hx; omega)).trans (hb.block k hk)⟩

structure Good (S : Dk) (k : Nat) : Prop where
  ok : S.Ok
  fuse : S.fuse ≤ 9223372036854775807
  few : S.wait.length ≤ k
structure ItemAt (w : World) (x : Item) (k : Nat) : Prop where
  dev : DevAt w x.d x.S
  ref : RefAt w x.r x.S x.left x.lit
  good : Good x.S k
  apart : ∀ b ∈ x.d.blocks, b ∉ x.r.blocks
/-- The program's disk has made the call, the document's not yet. -/
def Mid (w0 : World) (H : Nat) (x : Item) (S' : Dk) (w1 : World) : Prop :=
  ∃ d', DevAt w1 d' S' ∧ d'.p = x.d.p ∧ (∀ b ∈ d'.blocks, b ∈ x.d.blocks ∨ H ≤ b) ∧ (∀ b ∈ d'.blocks, b ∉ x.r.blocks) ∧ RefAt w1 x.r x.S x.left x.lit ∧ Below w0.heap.size w0 w1 ∧ H ≤ w1.heap.size
/-- Both have. -/
def Done (w0 : World) (H : Nat) (x : Item) (S' : Dk) (w1 : World) : Prop :=
  ∃ x' : Item, DevAt w1 x'.d S' ∧ RefAt w1 x'.r S' x'.left x'.lit ∧ x'.S = S' ∧ x'.d.p = x.d.p ∧ x'.r.q = x.r.q ∧ (∀ b ∈ x'.blocks, b ∈ x.blocks ∨ H ≤ b) ∧ (∀ b ∈ x'.d.blocks, b ∉ x'.r.blocks) ∧ Below w0.heap.size w0 w1

structure At1 (w0 w : World) (x : Item) (k : Nat) : Prop where
  item : ItemAt w x k
  b0 : Below w0.heap.size w0 w
  far : ∀ b ∈ x.blocks, w0.heap.size ≤ b
  k : k ≤ 262144
theorem At1.lt {w0 w : World} {x : Item} {k : Nat} (h : At1 w0 w x k) : (∀ b ∈ x.d.blocks, b < w.heap.size) ∧ (∀ b ∈ x.r.blocks, b < w.heap.size) := ⟨h.item.dev.lt, h.item.ref.lt⟩
theorem At1.dev {w0 w w1 : World} {x : Item} {k : Nat} (h : At1 w0 w x k) (hb : Below w.heap.size w w1) : DevAt w1 x.d x.S := h.item.dev.fr (Fr.of_below hb []) (by simp)
theorem At1.sents {w0 w w1 : World} {x : Item} {k : Nat} (h : At1 w0 w x k) {a : Nat → Addr} (hS : Sents a w0) (hb : Below w.heap.size w w1) : Sents a w1 := hS.below (h.b0.trans (hb.mono h.b0.size))
theorem At1.pos {w0 w : World} {x : Item} {k : Nat} (h : At1 w0 w x k) {a : Nat → Addr} (hS : Sents a w0) : x.d.p ≠ 0 ∧ x.d.p ≠ 1 := by
  have h1 := h.far x.d.p (by simp [Item.blocks, DP.blocks])
  have h2 := hS.size
  omega
theorem mid_of {w0 w w1 w' : World} {x : Item} {k : Nat} {S' : Dk} {d' : DP} (h : At1 w0 w x k) (hb : Below w.heap.size w w1) (hd : DevAt w' d' S') (hp : d'.p = x.d.p) (hsub : ∀ b ∈ d'.blocks, b ∈ x.d.blocks ∨ w1.heap.size ≤ b) (f : Fr w1 w' x.d.blocks) : Mid w0 w.heap.size x S' w' := by
  have hs := hb.size
  have hs0 := h.b0.size
  refine ⟨d', hd, hp, fun b hb' => (hsub b hb').imp id (fun h => by omega), ?_, ?_, ?_, Nat.le_trans hs f.size⟩
  · intro b hb' hr
    rcases hsub b hb' with hx | hx
    · exact h.item.apart b hx hr
    · have := h.lt.2 b hr; omega
  · refine (h.item.ref.fr (Fr.of_below hb []) (by simp)).fr f ?_
    intro b hr hx
    exact h.item.apart b hx hr
  · refine below_fr (h.b0.trans (hb.mono h.b0.size)) f (by omega) ?_
    intro b hx
    exact h.far b (by simp [Item.blocks, hx])
theorem done_of {w0 w w1 w' : World} {x : Item} {k : Nat} {S' : Dk} {r' : RD} {left' : Int} {lit' : Bool} (h : At1 w0 w x k) (hm : Mid w0 w.heap.size x S' w1) (hr : RefAt w' r' S' left' lit') (hq : r'.q = x.r.q) (hsub : ∀ b ∈ r'.blocks, b ∈ x.r.blocks ∨ w1.heap.size ≤ b) (f : Fr w1 w' x.r.blocks) : Done w0 w.heap.size x S' w' := by
  obtain ⟨d', h1, h2, h3, h4, h5, h6, h7⟩ := hm
  have hs0 := h.b0.size
  have hlt := h1.lt
  refine ⟨⟨d', r', S', left', lit'⟩, h1.fr f h4, hr, rfl, h2, hq, ?_, ?_, below_fr h6 f (by omega) (fun b hx => h.far b (by simp [Item.blocks, hx]))⟩
  · intro b hb
    rcases List.mem_append.1 hb with hb | hb
    · exact (h3 b hb).imp (fun h => by simp [Item.blocks, h]) id
    · exact (hsub b hb).imp (fun h => by simp [Item.blocks, h]) (fun h => by omega)
  · intro b hb hb2
    rcases hsub b hb2 with hx | hx
    · exact h4 b hb hx
    · have := hlt b hb; omega
theorem Mid.below {w0 w1 w2 : World} {H : Nat} {x : Item} {S' : Dk} (h : Mid w0 H x S' w1) (hb : Below w1.heap.size w1 w2) : Mid w0 H x S' w2 := by
  obtain ⟨d', h1, h2, h3, h4, h5, h6, h7⟩ := h
  exact ⟨d', h1.fr (Fr.of_below hb []) (by simp), h2, h3, h4, h5.fr (Fr.of_below hb []) (by simp), h6.trans (hb.mono h6.size), Nat.le_trans h7 hb.size⟩
theorem Mid.drew {w0 w1 : World} {H : Nat} {x : Item} {S' : Dk} (h : Mid w0 H x S' w1) : Mid w0 H x S' w1.drew := h.below (Below.refl _ _).drew
theorem mid_nil {w0 : World} {H : Nat} {x : Item} {S' : Dk} (w1 : World) (h : Mid w0 H x S' w1) : Calls Tryz.prog 43 #[.nilIface] w1 fun e w' => e = .returned (.tuple #[.int .i64 0, .int .i64 (-1)]) ∧ Mid w0 H x S' w' ∧ Fr w1 w' [] :=
  (number_nil w1).mono fun e w' he => ⟨he.1, by rw [← he.2]; exact h, by rw [← he.2]; exact Fr.refl _ _⟩
theorem mid_err {w0 : World} {H : Nat} {x : Item} {S' : Dk} {a : Nat → Addr} (hS : Sents a w0) (j : Nat) (hj : j < 12) (w1 : World) (h : Mid w0 H x S' w1) : Calls Tryz.prog 43 #[.iface 452 (.pointer (some (a j)))] w1 fun e w' => e = .returned (.tuple #[.int .i64 (j + 1 : Nat), .int .i64 (-1)]) ∧ Mid w0 H x S' w' ∧ Fr w1 w' [] := by
  have hS1 : Sents a w1 := by
    obtain ⟨d', h1, h2, h3, h4, h5, h6, h7⟩ := h
    exact hS.below h6
  exact (number_E hS1 j hj).mono fun e w' he => ⟨he.1, h.below he.2, Fr.of_below he.2 []⟩

/-- Read, whichever write waits. -/
theorem devRead_any {w : World} {d : DP} {S : Dk} (h : DevAt w d S) (ok : S.Ok) (k : Nat) (hk : k < S.safe.length) :
    Calls Tryz.prog 84 #[.pointer (some ⟨d.p, 0, none⟩), .int .i64 (k : Nat)] w fun e w' => e = .returned (.tuple #[.string (S.seen.getD k ByteArray.empty), .nilIface]) ∧ DevAt w' d S ∧ Fr w w' [d.p] := by
  rcases lastD_at S.wait k with ⟨h1, h2⟩ | ⟨i, y, h0, h1, h2, h3⟩
  · have e : S.seen.getD k ByteArray.empty = S.safe[k] := by rw [List.getD_eq_getElem?_getD, Dk.seen, h2, List.getElem?_eq_getElem hk]; rfl
    rw [e]
    exact devRead_none h ok k hk h1
  · have e : S.seen.getD k ByteArray.empty = y := by rw [List.getD_eq_getElem?_getD, Dk.seen, h3 S.safe hk]; rfl
    rw [e]
    exact devRead_some h ok k hk h1 i y h0 h2
theorem op_read {w0 w : World} {x : Item} {k : Nat} (h : At1 w0 w x k) (o : OpR) (p ga i : Nat) (c0 : w.cell? ⟨ga, i, none⟩ = some (.pointer (some ⟨x.d.p, 0, none⟩))) (c1 : w.cell? ⟨ga, i + 1, none⟩ = some (.pointer (some ⟨x.r.q, 0, none⟩))) (hga : ga ∉ x.blocks) {a : Nat → Addr} (hS : Sents a w0) (hk : o.kind = 4) : Calls Tryz.prog 72 #[.pointer (some ⟨p, 0, none⟩), .pointer (some ⟨ga, i, none⟩), OpR.agg o] w fun e w' => e = .returned (.bool true) ∧ Done w0 w.heap.size x x.S w' ∧ Fr w w' x.blocks := by
  simp only [Item.blocks, List.mem_append, not_or] at hga
  have ok := h.item.good.ok
  have hR : ∀ w1, Mid w0 w.heap.size x x.S w1 → Calls Tryz.prog 114 #[.pointer (some ⟨x.r.q, 0, none⟩), .int .i64 o.a] w1 fun e w' => e = .returned (.tuple (if 0 ≤ o.a ∧ o.a < x.S.safe.length then #[.string (x.S.seen.getD o.a.toNat ByteArray.empty), .int .i64 0] else #[.string ByteArray.empty, .int .i64 1])) ∧ Done w0 w.heap.size x x.S w' ∧ Fr w1 w' x.r.blocks := by
    intro w1 hm
    have hm' := hm
    obtain ⟨d', h1, h2, h3, h4, h5, h6, h7⟩ := hm
    refine (refRead_any h5 ok o.a).mono ?_
    rintro e w' ⟨rfl, rfl⟩
    exact ⟨rfl, done_of h hm' h5 rfl (fun b hb => .inl hb) (Fr.refl _ _), Fr.refl _ _⟩
  by_cases hin : 0 ≤ o.a ∧ o.a < x.S.safe.length
  · rw [if_pos hin] at hR
    obtain ⟨n, hn⟩ := Int.eq_ofNat_of_zero_le hin.1
    refine disk_read o hk p ga i x.d.p x.r.q c0 c1 0 (x.S.seen.getD o.a.toNat ByteArray.empty) (Mid w0 w.heap.size x x.S) (Done w0 w.heap.size x x.S) x.d.blocks x.r.blocks h.lt.1 hga.1 h.lt.2 hga.2 ?_ (fun _ hm => hm.drew) hR
    intro w1 hb
    refine plain_read (m := -1) ?_ mid_nil
    rw [hn, Int.toNat_natCast]
    refine (devRead_any (h.dev hb) ok n (by omega)).mono ?_
    rintro e w' ⟨rfl, hd, hf⟩
    exact ⟨rfl, mid_of h hb hd rfl (fun b hb => .inl hb) (hf.wider (by simp [DP.blocks])), hf.wider (by simp [DP.blocks])⟩
  · rw [if_neg hin] at hR
    refine disk_read o hk p ga i x.d.p x.r.q c0 c1 1 ByteArray.empty (Mid w0 w.heap.size x x.S) (Done w0 w.heap.size x x.S) x.d.blocks x.r.blocks h.lt.1 hga.1 h.lt.2 hga.2 ?_ (fun _ hm => hm.drew) hR
    intro w1 hb
    refine plain_read (m := -1) ?_ (mid_err hS 0 (by decide))
    refine (devRead_arg (h.dev hb) ok o.a hin (a 0) ((h.sents hS hb).var 0 (by decide)) (h.pos hS).1).mono ?_
    rintro e w' ⟨rfl, hd, hf⟩
    exact ⟨rfl, mid_of h hb hd rfl (fun b hb => .inl hb) (hf.wider (by simp [DP.blocks])), hf.wider (by simp [DP.blocks])⟩
theorem op_fuse {w0 w : World} {x : Item} {k : Nat} (h : At1 w0 w x k) (o : OpR) (p ga i : Nat) (c0 : w.cell? ⟨ga, i, none⟩ = some (.pointer (some ⟨x.d.p, 0, none⟩))) (c1 : w.cell? ⟨ga, i + 1, none⟩ = some (.pointer (some ⟨x.r.q, 0, none⟩))) (hga : ga ∉ x.blocks) (hk : o.kind = 7) (ha : -9223372036854775808 ≤ o.a ∧ o.a ≤ 9223372036854775807) : ∃ S', Good S' (k + 1) ∧ Calls Tryz.prog 72 #[.pointer (some ⟨p, 0, none⟩), .pointer (some ⟨ga, i, none⟩), OpR.agg o] w fun e w' => e = .returned (.bool true) ∧ Done w0 w.heap.size x S' w' ∧ Fr w w' x.blocks := by
  simp only [Item.blocks, List.mem_append, not_or] at hga
  have ok := h.item.good.ok
  have few := h.item.good.few
  refine ⟨{ x.S with fuse := o.a.toNat }, ⟨⟨ok.pos, ok.most, ok.sec, ok.wr, ok.few⟩, by show o.a.toNat ≤ _; omega, by show x.S.wait.length ≤ _; omega⟩, ?_⟩
  refine disk_fuse o hk p ga i x.d.p x.r.q c0 c1 (Mid w0 w.heap.size x { x.S with fuse := o.a.toNat }) (Done w0 w.heap.size x { x.S with fuse := o.a.toNat }) x.d.blocks x.r.blocks h.lt.1 hga.1 h.lt.2 hga.2 ?_ (fun _ hm => hm.drew) ?_
  · intro w1 hb
    refine (devFuse_any (h.dev hb) o.a).mono ?_
    rintro e w' ⟨rfl, hd, hf⟩
    exact ⟨rfl, mid_of h hb hd rfl (fun b hb => .inl hb) (hf.wider (by simp [DP.blocks])), hf.wider (by simp [DP.blocks])⟩
  · intro w1 hm
    have hm' := hm
    obtain ⟨d', h1, h2, h3, h4, h5, h6, h7⟩ := hm
    refine (refFuse_any h5 o.a ha).mono ?_
    rintro e w' ⟨rfl, hr, hf⟩
    exact ⟨rfl, done_of h hm' hr rfl (fun b hb => .inl hb) (hf.wider (by simp [RD.blocks])), hf.wider (by simp [RD.blocks])⟩
theorem Good.tick {S : Dk} {k : Nat} (g : Good S k) : Good S.tick (k + 1) := by
  refine ⟨g.ok.tick, ?_, ?_⟩
  · have := g.fuse
    unfold Dk.tick
    split
    · exact this
    · show S.fuse - 1 ≤ _; omega
  · have := g.few; rw [S.tick_wait]; omega
theorem Good.more {S : Dk} {k : Nat} (g : Good S k) : Good S (k + 1) := ⟨g.ok, g.fuse, Nat.le_succ_of_le g.few⟩
theorem op_write {w0 w : World} {x : Item} {k : Nat} (h : At1 w0 w x k) (o : OpR) (p ga i : Nat) (c0 : w.cell? ⟨ga, i, none⟩ = some (.pointer (some ⟨x.d.p, 0, none⟩))) (c1 : w.cell? ⟨ga, i + 1, none⟩ = some (.pointer (some ⟨x.r.q, 0, none⟩))) (hga : ga ∉ x.blocks) {a : Nat → Addr} (hS : Sents a w0) (hk : o.kind = 5) (hz : o.s.size ≤ 140737488351232) : ∃ S', Good S' (k + 1) ∧ Calls Tryz.prog 72 #[.pointer (some ⟨p, 0, none⟩), .pointer (some ⟨ga, i, none⟩), OpR.agg o] w fun e w' => e = .returned (.bool true) ∧ Done w0 w.heap.size x S' w' ∧ Fr w w' x.blocks := by
  simp only [Item.blocks, List.mem_append, not_or] at hga
  have ok := h.item.good.ok
  have few := h.item.good.few
  have fu := h.item.good.fuse
  have hk2 := h.k
  by_cases hbad : ¬ (0 ≤ o.a ∧ o.a < x.S.safe.length) ∨ o.s.size ≠ 64
  · refine ⟨x.S, h.item.good.more, disk_write o hk p ga i x.d.p x.r.q c0 c1 1 (Mid w0 w.heap.size x x.S) (Done w0 w.heap.size x x.S) x.d.blocks x.r.blocks h.lt.1 hga.1 h.lt.2 hga.2 ?_ (fun _ hm => hm.drew) ?_⟩
    · intro w1 hb
      refine plain_write (m := -1) ?_ (mid_err hS 0 (by decide))
      refine (devWrite_arg (h.dev hb) ok o.a o.s hbad hz (a 0) ((h.sents hS hb).var 0 (by decide)) (h.pos hS).1).mono ?_
      rintro e w' ⟨rfl, hd, hf⟩
      exact ⟨rfl, mid_of h hb hd rfl (fun b hb => .inl hb) (hf.wider (by simp [DP.blocks])), hf.wider (by simp [DP.blocks])⟩
    · intro w1 hm
      have hm' := hm
      obtain ⟨d', h1, h2, h3, h4, h5, h6, h7⟩ := hm
      refine (refWrite_arg h5 ok o.a o.s (by rcases hbad with hb | hb; omega; exact .inr (.inr hb)) hz).mono ?_
      rintro e w' ⟨rfl, rfl⟩
      exact ⟨rfl, done_of h hm' h5 rfl (fun b hb => .inl hb) (Fr.refl _ _), Fr.refl _ _⟩
  · have hin : 0 ≤ o.a ∧ o.a < x.S.safe.length := by
      by_cases hq : 0 ≤ o.a ∧ o.a < x.S.safe.length
      · exact hq
      · exact absurd (.inl hq) hbad
    have h64 : o.s.size = 64 := by
      by_cases hq : o.s.size = 64
      · exact hq
      · exact absurd (.inr hq) hbad
    obtain ⟨n, hn⟩ := Int.eq_ofNat_of_zero_le hin.1
    cases hu : x.S.tick.down
    · refine ⟨{ x.S.tick with wait := x.S.wait ++ [(n, o.s)] }, ⟨⟨by rw [x.S.tick_safe]; exact ok.pos, by rw [x.S.tick_safe]; exact ok.most, by rw [x.S.tick_safe]; exact ok.sec, ?_, ?_⟩, h.item.good.tick.fuse, ?_⟩, disk_write o hk p ga i x.d.p x.r.q c0 c1 0 (Mid w0 w.heap.size x { x.S.tick with wait := x.S.wait ++ [(n, o.s)] }) (Done w0 w.heap.size x { x.S.tick with wait := x.S.wait ++ [(n, o.s)] }) x.d.blocks x.r.blocks h.lt.1 hga.1 h.lt.2 hga.2 ?_ (fun _ hm => hm.drew) ?_⟩
      · intro y hy
        rw [x.S.tick_safe]
        rcases List.mem_append.1 hy with hy | hy
        · exact ok.wr y hy
        · rw [List.mem_singleton.1 hy]; exact ⟨by omega, h64⟩
      · show (x.S.wait ++ [(n, o.s)]).length ≤ _
        rw [List.length_append, List.length_singleton]; omega
      · show (x.S.wait ++ [(n, o.s)]).length ≤ _
        rw [List.length_append, List.length_singleton]; omega
      · intro w1 hb
        refine plain_write (m := -1) ?_ mid_nil
        rw [hn]
        refine (devWrite_ok (h.dev hb) ok n (by omega) o.s h64 hu fu (by omega)).mono ?_
        rintro e w' ⟨rfl, ⟨d', hd, hp, hsub⟩, hf⟩
        exact ⟨rfl, mid_of h hb hd hp hsub hf, hf⟩
      · intro w1 hm
        have hm' := hm
        obtain ⟨d', h1, h2, h3, h4, h5, h6, h7⟩ := hm
        rw [hn]
        refine (refWrite_ok h5 ok n (by omega) o.s h64 hu (by omega)).mono ?_
        rintro e w' ⟨rfl, ⟨r', left', hr, hq, hsub⟩, hf⟩
        exact ⟨rfl, done_of h hm' hr hq hsub hf, hf⟩
    · refine ⟨x.S.tick, h.item.good.tick, disk_write o hk p ga i x.d.p x.r.q c0 c1 2 (Mid w0 w.heap.size x x.S.tick) (Done w0 w.heap.size x x.S.tick) x.d.blocks x.r.blocks h.lt.1 hga.1 h.lt.2 hga.2 ?_ (fun _ hm => hm.drew) ?_⟩
      · intro w1 hb
        refine plain_write (m := -1) ?_ (mid_err hS 1 (by decide))
        rw [hn]
        refine (devWrite_down (h.dev hb) ok n (by omega) o.s h64 hu fu (a 1) ((h.sents hS hb).var 1 (by decide)) (h.pos hS).2).mono ?_
        rintro e w' ⟨rfl, hd, hf⟩
        exact ⟨rfl, mid_of h hb hd rfl (fun b hb => .inl hb) (hf.wider (by simp [DP.blocks])), hf.wider (by simp [DP.blocks])⟩
      · intro w1 hm
        have hm' := hm
        obtain ⟨d', h1, h2, h3, h4, h5, h6, h7⟩ := hm
        rw [hn]
        refine (refWrite_down h5 ok n (by omega) o.s h64 hu).mono ?_
        rintro e w' ⟨rfl, ⟨left', hr⟩, hf⟩
        exact ⟨rfl, done_of h hm' hr rfl (fun b hb => .inl hb) (hf.wider (by simp [RD.blocks])), hf.wider (by simp [RD.blocks])⟩
theorem op_flush {w0 w : World} {x : Item} {k : Nat} (h : At1 w0 w x k) (o : OpR) (p ga i : Nat) (c0 : w.cell? ⟨ga, i, none⟩ = some (.pointer (some ⟨x.d.p, 0, none⟩))) (c1 : w.cell? ⟨ga, i + 1, none⟩ = some (.pointer (some ⟨x.r.q, 0, none⟩))) (hga : ga ∉ x.blocks) {a : Nat → Addr} (hS : Sents a w0) (hk : o.kind = 6) : ∃ S', Good S' (k + 1) ∧ Calls Tryz.prog 72 #[.pointer (some ⟨p, 0, none⟩), .pointer (some ⟨ga, i, none⟩), OpR.agg o] w fun e w' => e = .returned (.bool true) ∧ Done w0 w.heap.size x S' w' ∧ Fr w w' x.blocks := by
  simp only [Item.blocks, List.mem_append, not_or] at hga
  have ok := h.item.good.ok
  have few := h.item.good.few
  have fu := h.item.good.fuse
  have hk2 := h.k
  cases hu : x.S.tick.down
  · refine ⟨{ x.S.tick with safe := x.S.seen, wait := [] }, ⟨⟨?_, ?_, ?_, ?_, ?_⟩, h.item.good.tick.fuse, Nat.zero_le _⟩, disk_flush o hk p ga i x.d.p x.r.q c0 c1 0 (Mid w0 w.heap.size x { x.S.tick with safe := x.S.seen, wait := [] }) (Done w0 w.heap.size x { x.S.tick with safe := x.S.seen, wait := [] }) x.d.blocks x.r.blocks h.lt.1 hga.1 h.lt.2 hga.2 ?_ (fun _ hm => hm.drew) ?_⟩
    · show 0 < x.S.seen.length; rw [x.S.seen_length]; exact ok.pos
    · show x.S.seen.length ≤ _; rw [x.S.seen_length]; exact ok.most
    · exact over_sizes _ _ ok.sec (fun y hy => (ok.wr y hy).2)
    · intro y hy; simp at hy
    · exact Nat.zero_le _
    · intro w1 hb
      refine plain_flush (m := -1) ?_ mid_nil
      refine (devFlush_ok (h.dev hb) ok hu fu).mono ?_
      rintro e w' ⟨rfl, ⟨d', hd, hp, hsub⟩, hf⟩
      exact ⟨rfl, mid_of h hb hd hp hsub hf, hf⟩
    · intro w1 hm
      have hm' := hm
      obtain ⟨d', h1, h2, h3, h4, h5, h6, h7⟩ := hm
      refine (refFlush_ok h5 ok hu).mono ?_
      rintro e w' ⟨rfl, ⟨r', left', hr, hq, hsub⟩, hf⟩
      exact ⟨rfl, done_of h hm' hr hq hsub hf, hf⟩
  · refine ⟨x.S.tick, h.item.good.tick, disk_flush o hk p ga i x.d.p x.r.q c0 c1 2 (Mid w0 w.heap.size x x.S.tick) (Done w0 w.heap.size x x.S.tick) x.d.blocks x.r.blocks h.lt.1 hga.1 h.lt.2 hga.2 ?_ (fun _ hm => hm.drew) ?_⟩
    · intro w1 hb
      refine plain_flush (m := -1) ?_ (mid_err hS 1 (by decide))
      refine (devFlush_down (h.dev hb) hu fu (a 1) ((h.sents hS hb).var 1 (by decide)) (h.pos hS).2).mono ?_
      rintro e w' ⟨rfl, hd, hf⟩
      exact ⟨rfl, mid_of h hb hd rfl (fun b hb => .inl hb) (hf.wider (by simp [DP.blocks])), hf.wider (by simp [DP.blocks])⟩
    · intro w1 hm
      have hm' := hm
      obtain ⟨d', h1, h2, h3, h4, h5, h6, h7⟩ := hm
      refine (refFlush_down h5 hu).mono ?_
      rintro e w' ⟨rfl, ⟨left', hr⟩, hf⟩
      exact ⟨rfl, done_of h hm' hr rfl (fun b hb => .inl hb) (hf.wider (by simp [RD.blocks])), hf.wider (by simp [RD.blocks])⟩
theorem op_waiting {w0 w : World} {x : Item} {k : Nat} (h : At1 w0 w x k) (o : OpR) (p ga i : Nat) (c0 : w.cell? ⟨ga, i, none⟩ = some (.pointer (some ⟨x.d.p, 0, none⟩))) (c1 : w.cell? ⟨ga, i + 1, none⟩ = some (.pointer (some ⟨x.r.q, 0, none⟩))) (hga : ga ∉ x.blocks) (hk : o.kind = 10) : Calls Tryz.prog 72 #[.pointer (some ⟨p, 0, none⟩), .pointer (some ⟨ga, i, none⟩), OpR.agg o] w fun e w' => e = .returned (.bool true) ∧ Done w0 w.heap.size x x.S w' ∧ Fr w w' x.blocks := by
  simp only [Item.blocks, List.mem_append, not_or] at hga
  have ok := h.item.good.ok
  have few := h.item.good.few
  have fu := h.item.good.fuse
  have hk2 := h.k
  obtain ⟨aw, cw, hwv⟩ : ∃ aw cw, x.r.wv = .slice aw x.S.wait.length cw := by
    rcases h.item.ref.wait.2 with ⟨e, e0⟩ | ⟨g', cap', cur, e, _⟩
    · exact ⟨none, 0, by rw [e, e0]⟩
    · exact ⟨_, _, e⟩
  refine (disk_waiting o hk p ga i x.d.p x.r.q c0 c1 x.S.wait.length x.S.safe.length (by omega) ok.most aw (some ⟨x.r.gE, 0, none⟩) cw x.r.cE (fun w1 => Mid w0 w.heap.size x x.S w1 ∧ DevAt w1 x.d x.S) x.d.blocks h.lt.1 hga.1 ?_ ?_ ?_).mono ?_
  · intro w1 hb
    refine (devWaiting_any (h.dev hb) ok).mono ?_
    rintro e w' ⟨rfl, hd, hf⟩
    exact ⟨rfl, ⟨mid_of h hb hd rfl (fun b hb => .inl hb) (hf.wider (by simp [DP.blocks])), hd⟩, hf.wider (by simp [DP.blocks])⟩
  · intro w1 hm
    exact devSectors_any hm.2 ok
  · intro w1 hm
    obtain ⟨⟨d', h1, h2, h3, h4, h5, h6, h7⟩, _⟩ := hm
    exact ⟨by rw [← hwv]; exact h5.row.cell 2, h5.row.cell 1⟩
  · rintro e w' ⟨rfl, ⟨hm, hd⟩, hf⟩
    have hm' := hm
    obtain ⟨d', h1, h2, h3, h4, h5, h6, h7⟩ := hm
    exact ⟨rfl, done_of h hm' h5 rfl (fun b hb => .inl hb) (Fr.refl _ _), hf.wider (by simp [Item.blocks]; intro b hb; exact .inl hb)⟩
theorem op_image {w0 w : World} {x : Item} {k : Nat} (h : At1 w0 w x k) (o : OpR) (p ga i : Nat) (c0 : w.cell? ⟨ga, i, none⟩ = some (.pointer (some ⟨x.d.p, 0, none⟩))) (c1 : w.cell? ⟨ga, i + 1, none⟩ = some (.pointer (some ⟨x.r.q, 0, none⟩))) (hga : ga ∉ x.blocks) (hk : o.kind = 11) (left : Int) (hl0 : -10000 ≤ left) (hl1 : left ≤ 262144) (cl : w.cell? ⟨p, 5, none⟩ = some (.int .i64 left)) (fl : w.frozen? ⟨p, 5, none⟩ = false) (npg : p ≠ ga) (hp : p ∉ x.blocks) (hp0 : w0.heap.size ≤ p) :
    Calls Tryz.prog 72 #[.pointer (some ⟨p, 0, none⟩), .pointer (some ⟨ga, i, none⟩), OpR.agg o] w fun e w' => e = .returned (.bool true) ∧ Done w0 w.heap.size x x.S w' ∧ Fr w w' (p :: x.blocks) ∧ ∀ t vs, RowIs w p t vs → RowIs w' p t (vs.set 5 (.int .i64 (left - x.S.safe.length))) := by
  simp only [Item.blocks, List.mem_append, not_or] at hga hp
  have ok := h.item.good.ok
  have lp : p < w.heap.size := World.block_lt_of_cell? w _ cl
  have hsz := h.b0.size
  have apart := h.item.apart
  have fS : Fr w (w.setCell ⟨p, 5, none⟩ (.int .i64 (left - x.S.safe.length))) [p] := (Fr.refl w [p]).setCell _ _ (.inl (by simp))
  refine (disk_image o hk p ga i x.d.p x.r.q c0 c1 left hl0 hl1 cl fl x.S.safe.length x.r.gE x.r.cE ok.most (fun j => x.S.seen.getD j ByteArray.empty) (fun w1 => DevAt w1 x.d x.S ∧ RefAt w1 x.r x.S x.left x.lit ∧ Below w0.heap.size w0 w1 ∧ w0.heap.size ≤ w1.heap.size ∧ Fr (w.setCell ⟨p, 5, none⟩ (.int .i64 (left - x.S.safe.length))) w1 x.d.blocks) x.d.blocks h.lt.1 hga.1 npg (fun e => hp.2 (by rw [e]; simp [RD.blocks])) (fun e => apart _ e (by simp [RD.blocks])) (h.item.ref.row.cell 1) ?_ ?_ ?_).mono ?_
  · intro w1 hb
    have hb' : Below (w.setCell ⟨p, 5, none⟩ (.int .i64 (left - x.S.safe.length))).heap.size (w.setCell ⟨p, 5, none⟩ (.int .i64 (left - x.S.safe.length))) w1 := by simpa using hb
    have f1 : Fr w w1 [p] := fS.trans (Fr.of_below hb' []) (by simp)
    exact ⟨h.item.dev.fr f1 (fun b hb hb2 => by rw [List.mem_singleton.1 hb2] at hb; exact hp.1 hb), h.item.ref.fr f1 (fun b hb hb2 => by rw [List.mem_singleton.1 hb2] at hb; exact hp.2 hb), below_fr h.b0 f1 (by omega) (by simpa using hp0), Nat.le_trans hsz f1.size, Fr.of_below hb' _⟩
  · rintro w1 j hj ⟨h1, h2, h3, h4, h5⟩
    refine plain_read (N := fun w1 => DevAt w1 x.d x.S ∧ RefAt w1 x.r x.S x.left x.lit ∧ Below w0.heap.size w0 w1 ∧ w0.heap.size ≤ w1.heap.size ∧ Fr (w.setCell ⟨p, 5, none⟩ (.int .i64 (left - x.S.safe.length))) w1 x.d.blocks) (ev := .nilIface) (m := -1) ?_ ?_
    · refine (devRead_any h1 ok j hj).mono ?_
      rintro e w' ⟨rfl, hd, hf⟩
      have hf' : Fr w1 w' x.d.blocks := hf.wider (by simp [DP.blocks])
      exact ⟨rfl, ⟨hd, h2.fr hf' (fun b hb hb2 => apart b hb2 hb), below_fr h3 hf' h4 (fun b hb => h.far b (by simp [Item.blocks, hb])), Nat.le_trans h4 hf.size, h5.trans hf' (fun y hy _ => hy)⟩, hf'⟩
    · intro w1 hm
      refine (number_nil w1).mono ?_
      rintro e w' ⟨rfl, rfl⟩
      exact ⟨rfl, hm, Fr.refl _ _⟩
  · rintro w1 j hj ⟨h1, h2, h3, h4, h5⟩
    have := h2.seen.cell j (by rw [strs_length, x.S.seen_length]; exact hj)
    rw [strs_get _ _ (by rw [x.S.seen_length]; exact hj)] at this
    exact this
  · rintro e w' ⟨rfl, ⟨h1, h2, h3, h4, h5⟩, hf⟩
    refine ⟨rfl, ⟨x, h1, h2, rfl, rfl, rfl, fun b hb => .inl hb, apart, h3⟩, hf.wider (by simp [Item.blocks]; intro b hb; exact .inr (.inl hb)), ?_⟩
    intro t vs hr
    exact h5.row (hr.set 5 _) hp.1
theorem op_crash {w0 w : World} {x : Item} {k : Nat} (h : At1 w0 w x k) (o : OpR) (p ga i : Nat) (c0 : w.cell? ⟨ga, i, none⟩ = some (.pointer (some ⟨x.d.p, 0, none⟩))) (c1 : w.cell? ⟨ga, i + 1, none⟩ = some (.pointer (some ⟨x.r.q, 0, none⟩))) (hga : ga ∉ x.blocks) (hk : o.kind = 9) (kv : Value) (ks : List Int) (cp : w.cell? ⟨p, 1, none⟩ = some kv) (hks : w.ownsRow 0 3 1 kv ks.length (intsV ks)) (hkl : ks.length ≤ 1000000) (npg : p ≠ ga) (fz : w.frozen? ⟨p, 1, none⟩ = false) (hp : p ∉ x.blocks) (hkb : ∀ g, kv.ownBlock = some g → g ∉ x.blocks) (hw0 : 0 < w0.heap.size) :
    ∃ S', Good S' (k + 1) ∧ Calls Tryz.prog 72 #[.pointer (some ⟨p, 0, none⟩), .pointer (some ⟨ga, i, none⟩), OpR.agg o] w fun e w' => e = .returned (.bool true) ∧ ∃ w1, Done w0 w.heap.size x S' w1 ∧ Fr w w1 x.blocks ∧ w' = w1.setCell ⟨p, 1, none⟩ (.slice none 0 0) := by
  simp only [Item.blocks, List.mem_append, not_or] at hga hp hkb
  have ok := h.item.good.ok
  have lp : p < w.heap.size := World.block_lt_of_cell? w _ cp
  have hlk := keptL_len x.S.wait x.S.safe ks
  have hwr := fun y hy => (ok.wr y hy).2
  refine ⟨⟨keptL x.S.wait x.S.safe ks, [], 0, false⟩, ⟨⟨by show 0 < (keptL x.S.wait x.S.safe ks).length; rw [hlk]; exact ok.pos, by show (keptL x.S.wait x.S.safe ks).length ≤ _; rw [hlk]; exact ok.most, kept_sizes _ _ _ ok.sec hwr, by intro y hy; simp at hy, Nat.zero_le _⟩, Nat.zero_le _, Nat.zero_le _⟩, ?_⟩
  refine (disk_crash o hk p ga i x.d.p x.r.q c0 c1 kv ks cp hks hkl npg (fun w1 => Mid w0 w.heap.size x ⟨keptL x.S.wait x.S.safe ks, [], 0, false⟩ w1 ∧ Fr w w1 x.d.blocks) (fun w1 => Done w0 w.heap.size x ⟨keptL x.S.wait x.S.safe ks, [], 0, false⟩ w1 ∧ Fr w w1 x.blocks) x.d.blocks x.r.blocks h.lt.1 hga.1 hp.1 hga.2 hp.2 ?_ ?_ ?_ ?_).mono ?_
  · intro w1 a0 g ck hb hka hg
    refine plain_crash ?_
    refine (devCrash_any (h.dev hb) ok a0 g 0 ck ks hkl hka (fun hx => by have := h.lt.1 g hx; omega)).mono ?_
    rintro e w' ⟨rfl, ⟨d', hd, hp', hsub⟩, hf⟩
    exact ⟨rfl, ⟨mid_of h hb hd hp' hsub hf, (Fr.of_below hb _).trans hf (fun y hy _ => hy)⟩, hf⟩
  · rintro w1 ⟨h1, h2⟩
    exact ⟨h1.drew, h2.drew⟩
  · rintro w1 ⟨hm, hf1⟩
    have hm' := hm
    obtain ⟨d', h1, h2, h3, h4, h5, h6, h7⟩ := hm
    have hk1 := owns_fr hks hf1 (fun g hg => (hkb g hg).1)
    obtain ⟨a0, g, ck, hv, hka, hx1, _, hx2, hx3⟩ := keepAt_of hk1
    have hgr : g ∉ x.r.blocks := by
      intro hg
      cases hq : kv.ownBlock with
      | none =>
        rw [hx3 hq] at hg
        have := h.far 0 (by simp [Item.blocks, hg])
        omega
      | some b => rw [hx1 b hq] at hg; exact (hkb b hq).2 hg
    rw [hv]
    refine (refCrash_any h5 ok a0 g 0 ck ks hkl hka hgr).mono ?_
    rintro e w' ⟨rfl, ⟨r', hr, hq, hsub⟩, hf⟩
    exact ⟨rfl, ⟨done_of h hm' hr hq hsub hf, (hf1.wider (by intro y hy; simp [Item.blocks, hy])).trans hf (by intro y hy _; simp [Item.blocks, hy])⟩, hf⟩
  · rintro w1 ⟨_, hf⟩
    rw [World.frozen?_of_block (hf.block p lp (by simp [Item.blocks, hp]))]
    exact fz
  · rintro e w' ⟨rfl, w1, ⟨hd, hf⟩, _, rfl⟩
    exact ⟨rfl, w1, hd, hf, rfl⟩
end Go.Proofs.YtdidjdoifpfmmaaGreatDoor
/- The document's wipe. -/
namespace Go.Proofs.YtdidjdoifpfmmaaGreatDoor
open Go.RowKit
/-- What Flush leaves, and its answer. -/
def flushOf (S : Dk) : Dk × Nat := if S.tick.down = true then (S.tick, 2) else ({ S.tick with safe := S.seen, wait := [] }, 0)
/-- What Write leaves (of a place that is there, and 64 bytes), and its answer. -/
def writeOf (S : Dk) (k : Nat) (d : ByteArray) : Dk × Nat := if S.tick.down = true then (S.tick, 2) else ({ S.tick with wait := S.wait ++ [(k, d)] }, 0)
/-- Zeros from a sector on, where there are none; then Flush. -/
def wipeF (S : Dk) : Nat → Nat → Dk × Nat
  | 0, _ => flushOf S
  | f + 1, i => if S.seen.getD i ByteArray.empty = zero64 then wipeF S f (i + 1)
    else if (writeOf S i zero64).2 ≠ 0 then writeOf S i zero64 else wipeF (writeOf S i zero64).1 f (i + 1)
def wipeOf (S : Dk) (i : Nat) : Dk × Nat := wipeF S (S.safe.length - i) i
theorem writeOf_safe (S : Dk) (k : Nat) (d : ByteArray) : (writeOf S k d).1.safe = S.safe := by
  unfold writeOf
  split
  · exact S.tick_safe
  · exact S.tick_safe
theorem writeOf_wait (S : Dk) (k : Nat) (d : ByteArray) : (writeOf S k d).1.wait.length ≤ S.wait.length + 1 := by
  unfold writeOf
  split
  · rw [S.tick_wait]; omega
  · show (S.wait ++ [(k, d)]).length ≤ _; simp
theorem writeOf_ok {S : Dk} (ok : S.Ok) (k : Nat) (hk : k < S.safe.length) (d : ByteArray) (hd : d.size = 64) (hf : S.wait.length + 1 ≤ 1000000) : (writeOf S k d).1.Ok := by
  unfold writeOf
  split
  · exact ok.tick
  · refine ⟨by rw [S.tick_safe]; exact ok.pos, by rw [S.tick_safe]; exact ok.most, by rw [S.tick_safe]; exact ok.sec, ?_, ?_⟩
    · intro y hy
      rw [S.tick_safe]
      rcases List.mem_append.1 hy with hy | hy
      · exact ok.wr y hy
      · rw [List.mem_singleton.1 hy]; exact ⟨hk, hd⟩
    · show (S.wait ++ [(k, d)]).length ≤ _; simp; omega
/-- The document's disk behind a call. -/
def RefDone (w w' : World) (r : RD) (S' : Dk) (lit : Bool) : Prop := ∃ r' left', RefAt w' r' S' left' lit ∧ r'.q = r.q ∧ (∀ b ∈ r'.blocks, b ∈ r.blocks ∨ w.heap.size ≤ b) ∧ Fr w w' r.blocks
theorem refWriteOf {w : World} {r : RD} {S : Dk} {left : Int} {lit : Bool} (h : RefAt w r S left lit) (ok : S.Ok) (k : Nat) (hk : k < S.safe.length) (d : ByteArray) (hd : d.size = 64) (hfew : S.wait.length + 1 ≤ 1000000) :
    Calls Tryz.prog 116 #[.pointer (some ⟨r.q, 0, none⟩), .int .i64 (k : Nat), .string d] w fun e w' => e = .returned (.int .i64 ((writeOf S k d).2 : Nat)) ∧ RefDone w w' r (writeOf S k d).1 lit := by
  cases hu : S.tick.down
  · have e : writeOf S k d = ({ S.tick with wait := S.wait ++ [(k, d)] }, 0) := by unfold writeOf; rw [if_neg (by simp [hu])]
    rw [e]
    refine (refWrite_ok h ok k hk d hd hu hfew).mono ?_
    rintro e w' ⟨rfl, ⟨r', left', hr, hq, hsub⟩, hf⟩
    exact ⟨rfl, r', left', hr, hq, hsub, hf⟩
  · have e : writeOf S k d = (S.tick, 2) := by unfold writeOf; rw [if_pos hu]
    rw [e]
    refine (refWrite_down h ok k hk d hd hu).mono ?_
    rintro e w' ⟨rfl, ⟨left', hr⟩, hf⟩
    exact ⟨rfl, r, left', hr, rfl, fun b hb => .inl hb, hf.wider (by simp [RD.blocks])⟩
theorem refFlushOf {w : World} {r : RD} {S : Dk} {left : Int} {lit : Bool} (h : RefAt w r S left lit) (ok : S.Ok) :
    Calls Tryz.prog 118 #[.pointer (some ⟨r.q, 0, none⟩)] w fun e w' => e = .returned (.int .i64 ((flushOf S).2 : Nat)) ∧ RefDone w w' r (flushOf S).1 lit := by
  cases hu : S.tick.down
  · have e : flushOf S = ({ S.tick with safe := S.seen, wait := [] }, 0) := by unfold flushOf; rw [if_neg (by simp [hu])]
    rw [e]
    refine (refFlush_ok h ok hu).mono ?_
    rintro e w' ⟨rfl, ⟨r', left', hr, hq, hsub⟩, hf⟩
    exact ⟨rfl, r', left', hr, hq, hsub, hf⟩
  · have e : flushOf S = (S.tick, 2) := by unfold flushOf; rw [if_pos hu]
    rw [e]
    refine (refFlush_down h hu).mono ?_
    rintro e w' ⟨rfl, ⟨left', hr⟩, hf⟩
    exact ⟨rfl, r, left', hr, rfl, fun b hb => .inl hb, hf.wider (by simp [RD.blocks])⟩
theorem RefDone.trans {w w1 w2 : World} {r r1 : RD} {S2 : Dk} {lit : Bool} (hq : r1.q = r.q) (hsub : ∀ b ∈ r1.blocks, b ∈ r.blocks ∨ w.heap.size ≤ b) (hf : Fr w w1 r.blocks) (h : RefDone w1 w2 r1 S2 lit) : RefDone w w2 r S2 lit := by
  obtain ⟨r2, left2, a1, a2, a3, a4⟩ := h
  refine ⟨r2, left2, a1, a2.trans hq, fun b hb => ?_, hf.trans a4 (fun x hx hlt => ?_)⟩
  · rcases a3 b hb with h | h
    · exact hsub b h
    · exact .inr (Nat.le_trans hf.size h)
  · rcases hsub x hx with h | h
    · exact h
    · omega
set_option maxRecDepth 100000 in
set_option maxHeartbeats 2000000 in
theorem refWipe_any {w : World} {r : RD} {S : Dk} {left : Int} {lit : Bool} (h : RefAt w r S left lit) (ok : S.Ok) (hfew : S.wait.length ≤ 900000) (i : Nat) (hi : i ≤ S.safe.length) :
    Calls Tryz.prog 189 #[.pointer (some ⟨r.q, 0, none⟩), .int .i64 (i : Nat)] w fun e w' => e = .returned (.int .i64 ((wipeOf S i).2 : Nat)) ∧ RefDone w w' r (wipeOf S i).1 lit := by
  have hz := zeros_any w
  have hmost := ok.most
  have hi2 : i ≤ 4096 := by omega
  have HH : Hid (∀ w1, Below w.heap.size w w1 → RefAt w1 r S left lit) := fun w1 hb => by
    refine ⟨h.row.below hb h.row.lt, h.safe.fr (Fr.of_below hb []) (by simp), h.seen.fr (Fr.of_below hb []) (by simp), ?_, h.apart, h.caps, h.lit, h.small⟩
    obtain ⟨h1, h2⟩ := h.wait
    refine ⟨h1, h2.imp id ?_⟩
    rintro ⟨g, cap, cur, hv, hB, hh, rr⟩
    exact ⟨g, cap, cur, hv, hB, by rw [hb.block g (Array.getElem?_eq_some_iff.1 hh).1]; exact hh, rr⟩
  have HZ : Hid (zero64.size = 64) := zero64_size
  clear h
  go_enter Tryz.func189, Tryz.ntmps189
  go_wp2_with (go_at_call 113; refine hz.mono ?_; rintro e w1 ⟨rfl, hb1⟩)
  have H1 := HH.out w1 hb1
  have F1 : Fr w w1 r.blocks := Fr.of_below hb1 _
  clear HH hz
  go_loopw [6] (fun iv wr => ∃ (j : Nat) (S1 : Dk) (r1 : RD) (left1 : Int), iv = .int .i64 j ∧ i ≤ j ∧ j ≤ S.safe.length ∧ RefAt wr r1 S1 left1 lit ∧ r1.q = r.q ∧ (∀ b ∈ r1.blocks, b ∈ r.blocks ∨ w.heap.size ≤ b) ∧ Fr w wr r.blocks ∧ S1.Ok ∧ S1.safe.length = S.safe.length ∧ S1.wait.length ≤ S.wait.length + (j - i) ∧ wipeOf S i = wipeF S1 (S.safe.length - j) j) (fun iv _ => S.safe.length - (intOf iv).toNat)
  case atStart => exact ⟨i, S, r, left, rfl, Nat.le_refl _, hi, H1, rfl, fun b hb => .inl hb, F1, ok, rfl, by omega, rfl⟩
  case round =>
    clear H1 F1
    obtain ⟨j, S1, r1, left1, rfl, hij, hjn, hR, hq, hsub, hf, ok1, hl1, hw1, hwp⟩ := hrel
    have c1 : wr.cell? ⟨r.q, 1, none⟩ = some (.slice (some ⟨r1.gE, 0, none⟩) S.safe.length r1.cE) := by rw [← hq, ← hl1]; exact hR.row.cell 1
    have HR : Hid _ := hR
    have HL : Hid _ := hl1
    have HWt : Hid _ := hw1
    by_cases hlt : j < S.safe.length
    · have j0 : (0 : Int) ≤ (j : Int) := by omega
      have j1 : (j : Int) < (S.safe.length : Int) := by omega
      have cy : wr.cell? ⟨r1.gE, j, none⟩ = some (.string (S1.seen.getD j ByteArray.empty)) := by
        have := hR.seen.cell j (by rw [strs_length, S1.seen_length]; omega)
        rw [strs_get _ _ (by rw [S1.seen_length]; omega)] at this
        exact this
      rw [show S.safe.length - j = (S.safe.length - (j + 1)) + 1 by omega, wipeF] at hwp
      have HW : Hid (Calls Tryz.prog 116 #[.pointer (some ⟨r.q, 0, none⟩), .int .i64 (j : Nat), .string zero64] wr fun e w' => e = .returned (.int .i64 ((writeOf S1 j zero64).2 : Nat)) ∧ RefDone wr w' r1 (writeOf S1 j zero64).1 lit) := by
        rw [← hq]
        exact refWriteOf hR ok1 j (by omega) zero64 zero64_size (by omega)
      have ok2 : Hid (writeOf S1 j zero64).1.Ok := writeOf_ok ok1 j (by omega) zero64 zero64_size (by omega)
      have hs2 := writeOf_safe S1 j zero64
      have hw2 := writeOf_wait S1 j zero64
      generalize writeOf S1 j zero64 = W at *
      obtain ⟨S2, c2⟩ := W
      simp only at HW ok2 hs2 hw2 hwp
      clear hl1 hw1 hR
      generalize S1.seen.getD j ByteArray.empty = y at *
      generalize zero64 = z at *
      by_cases hyz : y = z
      · rw [if_pos hyz] at hwp
        have hb : (y.toList == z.toList) = true := by rw [str_beq, decide_eq_true hyz]
        have HP : Hid _ := hwp
        clear hwp HW
        go_wp2
        exact ⟨⟨j + 1, S1, r1, left1, by go_num, by omega, by omega, HR.out, hq, hsub, hf, ok1, HL.out, by have := HWt.out; omega, HP.out⟩, by simp [intOf]; omega⟩
      · rw [if_neg hyz] at hwp
        have hb : (y.toList == z.toList) = false := by rw [str_beq, decide_eq_false hyz]
        by_cases hc : c2 = 0
        · subst hc
          rw [if_neg (by simp)] at hwp
          have HP : Hid _ := hwp
          clear hwp
          go_wp2_with (go_at_call 116; refine Calls.mono HW.out ?_; rintro e w2 ⟨rfl, hd⟩)
          obtain ⟨r2, left2, a1, a2, a3, a4⟩ := RefDone.trans hq hsub hf hd
          exact ⟨⟨j + 1, S2, r2, left2, by go_num, by omega, by omega, a1, a2, a3, a4, ok2.out, by rw [hs2]; exact HL.out, by have := HWt.out; omega, HP.out⟩, by simp [intOf]; omega⟩
        · rw [if_pos hc] at hwp
          have e1 : ((c2 : Int) != 0) = true := by simp; omega
          have HP : Hid _ := hwp
          clear hwp
          go_wp2_with (go_at_call 116; refine Calls.mono HW.out ?_; rintro e w2 ⟨rfl, hd⟩)
          go_ret
          exact ⟨by rw [HP.out]; rfl, by rw [HP.out]; exact RefDone.trans hq hsub hf hd⟩
    · have ej : S.safe.length - j = 0 := by omega
      rw [ej, wipeF] at hwp
      have j1 : ¬ (j : Int) < (S.safe.length : Int) := by omega
      have HF : Hid (Calls Tryz.prog 118 #[.pointer (some ⟨r.q, 0, none⟩)] wr fun e w' => e = .returned (.int .i64 ((flushOf S1).2 : Nat)) ∧ RefDone wr w' r1 (flushOf S1).1 lit) := by
        rw [← hq]
        exact refFlushOf hR ok1
      have HP : Hid _ := hwp
      clear hwp hR hl1 hw1
      go_wp2_with (go_at_call 118; refine Calls.mono HF.out ?_; rintro e w2 ⟨rfl, hd⟩)
      go_ret
      exact ⟨by rw [HP.out]; rfl, by rw [HP.out]; exact RefDone.trans hq hsub hf hd⟩
end Go.Proofs.YtdidjdoifpfmmaaGreatDoor
/- The document's zeros, padded, super, FormatDisk. -/
namespace Go.Proofs.YtdidjdoifpfmmaaGreatDoor
open Go.RowKit
def zeroTxt (n : Nat) : ByteArray := text (List.replicate n 0)
theorem zeroTxt_size (n : Nat) : (zeroTxt n).size = n := by
  show ((List.replicate n 0).map UInt8.ofNat).toArray.size = n
  simp
set_option maxHeartbeats 1000000 in
theorem zerosN_any (n : Nat) (hn : n ≤ 4194304) (w : World) :
    Calls Tryz.prog 113 #[.int .i64 (n : Nat)] w fun e w' => e = .returned (.string (zeroTxt n)) ∧ Below w.heap.size w w' := by
  have hmk : (Instr.makeSlice 124 (.int .i64 (n : Nat)) (.int .i64 (n : Nat))).run Tryz.prog w = .ok (.slice (some ⟨w.heap.size, 0, none⟩) n n) (w.alloc (.cells (bytes (List.replicate n 0)).toArray 5)) := makeBytes w n hn
  have hb : Below w.heap.size w (w.alloc (.cells (bytes (List.replicate n 0)).toArray 5)) := (Below.refl _ _).alloc (Nat.le_refl _) _
  have hr : RowIs (w.alloc (.cells (bytes (List.replicate n 0)).toArray 5)) w.heap.size 5 (bytes (List.replicate n 0) ++ []) := by rw [List.append_nil]; exact RowIs.new _ _ _
  have hcv := back_any (P := Tryz.prog) 124 9 5 Tryz.underlying124 Tryz.underlying5 Tryz.underlying9 _ w.heap.size n _ (List.replicate n 0) [] hr (by intro x hx; rw [List.eq_of_mem_replicate hx]; decide)
  rw [List.length_replicate, show text (List.replicate n 0) = zeroTxt n from rfl] at hcv
  generalize w.alloc (.cells (bytes (List.replicate n 0)).toArray 5) = W at hmk hb hcv
  generalize zeroTxt n = z at hcv ⊢
  clear hr
  go_enter Tryz.func113, Tryz.ntmps113
  go_wp2
  go_ret
  exact ⟨rfl, hb⟩
def paddedOf (t : ByteArray) : ByteArray := t ++ zeroTxt ((t.size + 63) / 64 * 64 - t.size)
set_option maxHeartbeats 1000000 in
theorem refPadded_any (t : ByteArray) (ht : t.size ≤ 100000) (w : World) :
    Calls Tryz.prog 251 #[.string t] w fun e w' => e = .returned (.string (paddedOf t)) ∧ Below w.heap.size w w' := by
  have hz := zerosN_any ((t.size + 63) / 64 * 64 - t.size) (by omega) w
  have he : Hid (paddedOf t = t ++ zeroTxt ((t.size + 63) / 64 * 64 - t.size)) := by show paddedOf t = _; rfl
  have hzs : (zeroTxt ((t.size + 63) / 64 * 64 - t.size)).size ≤ 100 := by
    rw [zeroTxt_size]
    omega
  generalize zeroTxt ((t.size + 63) / 64 * 64 - t.size) = z at *
  have e1 : ((t.size : Int) + 63) / 64 * 64 - (t.size : Int) = (((t.size + 63) / 64 * 64 - t.size : Nat) : Int) := by omega
  generalize hm : (t.size + 63) / 64 * 64 - t.size = m at *
  clear hm
  go_enter Tryz.func251, Tryz.ntmps251
  go_wp2_with (go_at_call 113; refine hz.mono ?_; rintro e w1 ⟨rfl, hb1⟩)
  go_ret
  exact ⟨by rw [he.out]; rfl, hb1⟩
end Go.Proofs.YtdidjdoifpfmmaaGreatDoor
