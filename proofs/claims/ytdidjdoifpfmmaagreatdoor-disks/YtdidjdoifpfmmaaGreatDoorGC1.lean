import Derived.Test.YtdidjdoifpfmmaaGreatDoorGA1
import Derived.Laws.AppendOwn
import Derived.WalkKit
import Derived.Deep.RegionWith
import Derived.Deep.AppendLies
import Derived.Deep.Cut
import Derived.BigRegion
/- A disk, as plain mathematics; what a call may change. -/
namespace Go.Proofs.YtdidjdoifpfmmaaGreatDoor
open Go.RowKit

/-- A disk: its sectors as they are safe; the writes that wait, as they came; the fuse (0: none is lit); is it down? -/
structure Dk where
  safe : List ByteArray
  wait : List (Nat × ByteArray)
  fuse : Nat
  down : Bool
/-- The sectors as they are seen. -/
def over (l : List ByteArray) (ws : List (Nat × ByteArray)) : List ByteArray := ws.foldl (fun l x => l.set x.1 x.2) l
def Dk.seen (S : Dk) : List ByteArray := over S.safe S.wait
theorem over_length (l : List ByteArray) (ws : List (Nat × ByteArray)) : (over l ws).length = l.length := by
  induction ws generalizing l with
  | nil => rfl
  | cons x ws ih => simp only [over, List.foldl_cons] at ih ⊢; rw [ih, List.length_set]
theorem over_snoc (l : List ByteArray) (ws : List (Nat × ByteArray)) (x : Nat × ByteArray) : over l (ws ++ [x]) = (over l ws).set x.1 x.2 := by simp [over]
theorem Dk.seen_length (S : Dk) : S.seen.length = S.safe.length := over_length _ _
/-- The next operation: does it succeed, and what becomes of fuse and disk? -/
def Dk.tick (S : Dk) : Dk := if S.fuse = 0 then S else { S with fuse := S.fuse - 1, down := S.down || decide (S.fuse = 1) }
/-- What is well made: every sector and every write has 64 bytes, every write has a sector. -/
structure Dk.Ok (S : Dk) : Prop where
  pos : 0 < S.safe.length
  most : S.safe.length ≤ 4096
  sec : ∀ x ∈ S.safe, x.size = 64
  wr : ∀ x ∈ S.wait, x.1 < S.safe.length ∧ x.2.size = 64
  few : S.wait.length ≤ 1000000

/-- Of the old blocks none but those of bs has changed. -/
structure Fr (w w' : World) (bs : List Nat) : Prop where
  os : w'.os = w.os
  tape : w'.tape = w.tape
  output : w'.output = w.output
  size : w.heap.size ≤ w'.heap.size
  block : ∀ k, k < w.heap.size → k ∉ bs → w'.heap[k]? = w.heap[k]?
theorem Fr.refl (w : World) (bs : List Nat) : Fr w w bs := ⟨rfl, rfl, rfl, Nat.le_refl _, fun _ _ _ => rfl⟩
theorem Fr.trans {w w1 w2 : World} {bs cs : List Nat} (h : Fr w w1 bs) (k : Fr w1 w2 cs) (hc : ∀ x ∈ cs, x < w.heap.size → x ∈ bs) : Fr w w2 bs :=
  ⟨k.os.trans h.os, k.tape.trans h.tape, k.output.trans h.output, Nat.le_trans h.size k.size, fun n hn hb => (k.block n (Nat.lt_of_lt_of_le hn h.size) (fun hx => hb (hc n hx hn))).trans (h.block n hn hb)⟩
theorem Fr.of_below {w w' : World} (h : Below w.heap.size w w') (bs : List Nat) : Fr w w' bs := ⟨h.os, h.tape, h.output, h.size, fun k hk _ => h.block k hk⟩
theorem Fr.setCell {w w' : World} {bs : List Nat} (h : Fr w w' bs) (a : Addr) (v : Value) (ha : a.block ∈ bs ∨ w.heap.size ≤ a.block) : Fr w (w'.setCell a v) bs :=
  ⟨h.os, h.tape, h.output, by simpa [World.setCell] using h.size, fun k hk hb => by
    rw [Below.heap_setCell _ _ _ _ (fun e => by subst e; rcases ha with ha | ha; exact hb ha; omega)]
    exact h.block k hk hb⟩
theorem Fr.alloc {w w' : World} {bs : List Nat} (h : Fr w w' bs) (o : Obj) : Fr w (w'.alloc o) bs :=
  ⟨h.os, h.tape, h.output, by have := h.size; simp; omega, fun k hk hb => (heap_alloc_old w' o (Nat.lt_of_lt_of_le hk h.size)).trans (h.block k hk hb)⟩
theorem Fr.drew {w w' : World} {bs : List Nat} (h : Fr w w' bs) : Fr w w'.drew bs := ⟨h.os, h.tape, h.output, h.size, h.block⟩
theorem Fr.grown {w w1 w' : World} {bs : List Nat} {r : Option Nat} (h : Fr w w1 bs) (g : w1.grownBy w' r) (hr : ∀ k, r = some k → k ∈ bs ∨ w.heap.size ≤ k) : Fr w w' bs :=
  ⟨g.os.trans h.os, g.tape.trans h.tape, g.output.trans h.output, Nat.le_trans h.size g.size, fun k hk hb => (g.block k (Nat.lt_of_lt_of_le hk h.size) (fun e => by
    rcases hr k e.symm with hx | hx
    · exact hb hx
    · omega)).trans (h.block k hk hb)⟩
theorem Fr.row {w w' : World} {bs : List Nat} {g : Nat} {t : TypeId} {vs : List Value} (h : Fr w w' bs) (r : RowIs w g t vs) (hg : g ∉ bs) : RowIs w' g t vs := ⟨by rw [h.block g r.lt hg]; exact r.heap⟩

/-- Strings as values. -/
def strs (l : List ByteArray) : List Value := l.map Value.string
theorem strs_get (l : List ByteArray) (j : Nat) (h : j < l.length) : (strs l)[j]? = some (.string (l.getD j ByteArray.empty)) := by
  simp [strs, List.getD_eq_getElem?_getD, h]
theorem strs_set (l : List ByteArray) (j : Nat) (x : ByteArray) : (strs l).set j (.string x) = strs (l.set j x) := by simp [strs, List.map_set]
theorem strs_length (l : List ByteArray) : (strs l).length = l.length := by simp [strs]
theorem strs_snoc (l : List ByteArray) (x : ByteArray) : strs l ++ [.string x] = strs (l ++ [x]) := by simp [strs]

/-- Block g holds the cells xs first, and room behind them; it may be written. -/
structure Has (w : World) (g : Nat) (e : TypeId) (cap size : Nat) (xs : List Value) : Prop where
  heap : ∃ cur : Array Value, w.heap[g]? = some (.cells cur e (0, 0)) ∧ cur.size = cap * size ∧ cur.toList.take xs.length = xs ∧ xs.length ≤ cap * size
theorem Has.lt {w : World} {g : Nat} {e : TypeId} {cap size : Nat} {xs : List Value} (h : Has w g e cap size xs) : g < w.heap.size := by
  obtain ⟨cur, h, _⟩ := h.heap
  exact (Array.getElem?_eq_some_iff.1 h).1
theorem Has.cell {w : World} {g : Nat} {e : TypeId} {cap size : Nat} {xs : List Value} (h : Has w g e cap size xs) (j : Nat) (hj : j < xs.length) : w.cell? ⟨g, j, none⟩ = xs[j]? := by
  obtain ⟨cur, h1, _, h3, _⟩ := h.heap
  rw [cell_of_row w g j cur e (0, 0) h1]
  conv => rhs; rw [← h3]
  rw [List.getElem?_take_of_lt hj]
  simp
theorem Has.frozen {w : World} {g : Nat} {e : TypeId} {cap size : Nat} {xs : List Value} (h : Has w g e cap size xs) (j : Nat) : w.frozen? ⟨g, j, none⟩ = false := by
  obtain ⟨cur, h1, _⟩ := h.heap
  simp [World.frozen?, h1]
theorem Has.set {w : World} {g : Nat} {e : TypeId} {cap size : Nat} {xs : List Value} (h : Has w g e cap size xs) (j : Nat) (v : Value) : Has (w.setCell ⟨g, j, none⟩ v) g e cap size (xs.set j v) := by
  obtain ⟨cur, h1, h2, h3, h4⟩ := h.heap
  refine ⟨⟨cur.setIfInBounds j v, by simp [World.setCell, Array.getElem?_modify, h1], by simpa using h2, ?_, by simpa using h4⟩⟩
  rw [Array.toList_setIfInBounds, List.length_set, List.take_set, h3]
theorem Has.keep {w w' : World} {g : Nat} {e : TypeId} {cap size : Nat} {xs : List Value} (h : Has w g e cap size xs) (hk : w'.heap[g]? = w.heap[g]?) : Has w' g e cap size xs := by
  obtain ⟨cur, h1, r⟩ := h.heap
  exact ⟨⟨cur, by rw [hk]; exact h1, r⟩⟩
theorem Has.fr {w w' : World} {bs : List Nat} {g : Nat} {e : TypeId} {cap size : Nat} {xs : List Value} (h : Has w g e cap size xs) (f : Fr w w' bs) (hg : g ∉ bs) : Has w' g e cap size xs := h.keep (f.block g h.lt hg)
theorem Has.other {w : World} {g : Nat} {e : TypeId} {cap size : Nat} {xs : List Value} (h : Has w g e cap size xs) {a : Addr} (v : Value) (ha : g ≠ a.block) : Has (w.setCell a v) g e cap size xs := h.keep (Below.heap_setCell _ _ _ _ ha)
theorem Has.owns {w : World} {g : Nat} {e : TypeId} {cap size n : Nat} {xs : List Value} (h : Has w g e cap size xs) (hn : xs.length = n * size) (hs : 0 < size) (hc : cap ≤ maxLen) : w.ownsRow 0 e size (.slice (some ⟨g, 0, none⟩) n cap) n xs := by
  obtain ⟨cur, h1, h2, h3, h4⟩ := h.heap
  refine ⟨hn, .inr ⟨g, cap, cur, rfl, Nat.zero_le _, h1, ?_, hc, h2, by rw [← hn]; exact h3⟩⟩
  rw [hn] at h4
  exact Nat.le_of_mul_le_mul_right h4 hs
theorem has_of_owns {w : World} {e : TypeId} {size n g cap : Nat} {xs : List Value} (h : w.ownsRow 0 e size (.slice (some ⟨g, 0, none⟩) n cap) n xs) : Has w g e cap size xs ∧ n ≤ cap ∧ cap ≤ maxLen := by
  obtain ⟨hl, h⟩ := h
  rcases h with ⟨h, _⟩ | ⟨g', cap', cur, hv, _, h1, h2, h3, h4, h5⟩
  · cases h
  · simp only [Value.slice.injEq, Option.some.injEq, Addr.mk.injEq] at hv
    obtain ⟨⟨rfl, _⟩, _, rfl⟩ := hv
    exact ⟨⟨⟨cur, h1, h4, by rw [hl]; exact h5, by rw [hl]; exact Nat.mul_le_mul_right _ h2⟩⟩, h2, h3⟩
end Go.Proofs.YtdidjdoifpfmmaaGreatDoor
/- The document's disk in memory, and its calls. -/
namespace Go.Proofs.YtdidjdoifpfmmaaGreatDoor
open Go.RowKit

/-- Where it lies: the disk, its safe sectors, the sectors as seen, the writes that wait. -/
structure RD where
  (q gS cS gE cE : Nat)
  wv : Value
def waits (l : List (Nat × ByteArray)) : List Value := l.flatMap fun x => [.int .i64 (x.1 : Nat), .string x.2]
theorem waits_length (l : List (Nat × ByteArray)) : (waits l).length = l.length * 2 := by
  induction l with
  | nil => rfl
  | cons x l ih => simp only [waits, List.flatMap_cons, List.length_append] at ih ⊢; rw [ih]; simp; omega
theorem waits_snoc (l : List (Nat × ByteArray)) (x : Nat × ByteArray) : waits l ++ [.int .i64 (x.1 : Nat), .string x.2] = waits (l ++ [x]) := by simp [waits]
def RD.blocks (r : RD) : List Nat := r.q :: r.gS :: r.gE :: r.wv.ownBlock.toList
/-- The fuse, as the document's disk has it: of a disk that is down it says nothing. -/
def Lit (S : Dk) (left : Int) (lit : Bool) : Prop := S.down = false → lit = decide (0 < S.fuse) ∧ (0 < S.fuse → left = (S.fuse : Int))
structure RefAt (w : World) (r : RD) (S : Dk) (left : Int) (lit : Bool) : Prop where
  row : RowIs w r.q 139 [.slice (some ⟨r.gS, 0, none⟩) S.safe.length r.cS, .slice (some ⟨r.gE, 0, none⟩) S.safe.length r.cE, r.wv, .int .i64 left, .bool lit, .bool S.down]
  safe : Has w r.gS 9 r.cS 1 (strs S.safe)
  seen : Has w r.gE 9 r.cE 1 (strs S.seen)
  wait : w.ownsRow 0 299 2 r.wv S.wait.length (waits S.wait)
  apart : r.blocks.Nodup
  caps : r.cS ≤ maxLen ∧ r.cE ≤ maxLen
  lit : Lit S left lit
  small : -9223372036854775808 ≤ left ∧ left ≤ 9223372036854775807

set_option maxHeartbeats 1000000 in
theorem refRead_any {w : World} {r : RD} {S : Dk} {left : Int} {lit : Bool} (h : RefAt w r S left lit) (ok : S.Ok) (at_ : Int) :
    Calls Tryz.prog 114 #[.pointer (some ⟨r.q, 0, none⟩), .int .i64 at_] w fun e w' =>
      e = .returned (.tuple (if 0 ≤ at_ ∧ at_ < S.safe.length then #[.string (S.seen.getD at_.toNat ByteArray.empty), .int .i64 0] else #[.string ByteArray.empty, .int .i64 1])) ∧ w = w' := by
  have c1 : w.cell? ⟨r.q, 1, none⟩ = some (.slice (some ⟨r.gE, 0, none⟩) S.safe.length r.cE) := h.row.cell 1
  have hn := ok.most
  by_cases h0 : at_ < 0
  · rw [if_neg (by omega)]
    go_enter Tryz.func114, Tryz.ntmps114
    go_wp2
    refine bodyPost_ret (results_tmp2 rfl _ _ _) rfl ?_
    exact ⟨rfl, rfl⟩
  · obtain ⟨k, rfl⟩ := Int.eq_ofNat_of_zero_le (show 0 ≤ at_ by omega)
    by_cases h1 : k < S.safe.length
    · rw [if_pos (by omega)]
      have ck := h.seen.cell k (by rw [strs_length, S.seen_length]; exact h1)
      rw [strs_get _ _ (by rw [S.seen_length]; exact h1)] at ck
      have e1 : ((k : Nat) : Int).toNat = k := rfl
      rw [e1]
      generalize S.seen.getD k ByteArray.empty = x at ck
      go_enter Tryz.func114, Tryz.ntmps114
      go_wp2
      refine bodyPost_ret (results_tmp2 rfl _ _ _) rfl ?_
      exact ⟨rfl, rfl⟩
    · rw [if_neg (by omega)]
      go_enter Tryz.func114, Tryz.ntmps114
      go_wp2
      refine bodyPost_ret (results_tmp2 rfl _ _ _) rfl ?_
      exact ⟨rfl, rfl⟩
end Go.Proofs.YtdidjdoifpfmmaaGreatDoor
namespace Go.Proofs.YtdidjdoifpfmmaaGreatDoor
open Go.RowKit

theorem Dk.tick_safe (S : Dk) : S.tick.safe = S.safe := by unfold Dk.tick; split <;> rfl
theorem Dk.tick_wait (S : Dk) : S.tick.wait = S.wait := by unfold Dk.tick; split <;> rfl
theorem Dk.tick_seen (S : Dk) : S.tick.seen = S.seen := by unfold Dk.seen; rw [S.tick_safe, S.tick_wait]
theorem Dk.tick_down (S : Dk) (h : S.down = true) : S.tick.down = true := by unfold Dk.tick; split <;> simp [h]
theorem Dk.tick_none (S : Dk) (h : S.fuse = 0) : S.tick = S := by unfold Dk.tick; rw [if_pos h]
theorem Dk.Ok.tick {S : Dk} (h : S.Ok) : S.tick.Ok := ⟨by rw [S.tick_safe]; exact h.pos, by rw [S.tick_safe]; exact h.most, by rw [S.tick_safe]; exact h.sec, by rw [S.tick_safe, S.tick_wait]; exact h.wr, by rw [S.tick_wait]; exact h.few⟩

/-- A disk of which fuse and state have changed alone. -/
theorem RefAt.turn {w : World} {r : RD} {S : Dk} {left : Int} {lit : Bool} (h : RefAt w r S left lit) {w' : World} {S' : Dk} {left' : Int} {lit' : Bool} (hs : S'.safe = S.safe) (hw : S'.wait = S.wait)
    (hr : RowIs w' r.q 139 [.slice (some ⟨r.gS, 0, none⟩) S.safe.length r.cS, .slice (some ⟨r.gE, 0, none⟩) S.safe.length r.cE, r.wv, .int .i64 left', .bool lit', .bool S'.down])
    (hf : Fr w w' [r.q]) (hl : Lit S' left' lit') (hb : -9223372036854775808 ≤ left' ∧ left' ≤ 9223372036854775807) : RefAt w' r S' left' lit' := by
  have hn := h.apart
  simp only [RD.blocks, List.nodup_cons, List.mem_cons, not_or] at hn
  have hse : S'.seen = S.seen := by unfold Dk.seen; rw [hs, hw]
  refine ⟨by rw [hs]; exact hr, by rw [hs]; exact h.safe.fr hf (by simp; omega), by rw [hse]; exact h.seen.fr hf (by simp; omega), ?_, h.apart, h.caps, hl, hb⟩
  rw [hw]
  refine h.wait.kept (row := some r.q) ⟨hf.os, hf.tape, hf.output, hf.size, fun k hk hne => hf.block k hk (by simpa using hne)⟩ ?_
  cases hv : r.wv.ownBlock with
  | none => exact .inl rfl
  | some g =>
    right
    intro e
    rw [hv] at hn
    simp at hn e
    omega

set_option maxRecDepth 100000 in
set_option maxHeartbeats 1000000 in
theorem refMay_any {w : World} {r : RD} {S : Dk} {left : Int} {lit : Bool} (h : RefAt w r S left lit) :
    Calls Tryz.prog 188 #[.pointer (some ⟨r.q, 0, none⟩)] w fun e w' =>
      e = .returned (.bool (!S.tick.down)) ∧ (∃ left', RefAt w' r S.tick left' lit) ∧ Fr w w' [r.q] := by
  have c3 : w.cell? ⟨r.q, 3, none⟩ = some (.int .i64 left) := h.row.cell 3
  have c4 : w.cell? ⟨r.q, 4, none⟩ = some (.bool lit) := h.row.cell 4
  have c5 : w.cell? ⟨r.q, 5, none⟩ = some (.bool S.down) := h.row.cell 5
  have f3 := h.row.frozen 3
  have f5 := h.row.frozen 5
  have hsm := h.small
  have hnot : ∀ (x : Bool) (w : World), (Op.unary .not (.bool x)).run Tryz.prog w = .ok (.bool (!x)) w := fun _ _ => rfl
  have hr3 : ∀ v : Int, RowIs (w.setCell ⟨r.q, 3, none⟩ (.int .i64 v)) r.q 139 [.slice (some ⟨r.gS, 0, none⟩) S.safe.length r.cS, .slice (some ⟨r.gE, 0, none⟩) S.safe.length r.cE, r.wv, .int .i64 v, .bool lit, .bool S.down] := fun v => h.row.set 3 _
  have hf3 : ∀ v : Int, Fr w (w.setCell ⟨r.q, 3, none⟩ (.int .i64 v)) [r.q] := fun v => (Fr.refl _ _).setCell _ _ (.inl (by simp))
  have hr5 : ∀ v : Int, RowIs ((w.setCell ⟨r.q, 3, none⟩ (.int .i64 v)).setCell ⟨r.q, 5, none⟩ (.bool true)) r.q 139 [.slice (some ⟨r.gS, 0, none⟩) S.safe.length r.cS, .slice (some ⟨r.gE, 0, none⟩) S.safe.length r.cE, r.wv, .int .i64 v, .bool lit, .bool true] := fun v => (hr3 v).set 5 _
  have hf5 : ∀ v : Int, Fr w ((w.setCell ⟨r.q, 3, none⟩ (.int .i64 v)).setCell ⟨r.q, 5, none⟩ (.bool true)) [r.q] := fun v => (hf3 v).setCell _ _ (.inl (by simp))
  have HR3 : Hid _ := hr3
  have HF3 : Hid _ := hf3
  have HR5 : Hid _ := hr5
  have HF5 : Hid _ := hf5
  clear hr3 hf3 hr5 hf5
  cases hlit : lit
  · subst hlit
    -- no fuse is lit
    have hS : Hid (S.tick.down = S.down) := by
      show _ = _
      cases hd : S.down
      · have := (h.lit hd).1
        rw [S.tick_none (by simpa using this.symm), hd]
      · exact S.tick_down hd
    have hL : Hid (Lit S.tick left false) := by
      intro hd
      rw [hS.out] at hd
      have h1 := (h.lit hd).1
      rw [S.tick_none (by simpa using h1.symm)]
      exact h.lit hd
    have hrow : Hid (RowIs w r.q 139 [.slice (some ⟨r.gS, 0, none⟩) S.safe.length r.cS, .slice (some ⟨r.gE, 0, none⟩) S.safe.length r.cE, r.wv, .int .i64 left, .bool false, .bool S.tick.down]) := by
      show RowIs _ _ _ _
      rw [hS.out]; exact h.row
    go_enter Tryz.func188, Tryz.ntmps188
    go_wp2
    go_ret
    exact ⟨by rw [hS.out]; rfl, ⟨left, h.turn S.tick_safe S.tick_wait hrow.out (Fr.refl _ _) hL.out hsm⟩, Fr.refl _ _⟩
  · subst hlit
    cases hd : S.down
    · obtain ⟨h1, h2⟩ := h.lit hd
      have hpos : 0 < S.fuse := by simpa using h1.symm
      obtain rfl := h2 hpos
      have ht : Hid (S.tick = { S with fuse := S.fuse - 1, down := decide (S.fuse = 1) }) := by
        show _ = _
        unfold Dk.tick
        rw [if_neg (by omega), hd, Bool.false_or]
      rw [hd] at c5
      by_cases h1f : S.fuse = 1
      · have hT : Hid (S.tick.down = true) := by show _ = _; rw [ht.out]; simp [h1f]
        have hz : (S.fuse : Int) = 1 := by omega
        rw [hz] at c3
        have hLit : Hid (Lit S.tick 0 true) := fun e => by rw [hT.out] at e; cases e
        clear h1f hpos h1 h2 hz
        go_enter Tryz.func188, Tryz.ntmps188
        go_wp2
        go_ret
        exact ⟨by rw [hT.out]; rfl, ⟨0, h.turn S.tick_safe S.tick_wait (by rw [hT.out]; exact HR5.out 0) (HF5.out 0) hLit.out (by omega)⟩, HF5.out 0⟩
      · have hT : Hid (S.tick.down = false) := by show _ = _; rw [ht.out]; simp [h1f]
        have hL : Hid (Lit S.tick ((S.fuse : Int) - 1) true) := by
          intro _
          rw [ht.out]
          refine ⟨by simp; omega, fun _ => ?_⟩
          show _ = ((S.fuse - 1 : Nat) : Int)
          omega
        obtain ⟨m, hm⟩ : ∃ m : Nat, S.fuse = m + 2 := ⟨S.fuse - 2, by omega⟩
        have hm2 : (S.fuse : Int) = (m : Int) + 2 := by omega
        rw [hm2] at c3 hL hsm
        have hle : ¬ (m : Int) + 2 - 1 ≤ 0 := by omega
        clear hm hm2 h1f h1 h2 hpos
        go_enter Tryz.func188, Tryz.ntmps188
        go_wp2
        go_ret
        exact ⟨by rw [hT.out]; rfl, ⟨(m : Int) + 2 - 1, h.turn S.tick_safe S.tick_wait (by have h3 := HR3.out ((m : Int) + 2 - 1); rw [hd] at h3; rw [hT.out]; exact h3) (HF3.out _) hL.out (by omega)⟩, HF3.out _⟩
    · have hT : Hid (S.tick.down = true) := S.tick_down hd
      have hLit : ∀ v, Hid (Lit S.tick v true) := fun v e => by rw [hT.out] at e; cases e
      rw [hd] at c5
      have hwb : ∀ x : Int, -9223372036854775808 ≤ wrap64 x ∧ wrap64 x ≤ 9223372036854775807 := fun x => by unfold wrap64; omega
      have HW : Hid _ := hwb
      clear hwb hsm
      go_enter Tryz.func188, Tryz.ntmps188
      go_wp2
      all_goals go_ret
      all_goals first
        | exact ⟨by rw [hT.out]; rfl, ⟨wrap64 (left - 1), h.turn S.tick_safe S.tick_wait (by rw [hT.out]; exact HR5.out _) (HF5.out _) (hLit _).out (HW.out _)⟩, HF5.out _⟩
        | exact ⟨by rw [hT.out]; rfl, ⟨wrap64 (left - 1), h.turn S.tick_safe S.tick_wait (by have h3 := HR3.out (wrap64 (left - 1)); rw [hd] at h3; rw [hT.out]; exact h3) (HF3.out _) (hLit _).out (HW.out _)⟩, HF3.out _⟩
end Go.Proofs.YtdidjdoifpfmmaaGreatDoor
namespace Go.Proofs.YtdidjdoifpfmmaaGreatDoor
open Go.RowKit

theorem waitInfo : (Tryz.prog.info? 299).map (fun i => (i.zero, i.size, i.bytes)) = some (some (.agg #[.int .i64 0, .string ByteArray.empty]), 2, 24) := by kernel_rfl

set_option maxRecDepth 100000 in
set_option maxHeartbeats 1000000 in
/-- The fuse is lit, or none is. -/
theorem refFuse_any {w : World} {r : RD} {S : Dk} {left : Int} {lit : Bool} (h : RefAt w r S left lit) (n : Int) (hn : -9223372036854775808 ≤ n ∧ n ≤ 9223372036854775807) :
    Calls Tryz.prog 119 #[.pointer (some ⟨r.q, 0, none⟩), .int .i64 n] w fun e w' =>
      e = .returned (.tuple #[]) ∧ RefAt w' r { S with fuse := n.toNat } n (decide (0 < n)) ∧ Fr w w' [r.q] := by
  have c3 : w.cell? ⟨r.q, 3, none⟩ = some (.int .i64 left) := h.row.cell 3
  have c4 : w.cell? ⟨r.q, 4, none⟩ = some (.bool lit) := h.row.cell 4
  have f3 := h.row.frozen 3
  have f4 := h.row.frozen 4
  have hr : RowIs ((w.setCell ⟨r.q, 4, none⟩ (.bool (decide (0 < n)))).setCell ⟨r.q, 3, none⟩ (.int .i64 n)) r.q 139 [.slice (some ⟨r.gS, 0, none⟩) S.safe.length r.cS, .slice (some ⟨r.gE, 0, none⟩) S.safe.length r.cE, r.wv, .int .i64 n, .bool (decide (0 < n)), .bool S.down] := (h.row.set 4 _).set 3 _
  have hf : Fr w ((w.setCell ⟨r.q, 4, none⟩ (.bool (decide (0 < n)))).setCell ⟨r.q, 3, none⟩ (.int .i64 n)) [r.q] := ((Fr.refl _ _).setCell _ _ (.inl (by simp))).setCell _ _ (.inl (by simp))
  have HE : Hid (RefAt ((w.setCell ⟨r.q, 4, none⟩ (.bool (decide (0 < n)))).setCell ⟨r.q, 3, none⟩ (.int .i64 n)) r { S with fuse := n.toNat } n (decide (0 < n))) := by
    refine h.turn (S' := { S with fuse := n.toNat }) rfl rfl hr hf (fun _ => ⟨?_, fun h0 => ?_⟩) hn
    · show decide (0 < n) = decide (0 < n.toNat)
      congr 1
      apply propext
      omega
    · show n = (n.toNat : Int)
      have h1 : 0 < n.toNat := h0
      omega
  have HF : Hid _ := hf
  clear hr hf h
  go_enter Tryz.func119, Tryz.ntmps119
  go_wp2
  go_end0
  exact ⟨rfl, HE.out, HF.out⟩
end Go.Proofs.YtdidjdoifpfmmaaGreatDoor
namespace Go.Proofs.YtdidjdoifpfmmaaGreatDoor
open Go.RowKit

theorem RefAt.ne {w : World} {r : RD} {S : Dk} {left : Int} {lit : Bool} (h : RefAt w r S left lit) : r.q ≠ r.gS ∧ r.q ≠ r.gE ∧ r.gS ≠ r.gE ∧ (∀ g, r.wv.ownBlock = some g → r.q ≠ g ∧ r.gS ≠ g ∧ r.gE ≠ g) := by
  have hn := h.apart
  simp only [RD.blocks, List.nodup_cons, List.mem_cons, not_or] at hn
  refine ⟨hn.1.1, hn.1.2.1, hn.2.1.1, fun g hg => ?_⟩
  rw [hg] at hn
  simp at hn
  omega
theorem two_news (W : World) (t : TypeId) (a b : Value) : ∀ j u, [a, b][j]? = some u → (W.alloc (.cells #[a, b] t)).cell? ((⟨W.heap.size, 0, none⟩ : Addr).add j) = some u := by
  intro j u hu
  have hadd : (⟨W.heap.size, 0, none⟩ : Addr).add j = ⟨W.heap.size, j, none⟩ := by unfold Addr.add; split <;> simp_all
  rw [hadd]
  have h := (RowIs.new W t [a, b]).cell j
  rw [← hu]
  exact h

theorem wait_other {w : World} {e : TypeId} {size n : Nat} {v : Value} {xs : List Value} (h : w.ownsRow 0 e size v n xs) {a : Addr} {x : Value} (hne : ∀ g, v.ownBlock = some g → g ≠ a.block) : (w.setCell a x).ownsRow 0 e size v n xs := by
  refine h.kept (row := some a.block) ⟨rfl, rfl, rfl, by simp [World.setCell], fun k _ hk => Below.heap_setCell _ _ _ _ (fun e => hk (by rw [e]))⟩ ?_
  cases hv : v.ownBlock with
  | none => exact .inl rfl
  | some g => exact .inr (fun e => hne g hv (by simpa using e))
theorem Fr.wider {w w' : World} {bs cs : List Nat} (h : Fr w w' bs) (hc : ∀ x ∈ bs, x ∈ cs) : Fr w w' cs := ⟨h.os, h.tape, h.output, h.size, fun k hk hn => h.block k hk (fun hx => hn (hc k hx))⟩

theorem Has.grown {w w' : World} {g : Nat} {e : TypeId} {cap size : Nat} {xs : List Value} {r : Option Nat} (h : Has w g e cap size xs) (hg : w.grownBy w' r) (hne : some g ≠ r) : Has w' g e cap size xs := h.keep (hg.block g h.lt hne)
theorem Has.alloc {w : World} {g : Nat} {e : TypeId} {cap size : Nat} {xs : List Value} (h : Has w g e cap size xs) (o : Obj) : Has (w.alloc o) g e cap size xs := h.keep (heap_alloc_old w o h.lt)

set_option maxRecDepth 100000 in
set_option maxHeartbeats 1000000 in
theorem refWrite_ok {w : World} {r : RD} {S : Dk} {left : Int} {lit : Bool} (h : RefAt w r S left lit) (ok : S.Ok) (k : Nat) (hk : k < S.safe.length) (d : ByteArray) (hd : d.size = 64) (hu : S.tick.down = false) (hfew : S.wait.length + 1 ≤ 1000000) :
    Calls Tryz.prog 116 #[.pointer (some ⟨r.q, 0, none⟩), .int .i64 (k : Nat), .string d] w fun e w' =>
      e = .returned (.int .i64 0) ∧ (∃ r' left', RefAt w' r' { S.tick with wait := S.wait ++ [(k, d)] } left' lit ∧ r'.q = r.q ∧ (∀ b ∈ r'.blocks, b ∈ r.blocks ∨ w.heap.size ≤ b)) ∧ Fr w w' r.blocks := by
  obtain ⟨i0, hi, hz0, hz1, hz2⟩ := info_parts waitInfo
  have c1 : w.cell? ⟨r.q, 1, none⟩ = some (.slice (some ⟨r.gE, 0, none⟩) S.safe.length r.cE) := h.row.cell 1
  have hM := refMay_any h
  have hn := ok.most
  rw [hu] at hM
  obtain ⟨n1, n2, n3, n4⟩ := h.ne
  have hnot : ∀ (x : Bool) (w : World), (Op.unary .not (.bool x)).run Tryz.prog w = .ok (.bool (!x)) w := fun _ _ => rfl
  have HN4 : Hid _ := n4
  clear n4
  go_enter Tryz.func116, Tryz.ntmps116
  go_upto_region 7 with (go_at_call 188; refine hM.mono ?_; rintro e w1 ⟨rfl, ⟨l1, h1⟩, hf1⟩; clear hM; have e1 : w1.cell? ⟨r.q, 1, none⟩ = some (.slice (some ⟨r.gE, 0, none⟩) S.safe.length r.cE) := by { have := h1.row.cell 1; rw [S.tick_safe] at this; exact this }; have ek := h1.seen.cell k (by rw [strs_length, S.tick_seen, S.seen_length]; exact hk); rw [strs_get _ _ (by rw [S.tick_seen, S.seen_length]; exact hk)] at ek; have fk := h1.seen.frozen k; have e2 : (w1.setCell ⟨r.gE, k, none⟩ (.string d)).cell? ⟨r.q, 2, none⟩ = some r.wv := ((h1.row.other (a := ⟨r.gE, k, none⟩) (.string d) n2).cell 2); have hOw : (w1.setCell ⟨r.gE, k, none⟩ (.string d)).ownsRow 0 299 2 r.wv S.wait.length (waits S.wait) := by { have := h1.wait; rw [S.tick_wait] at this; exact wait_other this (fun g hg => ((HN4.out g hg).2.2).symm) }; have hw2 : Fr w (w1.setCell ⟨r.gE, k, none⟩ (.string d)) r.blocks := (hf1.wider (by simp [RD.blocks])).setCell _ _ (.inl (by simp [RD.blocks])))
  have m0 := h1.row.other (a := ⟨r.gE, k, none⟩) (.string d) n2
  have mS := h1.safe.other (a := ⟨r.gE, k, none⟩) (.string d) n3
  have mE := h1.seen.set k (.string d)
  rw [strs_set, S.tick_seen] at mE
  have hcl : w.heap.size ≤ (w1.setCell ⟨r.gE, k, none⟩ (.string d)).heap.size := hw2.size
  generalize w1.setCell ⟨r.gE, k, none⟩ (.string d) = W2 at e2 hOw hw2 m0 mS mE hcl ⊢
  have hcaps := h1.caps
  have hlit := h1.lit
  have hsm := h1.small
  rw [S.tick_safe] at m0 mS
  clear h1 e1 ek fk c1 hf1
  go_wp2_with (at_builtin; refine wpList_append_lies _ rfl _ _ 137 rfl 0 299 i0 (.agg #[.int .i64 0, .string ByteArray.empty]) 2 24 Tryz.underlying137 hi hz0 hz1 hz2 rfl (by decide) _ _ _ rfl (hOw.alloc _) ⟨W2.heap.size, 0, none⟩ 1 1 [.int .i64 (k : Int), .string d] rfl rfl (two_news _ _ _ _) (by intro u hu; simp at hu; rcases hu with rfl | rfl <;> rfl) (by decide) (by unfold maxLen; omega) (by omega) (Nat.zero_le _) _ rfl ?_; intro g cap w4 hown hgrow hat hlt; have b0 : RowIs w4 r.q 139 _ := ⟨(hgrow.block r.q (by have := m0.lt; simp; omega) (by intro e; exact ((HN4.out _ e.symm).1 rfl))).trans (((m0.below ((Below.refl _ _).alloc (Nat.le_refl _) (.cells #[.int .i64 (k : Int), .string d] 299)) m0.lt)).heap)⟩; have e4 : w4.cell? ⟨r.q, 2, none⟩ = some r.wv := b0.cell 2; have f4 := b0.frozen 2)
  have hHsz : (W2.alloc (.cells #[.int .i64 (k : Int), .string d] 299)).heap.size = W2.heap.size + 1 := by simp
  have lq := m0.lt
  have lS := mS.lt
  have lE := mE.lt
  have hgn : r.q ≠ g ∧ r.gS ≠ g ∧ r.gE ≠ g := by
    rcases hat with hat | hat
    · exact HN4.out g hat
    · rw [hHsz] at hat; omega
  have hq : ∀ b, r.wv.ownBlock = some b → r.q ≠ b ∧ r.gS ≠ b ∧ r.gE ≠ b := HN4.out
  have sS := ((mS.alloc (.cells #[.int .i64 (k : Int), .string d] 299)).grown hgrow (fun e => (hq _ e.symm).2.1 rfl)).other (a := ⟨r.q, 2, none⟩) (.slice (some ⟨g, 0, none⟩) (S.wait.length + 1) cap) n1.symm
  have sE := ((mE.alloc (.cells #[.int .i64 (k : Int), .string d] 299)).grown hgrow (fun e => (hq _ e.symm).2.2 rfl)).other (a := ⟨r.q, 2, none⟩) (.slice (some ⟨g, 0, none⟩) (S.wait.length + 1) cap) n2.symm
  have sR := b0.set 2 (.slice (some ⟨g, 0, none⟩) (S.wait.length + 1) cap)
  have sW := wait_other (a := ⟨r.q, 2, none⟩) (x := .slice (some ⟨g, 0, none⟩) (S.wait.length + 1) cap) hown (fun b hb => by simp [Value.ownBlock] at hb; subst hb; exact hgn.1.symm)
  have sF : Fr w (w4.setCell ⟨r.q, 2, none⟩ (.slice (some ⟨g, 0, none⟩) (S.wait.length + 1) cap)) r.blocks := ((hw2.alloc _).grown hgrow (fun b hb => .inl (by have hb2 : r.wv.ownBlock = some b := hb; simp [RD.blocks, hb2]))).setCell _ _ (.inl (by simp [RD.blocks]))
  go_ret
  refine ⟨rfl, ⟨⟨r.q, r.gS, r.cS, r.gE, r.cE, .slice (some ⟨g, 0, none⟩) (S.wait.length + 1) cap⟩, l1, ⟨?_, ?_, ?_, ?_, ?_, hcaps, ?_, hsm⟩, rfl, ?_⟩, sF⟩
  · rw [S.tick_safe]; exact sR
  · rw [S.tick_safe]; exact sS
  · show Has _ _ _ _ _ (strs (over S.tick.safe (S.wait ++ [(k, d)])))
    rw [S.tick_safe, over_snoc]; exact sE
  · show World.ownsRow _ _ _ _ _ (S.wait ++ [(k, d)]).length (waits (S.wait ++ [(k, d)]))
    rw [← waits_snoc, List.length_append]; exact sW
  · show (r.q :: r.gS :: r.gE :: [g]).Nodup
    simp only [List.nodup_cons, List.mem_cons, List.not_mem_nil, or_false, not_or, not_false_eq_true, List.nodup_nil, and_true]
    exact ⟨⟨n1, n2, hgn.1⟩, ⟨n3, hgn.2.1⟩, hgn.2.2⟩
  · exact hlit
  · intro b hb
    have hb' : b ∈ (r.q :: r.gS :: r.gE :: [g]) := hb
    simp only [List.mem_cons, List.not_mem_nil, or_false] at hb'
    rcases hb' with rfl | rfl | rfl | rfl
    · exact .inl (by simp [RD.blocks])
    · exact .inl (by simp [RD.blocks])
    · exact .inl (by simp [RD.blocks])
    · rcases hat with hat | hat
      · have hat2 : r.wv.ownBlock = some b := hat
        exact .inl (by simp [RD.blocks, hat2])
      · right; rw [hHsz] at hat; omega
end Go.Proofs.YtdidjdoifpfmmaaGreatDoor
namespace Go.Proofs.YtdidjdoifpfmmaaGreatDoor
open Go.RowKit

set_option maxRecDepth 100000 in
set_option maxHeartbeats 1000000 in
theorem refWrite_arg {w : World} {r : RD} {S : Dk} {left : Int} {lit : Bool} (h : RefAt w r S left lit) (ok : S.Ok) (at_ : Int) (d : ByteArray) (hbad : at_ < 0 ∨ S.safe.length ≤ at_ ∨ d.size ≠ 64) (_hdz : d.size ≤ 140737488351232) :
    Calls Tryz.prog 116 #[.pointer (some ⟨r.q, 0, none⟩), .int .i64 at_, .string d] w fun e w' => e = .returned (.int .i64 1) ∧ w = w' := by
  have c1 : w.cell? ⟨r.q, 1, none⟩ = some (.slice (some ⟨r.gE, 0, none⟩) S.safe.length r.cE) := h.row.cell 1
  have hn := ok.most
  by_cases h0 : at_ < 0
  · go_enter Tryz.func116, Tryz.ntmps116
    go_wp2
    go_ret
    exact ⟨rfl, rfl⟩
  · by_cases h1 : (S.safe.length : Int) ≤ at_
    · go_enter Tryz.func116, Tryz.ntmps116
      go_wp2
      go_ret
      exact ⟨rfl, rfl⟩
    · have h2 : ¬ (d.size : Int) = 64 := by omega
      clear hbad
      go_enter Tryz.func116, Tryz.ntmps116
      go_wp2
      go_ret
      exact ⟨rfl, rfl⟩

set_option maxRecDepth 100000 in
set_option maxHeartbeats 1000000 in
theorem refWrite_down {w : World} {r : RD} {S : Dk} {left : Int} {lit : Bool} (h : RefAt w r S left lit) (ok : S.Ok) (k : Nat) (hk : k < S.safe.length) (d : ByteArray) (hd : d.size = 64) (hu : S.tick.down = true) :
    Calls Tryz.prog 116 #[.pointer (some ⟨r.q, 0, none⟩), .int .i64 (k : Nat), .string d] w fun e w' =>
      e = .returned (.int .i64 2) ∧ (∃ left', RefAt w' r S.tick left' lit) ∧ Fr w w' [r.q] := by
  have c1 : w.cell? ⟨r.q, 1, none⟩ = some (.slice (some ⟨r.gE, 0, none⟩) S.safe.length r.cE) := h.row.cell 1
  have hM := refMay_any h
  have hn := ok.most
  rw [hu] at hM
  have hnot : ∀ (x : Bool) (w : World), (Op.unary .not (.bool x)).run Tryz.prog w = .ok (.bool (!x)) w := fun _ _ => rfl
  go_enter Tryz.func116, Tryz.ntmps116
  go_wp2_with (go_at_call 188; refine hM.mono ?_; rintro e w1 ⟨rfl, h1, hf1⟩)
  go_ret
  exact ⟨rfl, h1, hf1⟩

set_option maxRecDepth 100000 in
set_option maxHeartbeats 1000000 in
theorem refFlush_down {w : World} {r : RD} {S : Dk} {left : Int} {lit : Bool} (h : RefAt w r S left lit) (hu : S.tick.down = true) :
    Calls Tryz.prog 118 #[.pointer (some ⟨r.q, 0, none⟩)] w fun e w' =>
      e = .returned (.int .i64 2) ∧ (∃ left', RefAt w' r S.tick left' lit) ∧ Fr w w' [r.q] := by
  have hM := refMay_any h
  rw [hu] at hM
  have hnot : ∀ (x : Bool) (w : World), (Op.unary .not (.bool x)).run Tryz.prog w = .ok (.bool (!x)) w := fun _ _ => rfl
  go_enter Tryz.func118, Tryz.ntmps118
  go_wp2_with (go_at_call 188; refine hM.mono ?_; rintro e w1 ⟨rfl, h1, hf1⟩)
  go_ret
  exact ⟨rfl, h1, hf1⟩

/-- The first i of one list, the rest of another. -/
def upto (a b : List ByteArray) (i : Nat) : List ByteArray := b.take i ++ a.drop i
theorem upto_len (a b : List ByteArray) (i : Nat) (h : a.length = b.length) : (upto a b i).length = a.length := by simp [upto]; omega
theorem upto_step (a b : List ByteArray) (i : Nat) (h : a.length = b.length) (hi : i < a.length) : (upto a b i).set i (b.getD i ByteArray.empty) = upto a b (i + 1) := by
  have hl : (b.take i).length = i := by simp; omega
  have e : b.take (i + 1) = b.take i ++ [b.getD i ByteArray.empty] := by
    rw [List.take_succ_eq_append_getElem (show i < b.length by omega)]
    simp [List.getD_eq_getElem?_getD, show i < b.length by omega]
  unfold upto
  rw [List.set_append_right _ _ (by omega), hl, Nat.sub_self, List.drop_eq_getElem_cons (by omega), List.set_cons_zero, e]
  simp
theorem upto_end (a b : List ByteArray) (h : a.length = b.length) : upto a b a.length = b := by
  unfold upto
  rw [List.drop_length, List.append_nil, h, List.take_length]

set_option maxRecDepth 100000 in
set_option maxHeartbeats 2000000 in
theorem refFlush_ok {w : World} {r : RD} {S : Dk} {left : Int} {lit : Bool} (h : RefAt w r S left lit) (ok : S.Ok) (hu : S.tick.down = false) :
    Calls Tryz.prog 118 #[.pointer (some ⟨r.q, 0, none⟩)] w fun e w' =>
      e = .returned (.int .i64 0) ∧ (∃ r' left', RefAt w' r' { S.tick with safe := S.seen, wait := [] } left' lit ∧ r'.q = r.q ∧ (∀ b ∈ r'.blocks, b ∈ r.blocks ∨ w.heap.size ≤ b)) ∧ Fr w w' r.blocks := by
  have hM := refMay_any h
  rw [hu] at hM
  obtain ⟨n1, n2, n3, n4⟩ := h.ne
  have hn := ok.most
  have hlen := S.seen_length
  have hnot : ∀ (x : Bool) (w : World), (Op.unary .not (.bool x)).run Tryz.prog w = .ok (.bool (!x)) w := fun _ _ => rfl
  have HN4 : Hid _ := n4
  clear n4
  go_enter Tryz.func118, Tryz.ntmps118
  go_wp2_with (go_at_call 188; refine hM.mono ?_; rintro e w1 ⟨rfl, ⟨l1, h1⟩, hf1⟩; clear hM)
  have m0 := h1.row
  have mS := h1.safe
  have mE := h1.seen
  rw [S.tick_safe] at m0 mS
  rw [S.tick_seen] at mE
  have hcaps := h1.caps
  have hlit := h1.lit
  have hsm := h1.small
  go_loopw [4] (fun i wr => ∃ j : Nat, j ≤ S.safe.length ∧ i = .int .i64 j ∧ RowIs wr r.q 139 [.slice (some ⟨r.gS, 0, none⟩) S.safe.length r.cS, .slice (some ⟨r.gE, 0, none⟩) S.safe.length r.cE, r.wv, .int .i64 l1, .bool lit, .bool S.tick.down] ∧ Has wr r.gS 9 r.cS 1 (strs (upto S.safe S.seen j)) ∧ Has wr r.gE 9 r.cE 1 (strs S.seen) ∧ Fr w wr r.blocks) (fun i _ => S.safe.length - (intOf i).toNat)
  case atStart => exact ⟨0, Nat.zero_le _, rfl, m0, mS, mE, hf1.wider (by simp [RD.blocks])⟩
  case round =>
    clear m0 mS mE h1 hf1
    obtain ⟨j, hj, rfl, m0, mS, mE, hf⟩ := hrel
    have c0 : wr.cell? ⟨r.q, 0, none⟩ = some (.slice (some ⟨r.gS, 0, none⟩) S.safe.length r.cS) := m0.cell 0
    have c1 : wr.cell? ⟨r.q, 1, none⟩ = some (.slice (some ⟨r.gE, 0, none⟩) S.safe.length r.cE) := m0.cell 1
    by_cases hlt : j < S.safe.length
    · have ce := mE.cell j (by rw [strs_length, hlen]; exact hlt)
      rw [strs_get _ _ (by rw [hlen]; exact hlt)] at ce
      have cs := mS.cell j (by rw [strs_length, upto_len _ _ _ hlen.symm]; exact hlt)
      rw [strs_get _ _ (by rw [upto_len _ _ _ hlen.symm]; exact hlt)] at cs
      have fs := mS.frozen j
      have hst : Hid _ := upto_step S.safe S.seen j hlen.symm hlt
      generalize S.seen.getD j ByteArray.empty = x at ce hst
      generalize (upto S.safe S.seen j).getD j ByteArray.empty = old at cs
      have s0 : Hid (RowIs (wr.setCell ⟨r.gS, j, none⟩ (.string x)).drew r.q 139 [.slice (some ⟨r.gS, 0, none⟩) S.safe.length r.cS, .slice (some ⟨r.gE, 0, none⟩) S.safe.length r.cE, r.wv, .int .i64 l1, .bool lit, .bool S.tick.down]) := (m0.other (a := ⟨r.gS, j, none⟩) _ n1).drew
      have sS : Hid (Has (wr.setCell ⟨r.gS, j, none⟩ (.string x)).drew r.gS 9 r.cS 1 (strs (upto S.safe S.seen (j + 1)))) := by
        have := mS.set j (.string x)
        rw [strs_set, hst.out] at this
        exact this.keep rfl
      have sE : Hid (Has (wr.setCell ⟨r.gS, j, none⟩ (.string x)).drew r.gE 9 r.cE 1 (strs S.seen)) := (mE.other (a := ⟨r.gS, j, none⟩) (.string x) n3.symm).keep rfl
      have sF : Hid (Fr w (wr.setCell ⟨r.gS, j, none⟩ (.string x)).drew r.blocks) := (hf.setCell _ _ (.inl (by simp [RD.blocks]))).drew
      clear m0 mS mE hf
      go_wp2
      go_region
      go_wp2
      go_roundw
      case rel => exact ⟨j + 1, by omega, by go_num, s0.out, sS.out, sE.out, sF.out⟩
      case measure => simp [intOf]; omega
    · have ej : j = S.safe.length := by omega
      subst ej
      rw [upto_end _ _ hlen.symm] at mS
      have f2 := m0.frozen 2
      have c2 : wr.cell? ⟨r.q, 2, none⟩ = some r.wv := m0.cell 2
      have s0 := m0.set 2 (.slice none 0 0)
      have sS := mS.other (a := ⟨r.q, 2, none⟩) (.slice none 0 0) n1.symm
      have sE := mE.other (a := ⟨r.q, 2, none⟩) (.slice none 0 0) n2.symm
      have sF := hf.setCell ⟨r.q, 2, none⟩ (.slice none 0 0) (.inl (by simp [RD.blocks]))
      have HS : Hid _ := s0
      have HS2 : Hid _ := sS
      have HS3 : Hid _ := sE
      have HS4 : Hid _ := sF
      clear m0 mS mE hf s0 sS sE sF
      go_wp2
      go_ret
      refine ⟨rfl, ⟨⟨r.q, r.gS, r.cS, r.gE, r.cE, .slice none 0 0⟩, l1, ⟨?_, ?_, ?_, ?_, ?_, hcaps, hlit, hsm⟩, rfl, ?_⟩, HS4.out⟩
      · rw [hlen]; exact HS.out
      · exact HS2.out
      · exact HS3.out
      · exact World.ownsRow_nil _ _ _ _
      · show (r.q :: r.gS :: r.gE :: []).Nodup
        simp only [List.nodup_cons, List.mem_cons, List.not_mem_nil, or_false, not_or, not_false_eq_true, List.nodup_nil, and_true]
        exact ⟨⟨n1, n2⟩, n3⟩
      · intro b hb
        have hb' : b ∈ (r.q :: r.gS :: r.gE :: []) := hb
        simp only [List.mem_cons, List.not_mem_nil, or_false] at hb'
        left
        rcases hb' with rfl | rfl | rfl <;> simp [RD.blocks]
end Go.Proofs.YtdidjdoifpfmmaaGreatDoor
