import Derived.Test.YtdidjdoifpfmmaaGreatDoorGT5
import Derived.Test.YtdidjdoifpfmmaaGreatDoorGT6
import Derived.Test.YtdidjdoifpfmmaaGreatDoorGT1
import Derived.Laws.MakeOwn
import Derived.Deep.MidRow
import Derived.Maps.Views
import Derived.Deep.WholeRow
namespace Go.Proofs.YtdidjdoifpfmmaaGreatDoor
open Go.RowKit

theorem u8Info2 : (Tryz.prog.info? 5).map (fun i => (i.zero, i.size, i.bytes)) = some (some (.int .u8 0), 1, 1) := by kernel_rfl
theorem strInfo : (Tryz.prog.info? 9).map (fun i => (i.zero, i.size, i.bytes)) = some (some (.string ByteArray.empty), 1, 16) := by kernel_rfl
theorem madeBytes (n : Nat) : madeCells (Value.int .u8 0).cells n = (bytes (List.replicate n 0)).toArray := by
  apply Array.ext
  · simp [madeCells, bytes]
  · intro i h1 h2
    simp [madeCells, bytes, Value.cells, Nat.mod_one]
theorem makeBytes (w : World) (n : Nat) (hn : n ≤ 4194304) : (Instr.makeSlice 124 (.int .i64 (n : Int)) (.int .i64 (n : Int))).run Tryz.prog w
    = .ok (.slice (some ⟨w.heap.size, 0, none⟩) n n) (w.alloc (.cells (bytes (List.replicate n 0)).toArray 5)) := by
  obtain ⟨i0, hi, hz0, hz1, hz2⟩ := info_parts u8Info2
  have h := run_make (P := Tryz.prog) w 124 5 i0 (.int .u8 0) Tryz.underlying124 hi hz0 .i64 .i64 n n (by omega) (by omega) (by rw [hz2]; omega) (by omega)
  rw [hz1, Nat.mul_one, Int.toNat_natCast, madeBytes] at h
  exact h

/-- A sector of zeros. -/
def zero64 : ByteArray := text (List.replicate 64 0)
theorem zero64_size : zero64.size = 64 := by decide +kernel
/-- So that no step writes them out. -/
def zeroBytes : List Nat := List.replicate 64 0

set_option maxHeartbeats 1000000 in
theorem zeros_any (w : World) :
    Calls Tryz.prog 113 #[.int .i64 64] w fun e w' => e = .returned (.string zero64) ∧ Below w.heap.size w w' := by
  have hmk : (Instr.makeSlice 124 (.int .i64 64) (.int .i64 64)).run Tryz.prog w = .ok (.slice (some ⟨w.heap.size, 0, none⟩) 64 64) (w.alloc (.cells (bytes zeroBytes).toArray 5)) := makeBytes w 64 (by decide)
  have hb : Below w.heap.size w (w.alloc (.cells (bytes zeroBytes).toArray 5)) := (Below.refl _ _).alloc (Nat.le_refl _) _
  have hr : RowIs (w.alloc (.cells (bytes zeroBytes).toArray 5)) w.heap.size 5 (bytes zeroBytes ++ []) := by rw [List.append_nil]; exact RowIs.new _ _ _
  have hcv := back_any (P := Tryz.prog) 124 9 5 Tryz.underlying124 Tryz.underlying5 Tryz.underlying9 _ w.heap.size 64 _ zeroBytes [] hr (by intro x hx; rw [List.eq_of_mem_replicate hx]; decide)
  have hl : zeroBytes.length = 64 := by simp [zeroBytes]
  rw [hl, show text zeroBytes = zero64 from rfl] at hcv
  generalize w.alloc (.cells (bytes zeroBytes).toArray 5) = W at hmk hb hcv
  generalize zero64 = z at hcv ⊢
  clear hr hl
  go_enter Tryz.func113, Tryz.ntmps113
  go_wp2
  go_ret
  exact ⟨rfl, hb⟩

/-- One string more in a row of the disk's. -/
theorem one_new (W : World) (t : TypeId) (a : Value) : ∀ j u, [a][j]? = some u → (W.alloc (.cells #[a] t)).cell? ((⟨W.heap.size, 0, none⟩ : Addr).add j) = some u := by
  intro j u hu
  have hadd : (⟨W.heap.size, 0, none⟩ : Addr).add j = ⟨W.heap.size, j, none⟩ := by unfold Addr.add; split <;> simp_all
  rw [hadd]
  have h := (RowIs.new W t [a]).cell j
  rw [← hu]
  exact h
/-- The document's disk, as far as it is made. -/
structure Making (w wr : World) (q : Nat) (z : ByteArray) (j k : Nat) (sv ev : Value) : Prop where
  row : RowIs wr q 139 [sv, ev, .slice none 0 0, .int .i64 0, .bool false, .bool false]
  safe : wr.ownsRow w.heap.size 9 1 sv j (strs (List.replicate j z))
  seen : wr.ownsRow w.heap.size 9 1 ev k (strs (List.replicate k z))
  ns : ∀ g, sv.ownBlock = some g → g ≠ q ∧ ev.ownBlock ≠ some g
  ne : ∀ g, ev.ownBlock = some g → g ≠ q
  below : Below w.heap.size w wr
  hq : w.heap.size ≤ q


theorem strs_rep (z : ByteArray) (j : Nat) : strs (List.replicate j z) ++ [.string z] = strs (List.replicate (j + 1) z) := by
  rw [strs_snoc, List.replicate_succ']
theorem Making.more {w wr w3 : World} {q : Nat} {z : ByteArray} {j k g cap : Nat} {sv ev : Value} (h : Making w wr q z j k sv ev)
    (hown : w3.ownsRow w.heap.size 9 1 (.slice (some ⟨g, 0, none⟩) (j + 1) cap) (j + 1) (strs (List.replicate j z) ++ [.string z]))
    (hgrow : (wr.alloc (.cells #[.string z] 9)).grownBy w3 sv.ownBlock) (hat : sv.ownBlock = some g ∨ g = (wr.alloc (.cells #[.string z] 9)).heap.size) :
    Making w (w3.setCell ⟨q, 0, none⟩ (.slice (some ⟨g, 0, none⟩) (j + 1) cap)) q z (j + 1) k (.slice (some ⟨g, 0, none⟩) (j + 1) cap) ev := by
  have hsz : (wr.alloc (.cells #[.string z] 9)).heap.size = wr.heap.size + 1 := by simp
  have lq := h.row.lt
  have hgq : g ≠ q := by
    rcases hat with hat | hat
    · exact (h.ns g hat).1
    · rw [hsz] at hat; omega
  have heg : ev.ownBlock ≠ some g := by
    rcases hat with hat | hat
    · exact (h.ns g hat).2
    · intro e
      have := (h.seen.lt g e).2
      rw [hsz] at hat; omega
  have b0 : RowIs w3 q 139 [sv, ev, .slice none 0 0, .int .i64 0, .bool false, .bool false] := ⟨(hgrow.block q (by omega) (by intro e; exact (h.ns _ e.symm).1 rfl)).trans ((h.row.below ((Below.refl _ _).alloc (Nat.le_refl _) (.cells #[.string z] 9)) lq).heap)⟩
  refine ⟨b0.set 0 _, ?_, ?_, ?_, h.ne, ?_, h.hq⟩
  · rw [← strs_rep]
    refine hown.kept (row := some q) ⟨rfl, rfl, rfl, by simp [World.setCell], fun k _ hk => Below.heap_setCell _ _ _ _ (fun e => hk (by rw [e]))⟩ (.inr (by simp [Value.ownBlock]; exact hgq))
  · refine ((h.seen.alloc (.cells #[.string z] 9)).kept hgrow ?_).kept (row := some q) ⟨rfl, rfl, rfl, by simp [World.setCell], fun k _ hk => Below.heap_setCell _ _ _ _ (fun e => hk (by rw [e]))⟩ ?_
    · cases hv : ev.ownBlock with
      | none => exact .inl rfl
      | some b => exact .inr (fun e => (h.ns b e.symm).2 hv)
    · cases hv : ev.ownBlock with
      | none => exact .inl rfl
      | some b => exact .inr (fun e => h.ne b hv (by simpa using e))
  · intro b hb
    simp [Value.ownBlock] at hb
    subst hb
    exact ⟨hgq, heg⟩
  · exact ((h.below.alloc h.below.size _).grown hgrow (by have := h.below.size; simp; omega) (fun r hr => (h.safe.lt r hr).1)).setCell h.hq _
theorem Making.more2 {w wr w3 : World} {q : Nat} {z : ByteArray} {j k g cap : Nat} {sv ev : Value} (h : Making w wr q z j k sv ev)
    (hown : w3.ownsRow w.heap.size 9 1 (.slice (some ⟨g, 0, none⟩) (k + 1) cap) (k + 1) (strs (List.replicate k z) ++ [.string z]))
    (hgrow : (wr.alloc (.cells #[.string z] 9)).grownBy w3 ev.ownBlock) (hat : ev.ownBlock = some g ∨ g = (wr.alloc (.cells #[.string z] 9)).heap.size) :
    Making w (w3.setCell ⟨q, 1, none⟩ (.slice (some ⟨g, 0, none⟩) (k + 1) cap)) q z j (k + 1) sv (.slice (some ⟨g, 0, none⟩) (k + 1) cap) := by
  have hsz : (wr.alloc (.cells #[.string z] 9)).heap.size = wr.heap.size + 1 := by simp
  have lq := h.row.lt
  have hgq : g ≠ q := by
    rcases hat with hat | hat
    · exact h.ne g hat
    · rw [hsz] at hat; omega
  have heg : sv.ownBlock ≠ some g := by
    rcases hat with hat | hat
    · intro e; exact (h.ns g e).2 hat
    · intro e
      have := (h.safe.lt g e).2
      rw [hsz] at hat; omega
  have b0 : RowIs w3 q 139 [sv, ev, .slice none 0 0, .int .i64 0, .bool false, .bool false] := ⟨(hgrow.block q (by omega) (by intro e; exact h.ne _ e.symm rfl)).trans ((h.row.below ((Below.refl _ _).alloc (Nat.le_refl _) (.cells #[.string z] 9)) lq).heap)⟩
  refine ⟨b0.set 1 _, ?_, ?_, ?_, ?_, ?_, h.hq⟩
  · refine ((h.safe.alloc (.cells #[.string z] 9)).kept hgrow ?_).kept (row := some q) ⟨rfl, rfl, rfl, by simp [World.setCell], fun k _ hk => Below.heap_setCell _ _ _ _ (fun e => hk (by rw [e]))⟩ ?_
    · cases hv : sv.ownBlock with
      | none => exact .inl rfl
      | some b => exact .inr (fun e => (h.ns b hv).2 e.symm)
    · cases hv : sv.ownBlock with
      | none => exact .inl rfl
      | some b => exact .inr (fun e => (h.ns b hv).1 (by simpa using e))
  · rw [← strs_rep]
    refine hown.kept (row := some q) ⟨rfl, rfl, rfl, by simp [World.setCell], fun k _ hk => Below.heap_setCell _ _ _ _ (fun e => hk (by rw [e]))⟩ (.inr (by simp [Value.ownBlock]; exact hgq))
  · intro b hb
    refine ⟨(h.ns b hb).1, ?_⟩
    intro e
    simp [Value.ownBlock] at e
    subst e
    exact heg hb
  · intro b hb
    simp [Value.ownBlock] at hb
    subst hb
    exact hgq
  · exact ((h.below.alloc h.below.size _).grown hgrow (by have := h.below.size; simp; omega) (fun r hr => (h.seen.lt r hr).1)).setCell h.hq _

noncomputable def newLoop : Code := fstC (sndC (sndC (sndC (sndC (sndC (Tryz.f69.body.getD .skip))))))
set_option maxHeartbeats 4000000 in
set_option maxRecDepth 1000000 in
theorem newLoop_any {x1 x2 x5 x6 x7 x8 x9 x10 x11 x12 x13 x14 x15 x16 x17 x18 x19 x20 x21 x22 x23 x24 x25 x26 x27 x28 x29 x30 x31 x32 x33 x34 x35 x36 x37 x38 : Value} (m q : Nat) (z : ByteArray) (w0 : World) (w : World) (Q : Exit → Act → World → Prop)
    (hm : m ≤ 4096) (h0 : Making w0 w q z 0 0 (.slice none 0 0) (.slice none 0 0))
    (hQ : Hid (∀ (y5 y13 y14 y15 y16 y17 y18 y19 y20 y21 y22 y23 y24 y25 y26 y27 y28 y29 y30 y31 y32 y33 y34 y35 y36 y37 : Value) (w' : World), (∃ sv ev, Making w0 w' q z m m sv ev) → Q .normal ⟨#[.int .i64 (m : Nat), x1, x2, .pointer (some ⟨q, 0, none⟩), .string z, y5, x6, x7, x8, x9, x10, x11, x12, y13, y14, y15, y16, y17, y18, y19, y20, y21, y22, y23, y24, y25, y26, y27, y28, y29, y30, y31, y32, y33, y34, y35, y36, y37, x38], []⟩ w')) :
    Code.wp Tryz.prog newLoop Q ⟨#[.int .i64 (m : Nat), x1, x2, .pointer (some ⟨q, 0, none⟩), .string z, x5, x6, x7, x8, x9, x10, x11, x12, x13, x14, x15, x16, x17, x18, x19, x20, x21, x22, x23, x24, x25, x26, x27, x28, x29, x30, x31, x32, x33, x34, x35, x36, x37, x38], []⟩ w := by
  conv => arg 2; whnf
  obtain ⟨i0, hi, hz0, hz1, hz2⟩ := info_parts strInfo
  refine seq_at ?_
  go_wp2
  show Code.wp _ _ _ _ _
  refine wp_block ?_
  go_loopw [5] (fun i wr => ∃ j : Nat, j ≤ m ∧ i = .int .i64 j ∧ ∃ sv ev, Making w0 wr q z j j sv ev) (fun i _ => m - (intOf i).toNat)
  case atStart => exact ⟨0, Nat.zero_le _, rfl, _, _, h0⟩
  case round =>
    clear h0
    obtain ⟨j, hj, rfl, sv, ev, hM⟩ := hrel
    by_cases hlt : j < m
    · have c0 : wr.cell? ⟨q, 0, none⟩ = some sv := hM.row.cell 0
      have hS := hM.safe
      have hBl := hM.below
      go_upto_region 11 with (at_builtin; refine wpList_append_lies _ rfl _ _ 35 rfl w0.heap.size 9 i0 (.string ByteArray.empty) 1 16 Tryz.underlying35 hi hz0 hz1 hz2 rfl (by decide) _ _ _ rfl (hS.alloc _) ⟨wr.heap.size, 0, none⟩ 1 1 [.string z] rfl rfl (one_new _ _ _) (by intro u hu; simp at hu; subst hu; rfl) (by decide) (by unfold maxLen; omega) (by omega) (by have := hBl.size; simp; omega) _ rfl ?_; intro g cap w3 hown hgrow hat hlt; have b0 : RowIs w3 q 139 _ := ⟨(hgrow.block q (by have := hM.row.lt; simp; omega) (by intro e; exact (hM.ns _ e.symm).1 rfl)).trans ((hM.row.below ((Below.refl _ _).alloc (Nat.le_refl _) (.cells #[.string z] 9)) hM.row.lt).heap)⟩; have e4 : w3.cell? ⟨q, 0, none⟩ = some sv := b0.cell 0; have f4 := b0.frozen 0)
      have hN := hM.more hown hgrow hat
      generalize w3.setCell ⟨q, 0, none⟩ (.slice (some ⟨g, 0, none⟩) (j + 1) cap) = w4 at hN ⊢
      clear hM c0 hS hBl hown hgrow hat hlt b0 e4 f4
      have c1 : w4.cell? ⟨q, 1, none⟩ = some ev := hN.row.cell 1
      have hS := hN.seen
      have hBl := hN.below
      go_wp2_with (at_builtin; refine wpList_append_lies _ rfl _ _ 35 rfl w0.heap.size 9 i0 (.string ByteArray.empty) 1 16 Tryz.underlying35 hi hz0 hz1 hz2 rfl (by decide) _ _ _ rfl (hS.alloc _) ⟨w4.heap.size, 0, none⟩ 1 1 [.string z] rfl rfl (one_new _ _ _) (by intro u hu; simp at hu; subst hu; rfl) (by decide) (by unfold maxLen; omega) (by omega) (by have := hBl.size; simp; omega) _ rfl ?_; intro g cap w3 hown hgrow hat hlt; have b0 : RowIs w3 q 139 _ := ⟨(hgrow.block q (by have := hN.row.lt; simp; omega) (by intro e; exact hN.ne _ e.symm rfl)).trans ((hN.row.below ((Below.refl _ _).alloc (Nat.le_refl _) (.cells #[.string z] 9)) hN.row.lt).heap)⟩; have e4 : w3.cell? ⟨q, 1, none⟩ = some ev := b0.cell 1; have f4 := b0.frozen 1)
      have hN2 := hN.more2 hown hgrow hat
      go_roundw
      case rel => exact ⟨j + 1, by omega, by go_num, _, _, hN2⟩
      case measure => simp [intOf]; omega
    · have ej : j = m := by omega
      subst ej
      go_wp2
      exact hQ.out _ _ _ _ _ _ _ _ _ _ _ _ _ _ _ _ _ _ _ _ _ _ _ _ _ _ _ ⟨_, _, hM⟩

theorem owns_base {w : World} {base : Nat} {e : TypeId} {size n : Nat} {v : Value} {xs : List Value} (h : w.ownsRow base e size v n xs) : w.ownsRow 0 e size v n xs := by
  refine ⟨h.1, ?_⟩
  rcases h.2 with h | ⟨g, cap, cur, a, _, r⟩
  · exact .inl h
  · exact .inr ⟨g, cap, cur, a, Nat.zero_le _, r⟩
/-- The disk is made. -/
theorem making_done {w wr : World} {q : Nat} {z : ByteArray} {sv ev : Value} (m : Nat) (hm : 0 < m) (_hm2 : m ≤ 4096) (h : Making w wr q z m m sv ev) :
    ∃ r : RD, r.q = q ∧ RefAt wr r ⟨List.replicate m z, [], 0, false⟩ 0 false ∧ (∀ b ∈ r.blocks, w.heap.size ≤ b) := by
  obtain ⟨gS, cS, rfl, hS1, hS2⟩ := h.safe.form hm
  obtain ⟨gE, cE, rfl, hE1, hE2⟩ := h.seen.form hm
  have oS := has_of_owns (owns_base h.safe)
  have oE := has_of_owns (owns_base h.seen)
  have n1 := h.ns gS rfl
  have n2 := h.ne gE rfl
  have n3 : gE ≠ gS := fun e => n1.2 (by rw [← e]; rfl)
  refine ⟨⟨q, gS, cS, gE, cE, .slice none 0 0⟩, rfl, ⟨?_, oS.1, oE.1, World.ownsRow_nil _ _ _ _, ?_, ⟨oS.2.2, oE.2.2⟩, fun _ => ⟨rfl, fun h => absurd h (Nat.lt_irrefl 0)⟩, by omega⟩, ?_⟩
  · show RowIs wr q _ [.slice (some ⟨gS, 0, none⟩) (List.replicate m z).length cS, .slice (some ⟨gE, 0, none⟩) (List.replicate m z).length cE, _, _, _, _]
    rw [List.length_replicate]; exact h.row
  · show (q :: gS :: gE :: []).Nodup
    simp only [List.nodup_cons, List.mem_cons, List.not_mem_nil, or_false, not_or, not_false_eq_true, List.nodup_nil, and_true]
    exact ⟨⟨n1.1.symm, n2.symm⟩, n3.symm⟩
  · intro b hb
    have hb' : b ∈ (q :: gS :: gE :: []) := hb
    simp only [List.mem_cons, List.not_mem_nil, or_false] at hb'
    rcases hb' with rfl | rfl | rfl
    · exact h.hq
    · exact hS1
    · exact hE1

/-- A new disk of the document's. -/
def NewRef (w w' : World) (n : Int) (e : Ending) (z : ByteArray) : Prop := ∃ m r, m = (max 1 (min n 4096)).toNat ∧ e = .returned (.pointer (some ⟨RD.q r, 0, none⟩)) ∧ RefAt w' r ⟨List.replicate m z, [], 0, false⟩ 0 false ∧ (∀ b ∈ r.blocks, w.heap.size ≤ b) ∧ Below w.heap.size w w'

set_option maxRecDepth 100000 in
set_option maxHeartbeats 2000000 in
theorem refNew_any (n : Int) (w : World) :
    Calls Tryz.prog 69 #[.int .i64 n] w fun e w' => NewRef w w' n e zero64 := by
  have hZ := fun w => zeros_any w
  generalize hz64 : zero64 = z at hZ ⊢
  have HZ : Hid _ := hZ
  clear hZ hz64
  by_cases h1 : n < 1
  · have h2 : ¬ (4096 : Int) < 1 := by omega
    have hmN : Hid (1 = (max 1 (min n 4096)).toNat) := by show _ = _; omega
    go_enter Tryz.func69, Tryz.ntmps69
    refine seq_at ?_
    go_wp2
    show Code.wp _ _ _ _ _
    refine seq_at ?_
    go_wp2
    show Code.wp _ _ _ _ _
    refine seq_at ?_
    go_wp2
    show Code.wp _ _ _ _ _
    refine seq_at ?_
    go_wp2
    show Code.wp _ _ _ _ (w.alloc (.cells ([Value.slice none 0 0, Value.slice none 0 0, Value.slice none 0 0, Value.int .i64 0, Value.bool false, Value.bool false] : List Value).toArray 139))
    have r0 := RowIs.new w 139 [Value.slice none 0 0, Value.slice none 0 0, Value.slice none 0 0, Value.int .i64 0, Value.bool false, Value.bool false]
    have b0 : Below w.heap.size w (w.alloc (.cells ([Value.slice none 0 0, Value.slice none 0 0, Value.slice none 0 0, Value.int .i64 0, Value.bool false, Value.bool false] : List Value).toArray 139)) := (Below.refl _ _).alloc (Nat.le_refl _) _
    generalize w.alloc (.cells ([Value.slice none 0 0, Value.slice none 0 0, Value.slice none 0 0, Value.int .i64 0, Value.bool false, Value.bool false] : List Value).toArray 139) = WA at r0 b0 ⊢
    refine seq_at ?_
    go_wp2_with (go_at_call 113; refine (HZ.out _).mono ?_; rintro e w1 ⟨rfl, hb1⟩)
    show Code.wp _ _ _ _ _
    have r1 := r0.below hb1 r0.lt
    have b1 := b0.trans (hb1.mono b0.size)
    refine seq_at (wp_at (newLoop_any 1 w.heap.size z w w1 _ (by omega) ⟨r1, World.ownsRow_nil _ _ _ _, World.ownsRow_nil _ _ _ _, by simp [Value.ownBlock], by simp [Value.ownBlock], b1, Nat.le_refl _⟩ ?_))
    refine fun y5 y13 y14 y15 y16 y17 y18 y19 y20 y21 y22 y23 y24 y25 y26 y27 y28 y29 y30 y31 y32 y33 y34 y35 y36 y37 w2 hX => ?_
    obtain ⟨sv, ev, hX⟩ := hX
    have HF : Hid _ := making_done 1 (by omega) (by omega) hX
    show Code.wp _ _ _ _ _
    go_wp2
    go_ret
    obtain ⟨r, hq, hr, hbl⟩ := HF.out
    exact ⟨1, r, hmN.out, by rw [hq]; rfl, hr, hbl, hX.below⟩
  · by_cases h2 : 4096 < n
    · have hmN : Hid (4096 = (max 1 (min n 4096)).toNat) := by show _ = _; omega
      go_enter Tryz.func69, Tryz.ntmps69
      refine seq_at ?_
      go_wp2
      show Code.wp _ _ _ _ _
      refine seq_at ?_
      go_wp2
      show Code.wp _ _ _ _ _
      refine seq_at ?_
      go_wp2
      show Code.wp _ _ _ _ _
      refine seq_at ?_
      go_wp2
      show Code.wp _ _ _ _ (w.alloc (.cells ([Value.slice none 0 0, Value.slice none 0 0, Value.slice none 0 0, Value.int .i64 0, Value.bool false, Value.bool false] : List Value).toArray 139))
      have r0 := RowIs.new w 139 [Value.slice none 0 0, Value.slice none 0 0, Value.slice none 0 0, Value.int .i64 0, Value.bool false, Value.bool false]
      have b0 : Below w.heap.size w (w.alloc (.cells ([Value.slice none 0 0, Value.slice none 0 0, Value.slice none 0 0, Value.int .i64 0, Value.bool false, Value.bool false] : List Value).toArray 139)) := (Below.refl _ _).alloc (Nat.le_refl _) _
      generalize w.alloc (.cells ([Value.slice none 0 0, Value.slice none 0 0, Value.slice none 0 0, Value.int .i64 0, Value.bool false, Value.bool false] : List Value).toArray 139) = WA at r0 b0 ⊢
      refine seq_at ?_
      go_wp2_with (go_at_call 113; refine (HZ.out _).mono ?_; rintro e w1 ⟨rfl, hb1⟩)
      show Code.wp _ _ _ _ _
      have r1 := r0.below hb1 r0.lt
      have b1 := b0.trans (hb1.mono b0.size)
      refine seq_at (wp_at (newLoop_any 4096 w.heap.size z w w1 _ (by omega) ⟨r1, World.ownsRow_nil _ _ _ _, World.ownsRow_nil _ _ _ _, by simp [Value.ownBlock], by simp [Value.ownBlock], b1, Nat.le_refl _⟩ ?_))
      refine fun y5 y13 y14 y15 y16 y17 y18 y19 y20 y21 y22 y23 y24 y25 y26 y27 y28 y29 y30 y31 y32 y33 y34 y35 y36 y37 w2 hX => ?_
      obtain ⟨sv, ev, hX⟩ := hX
      have HF : Hid _ := making_done 4096 (by omega) (by omega) hX
      show Code.wp _ _ _ _ _
      go_wp2
      go_ret
      obtain ⟨r, hq, hr, hbl⟩ := HF.out
      exact ⟨4096, r, hmN.out, by rw [hq]; rfl, hr, hbl, hX.below⟩
    · obtain ⟨k, rfl⟩ := Int.eq_ofNat_of_zero_le (show 0 ≤ n by omega)
      have hmN : Hid (k = (max 1 (min (k : Int) 4096)).toNat) := by show _ = _; omega
      go_enter Tryz.func69, Tryz.ntmps69
      refine seq_at ?_
      go_wp2
      show Code.wp _ _ _ _ _
      refine seq_at ?_
      go_wp2
      show Code.wp _ _ _ _ _
      refine seq_at ?_
      go_wp2
      show Code.wp _ _ _ _ _
      refine seq_at ?_
      go_wp2
      show Code.wp _ _ _ _ (w.alloc (.cells ([Value.slice none 0 0, Value.slice none 0 0, Value.slice none 0 0, Value.int .i64 0, Value.bool false, Value.bool false] : List Value).toArray 139))
      have r0 := RowIs.new w 139 [Value.slice none 0 0, Value.slice none 0 0, Value.slice none 0 0, Value.int .i64 0, Value.bool false, Value.bool false]
      have b0 : Below w.heap.size w (w.alloc (.cells ([Value.slice none 0 0, Value.slice none 0 0, Value.slice none 0 0, Value.int .i64 0, Value.bool false, Value.bool false] : List Value).toArray 139)) := (Below.refl _ _).alloc (Nat.le_refl _) _
      generalize w.alloc (.cells ([Value.slice none 0 0, Value.slice none 0 0, Value.slice none 0 0, Value.int .i64 0, Value.bool false, Value.bool false] : List Value).toArray 139) = WA at r0 b0 ⊢
      refine seq_at ?_
      go_wp2_with (go_at_call 113; refine (HZ.out _).mono ?_; rintro e w1 ⟨rfl, hb1⟩)
      show Code.wp _ _ _ _ _
      have r1 := r0.below hb1 r0.lt
      have b1 := b0.trans (hb1.mono b0.size)
      refine seq_at (wp_at (newLoop_any k w.heap.size z w w1 _ (by omega) ⟨r1, World.ownsRow_nil _ _ _ _, World.ownsRow_nil _ _ _ _, by simp [Value.ownBlock], by simp [Value.ownBlock], b1, Nat.le_refl _⟩ ?_))
      refine fun y5 y13 y14 y15 y16 y17 y18 y19 y20 y21 y22 y23 y24 y25 y26 y27 y28 y29 y30 y31 y32 y33 y34 y35 y36 y37 w2 hX => ?_
      obtain ⟨sv, ev, hX⟩ := hX
      have HF : Hid _ := making_done k (by omega) (by omega) hX
      show Code.wp _ _ _ _ _
      go_wp2
      go_ret
      obtain ⟨r, hq, hr, hbl⟩ := HF.out
      exact ⟨k, r, hmN.out, by rw [hq]; rfl, hr, hbl, hX.below⟩
end Go.Proofs.YtdidjdoifpfmmaaGreatDoor
namespace Go.Proofs.YtdidjdoifpfmmaaGreatDoor
open Go.RowKit

theorem secInfo : (Tryz.prog.info? 190).map (fun i => (i.zero, i.size, i.bytes)) = some (some (.agg (bytes (List.replicate 64 0)).toArray), 64, 64) := by kernel_rfl
theorem textOf_text (l : List Nat) (h : ∀ x ∈ l, x < 256) : textOf (text l) = l := by
  simp only [textOf, text, List.map_map]
  conv => rhs; rw [← List.map_id l]
  apply List.map_congr_left
  intro x hx
  have := h x hx
  simp
  omega
theorem textOf_zero : textOf zero64 = List.replicate 64 0 := textOf_text _ (by intro x hx; rw [List.eq_of_mem_replicate hx]; decide)
theorem secs_zero (n : Nat) : secs (List.replicate n zero64) = List.replicate (n * 64) (.int .u8 0) := by
  induction n with
  | zero => rfl
  | succ n ih =>
    rw [List.replicate_succ, show (n + 1) * 64 = 64 + n * 64 by omega, ← List.replicate_append_replicate, ← ih]
    simp only [secs, List.flatMap_cons, textOf_zero]
    congr 1
theorem madeSecs (n : Nat) : madeCells (Value.agg (bytes (List.replicate 64 0)).toArray).cells (n * 64) = (secs (List.replicate n zero64)).toArray := by
  rw [secs_zero]
  apply Array.ext
  · simp [madeCells]
  · intro i h1 h2
    have hb : bytes (List.replicate 64 0) = List.replicate 64 (.int .u8 0) := by simp [bytes]
    simp only [madeCells, Value.cells, hb, Array.getElem_map, Array.getElem_range, List.getElem_toArray, List.getElem_replicate]
    have hm : i % (List.replicate 64 (Value.int .u8 0)).toArray.size < (List.replicate 64 (Value.int .u8 0)).toArray.size := Nat.mod_lt _ (by simp)
    rw [getElem!_pos (List.replicate 64 (Value.int .u8 0)).toArray _ hm, List.getElem_toArray, List.getElem_replicate]
theorem makeSecs (w : World) (n : Nat) (hn : n ≤ 4096) : (Instr.makeSlice 77 (.int .i64 (n : Int)) (.int .i64 (n : Int))).run Tryz.prog w
    = .ok (.slice (some ⟨w.heap.size, 0, none⟩) n n) (w.alloc (.cells (secs (List.replicate n zero64)).toArray 190)) := by
  obtain ⟨i0, hi, hz0, hz1, hz2⟩ := info_parts secInfo
  have h := run_make (P := Tryz.prog) w 77 190 i0 _ Tryz.underlying77 hi hz0 .i64 .i64 n n (by omega) (by omega) (by rw [hz2]; omega) (by omega)
  rw [hz1, Int.toNat_natCast, madeSecs] at h
  exact h

/-- A new disk of the program's. -/
def NewDev (w w' : World) (n : Int) (e : Ending) : Prop := ∃ m d, m = (max 1 (min n 4096)).toNat ∧ e = .returned (.pointer (some ⟨DP.p d, 0, none⟩)) ∧ DevAt w' d ⟨List.replicate m zero64, [], 0, false⟩ ∧ (∀ b ∈ d.blocks, w.heap.size ≤ b) ∧ Below w.heap.size w w'
theorem newDev_of (w : World) (n : Int) (m : Nat) (hm : m = (max 1 (min n 4096)).toNat) :
    NewDev w (((w.alloc (.cells (secs (List.replicate m zero64)).toArray 190)).alloc (.map #[] 0)).alloc (.cells ([Value.int .i32 0, .int .u32 0, .slice (some ⟨w.heap.size, 0, none⟩) m m, .slice none 0 0, .map (some (w.heap.size + 1)), .int .i64 0, .bool false] : List Value).toArray 88)) n (.returned (.pointer (some ⟨w.heap.size + 1 + 1, 0, none⟩))) := by
  have s1 : (w.alloc (.cells (secs (List.replicate m zero64)).toArray 190)).heap.size = w.heap.size + 1 := by simp
  have s2 : ((w.alloc (.cells (secs (List.replicate m zero64)).toArray 190)).alloc (.map #[] 0)).heap.size = w.heap.size + 1 + 1 := by simp
  have r1 := ((RowIs.new w 190 (secs (List.replicate m zero64))).below ((Below.refl _ _).alloc (Nat.le_refl _) (.map #[] 0)) (by rw [s1]; omega))
  have m1 := World.ownsMap_made (H := Unit) (w.alloc (.cells (secs (List.replicate m zero64)).toArray 190)) Tryz.prog 3 (plainElem Tryz.prog 3)
  rw [s1] at m1
  have r3 := RowIs.new ((w.alloc (.cells (secs (List.replicate m zero64)).toArray 190)).alloc (.map #[] 0)) 88 [Value.int .i32 0, .int .u32 0, .slice (some ⟨w.heap.size, 0, none⟩) m m, .slice none 0 0, .map (some (w.heap.size + 1)), .int .i64 0, .bool false]
  rw [s2] at r3
  have hb : Below w.heap.size w (((w.alloc (.cells (secs (List.replicate m zero64)).toArray 190)).alloc (.map #[] 0)).alloc (.cells ([Value.int .i32 0, .int .u32 0, .slice (some ⟨w.heap.size, 0, none⟩) m m, .slice none 0 0, .map (some (w.heap.size + 1)), .int .i64 0, .bool false] : List Value).toArray 88)) := (((Below.refl _ _).alloc (Nat.le_refl _) _).alloc (by simp) _).alloc (by simp; omega) _
  refine ⟨m, ⟨w.heap.size + 1 + 1, w.heap.size, w.heap.size + 1, .slice none 0 0⟩, hm, rfl, ⟨?_, ?_, World.ownsRow_nil _ _ _ _, m1.alloc _, ?_⟩, ?_, hb⟩
  · show RowIs _ _ _ [.int .i32 0, .int .u32 0, .slice (some ⟨w.heap.size, 0, none⟩) (List.replicate m zero64).length (List.replicate m zero64).length, .slice none 0 0, .map (some (w.heap.size + 1)), .int .i64 0, .bool false]
    rw [List.length_replicate]; exact r3
  · exact r1.below ((Below.refl _ _).alloc (Nat.le_refl _) _) (by rw [s2]; omega)
  · show ((w.heap.size + 1 + 1) :: w.heap.size :: (w.heap.size + 1) :: []).Nodup
    simp
    omega
  · intro b hb2
    have hb' : b ∈ ((w.heap.size + 1 + 1) :: w.heap.size :: (w.heap.size + 1) :: []) := hb2
    simp at hb'
    omega

theorem makeSecs' (w : World) (n : Nat) (z : Int) (hz : z = n) (hn : n ≤ 4096) : (Instr.makeSlice 77 (.int .i64 z) (.int .i64 z)).run Tryz.prog w
    = .ok (.slice (some ⟨w.heap.size, 0, none⟩) n n) (w.alloc (.cells (secs (List.replicate n zero64)).toArray 190)) := by subst hz; exact makeSecs w n hn

set_option maxRecDepth 100000 in
set_option maxHeartbeats 1600000 in
theorem devNew_any (n : Int) (w : World) :
    Calls Tryz.prog 24 #[.int .i64 n] w fun e w' => NewDev w w' n e := by
  have hmm : ∀ (t : TypeId) (w : World), (Instr.makeMap t none).run Tryz.prog w = .ok (.map (some w.heap.size)) (w.alloc (.map #[] 0)) := fun t w => run_makeMap t w
  by_cases h1 : n < 1
  · have hmk := makeSecs' w 1 1 rfl (by decide)
    have hN : Hid _ := newDev_of w n 1 (by omega)
    generalize (secs (List.replicate 1 zero64)).toArray = C at hmk hN
    go_enter Tryz.func24, Tryz.ntmps24
    go_wp2
    go_ret
    exact hN.out
  · by_cases h2 : 4096 < n
    · have hmk := makeSecs' w 4096 4096 rfl (by decide)
      have hN : Hid _ := newDev_of w n 4096 (by omega)
      generalize (secs (List.replicate 4096 zero64)).toArray = C at hmk hN
      go_enter Tryz.func24, Tryz.ntmps24
      go_wp2
      go_ret
      exact hN.out
    · have hmk := makeSecs' w n.toNat n (by omega) (by omega)
      have hN : Hid _ := newDev_of w n n.toNat (by omega)
      generalize (secs (List.replicate n.toNat zero64)).toArray = C at hmk hN
      go_enter Tryz.func24, Tryz.ntmps24
      go_wp2
      go_ret
      exact hN.out
end Go.Proofs.YtdidjdoifpfmmaaGreatDoor
namespace Go.Proofs.YtdidjdoifpfmmaaGreatDoor
open Go.RowKit
set_option maxHeartbeats 1000000 in
theorem devHas_any {w : World} {d : DP} {S : Dk} {lk : Int} (h : RowIs w d.p 88 (d.cells S lk)) (ok : S.Ok) (n : Int) :
    Calls Tryz.prog 142 #[.pointer (some ⟨d.p, 0, none⟩), .int .i64 n] w fun e w' => e = .returned (.bool (decide (0 ≤ n ∧ n < S.safe.length))) ∧ w = w' := by
  have c2 : w.cell? ⟨d.p, 2, none⟩ = some (.slice (some ⟨d.gs, 0, none⟩) S.safe.length S.safe.length) := h.cell 2
  have hn := ok.most
  by_cases h0 : 0 ≤ n
  · by_cases h1 : n < S.safe.length
    · rw [decide_eq_true (by omega)]
      go_enter Tryz.func142, Tryz.ntmps142
      go_wp2
      go_ret
      simp_all
    · rw [decide_eq_false (by omega)]
      go_enter Tryz.func142, Tryz.ntmps142
      go_wp2
      go_ret
      simp_all
  · rw [decide_eq_false (by omega)]
    go_enter Tryz.func142, Tryz.ntmps142
    go_wp2
    go_ret
    simp_all
end Go.Proofs.YtdidjdoifpfmmaaGreatDoor
/- Rows of things of m cells each, as lists. -/
namespace Go.Proofs.YtdidjdoifpfmmaaGreatDoor
theorem flat_length {α β : Type} (f : α → List β) (m : Nat) (l : List α) (hf : ∀ x ∈ l, (f x).length = m) : (l.flatMap f).length = l.length * m := by
  induction l with
  | nil => simp
  | cons x l ih =>
    rw [List.flatMap_cons, List.length_append, ih (fun y hy => hf y (List.mem_cons_of_mem _ hy)), hf x List.mem_cons_self, List.length_cons, Nat.add_mul]
    omega
theorem flat_get {α β : Type} (f : α → List β) (m : Nat) (l : List α) (hf : ∀ x ∈ l, (f x).length = m) (k : Nat) (hk : k < l.length) (j : Nat) (hj : j < m) : (l.flatMap f)[k * m + j]? = (f l[k])[j]? := by
  induction l generalizing k with
  | nil => simp at hk
  | cons x l ih =>
    have hx := hf x List.mem_cons_self
    rw [List.flatMap_cons]
    cases k with
    | zero => rw [List.getElem?_append_left (by omega)]; simp
    | succ k =>
      rw [List.getElem?_append_right (by rw [hx, Nat.add_mul]; omega), hx, show (k + 1) * m + j - m = k * m + j by rw [Nat.add_mul]; omega,
        ih (fun y hy => hf y (List.mem_cons_of_mem _ hy)) k (by simpa using hk)]
      simp
theorem flat_set {α β : Type} (f : α → List β) (m : Nat) (l : List α) (hf : ∀ x ∈ l, (f x).length = m) (k : Nat) (hk : k < l.length) (y : α) (hy : (f y).length = m) (i : Nat) :
    ((l.set k y).flatMap f)[i]? = if k * m ≤ i ∧ i < k * m + m then (f y)[i - k * m]? else (l.flatMap f)[i]? := by
  induction l generalizing k i with
  | nil => simp at hk
  | cons x l ih =>
    have hx := hf x List.mem_cons_self
    cases k with
    | zero =>
      simp only [List.set_cons_zero, List.flatMap_cons, Nat.zero_mul, Nat.zero_le, true_and, Nat.zero_add, Nat.sub_zero]
      by_cases h : i < m
      · rw [if_pos h, List.getElem?_append_left (by omega)]
      · rw [if_neg h, List.getElem?_append_right (by omega), List.getElem?_append_right (by omega), hx, hy]
    | succ k =>
      simp only [List.set_cons_succ, List.flatMap_cons]
      have e : (k + 1) * m = k * m + m := by rw [Nat.add_mul]; omega
      by_cases h : i < m
      · rw [List.getElem?_append_left (by omega), List.getElem?_append_left (by omega), if_neg (by omega)]
      · rw [List.getElem?_append_right (by omega), List.getElem?_append_right (by omega), hx, ih (fun y hy => hf y (List.mem_cons_of_mem _ hy)) k (by simpa using hk), e]
        by_cases h2 : k * m ≤ i - m ∧ i - m < k * m + m
        · rw [if_pos h2, if_pos (by omega), show i - m - k * m = i - (k * m + m) by omega]
        · rw [if_neg h2, if_neg (by omega)]

end Go.Proofs.YtdidjdoifpfmmaaGreatDoor
/- The program's disk: its rows of sectors and writes, the map of last writes, as plain mathematics. -/
namespace Go.Proofs.YtdidjdoifpfmmaaGreatDoor
open Go.RowKit

theorem sec_length (x : ByteArray) (h : x.size = 64) : (bytes (textOf x)).length = 64 := by rw [bytes_length, textOf_len, h]
theorem secs_length (l : List ByteArray) (h : ∀ x ∈ l, x.size = 64) : (secs l).length = l.length * 64 := flat_length _ 64 l fun x hx => sec_length x (h x hx)
theorem wcells_length (l : List (Nat × ByteArray)) (h : ∀ x ∈ l, x.2.size = 64) : (wcells l).length = l.length * 65 := flat_length _ 65 l fun x hx => by rw [List.length_cons, sec_length x.2 (h x hx)]
theorem secs_range {w : World} {g : Nat} {t : TypeId} {l : List ByteArray} (h : RowIs w g t (secs l)) (hs : ∀ x ∈ l, x.size = 64) (k : Nat) (hk : k < l.length) : w.rangeAt g (k * 64) (bytes (textOf l[k])) := by
  intro j v hv
  have hj : j < 64 := by
    have := (List.getElem?_eq_some_iff.1 hv).1
    rwa [sec_length _ (hs _ (List.getElem_mem hk))] at this
  rw [h.cell, secs, flat_get _ 64 l (fun x hx => sec_length x (hs x hx)) k hk j hj, hv]
theorem secs_there {w : World} {g : Nat} {t : TypeId} {l : List ByteArray} (h : RowIs w g t (secs l)) (hs : ∀ x ∈ l, x.size = 64) (k : Nat) (hk : k < l.length) : w.there g (k * 64) 64 := by
  intro j hj
  refine ⟨?_, h.frozen _⟩
  rw [h.cell, List.getElem?_eq_getElem (by rw [secs_length l hs]; omega)]
  rfl
theorem wcells_range {w : World} {g : Nat} {t : TypeId} {cap : Nat} {l : List (Nat × ByteArray)} (h : Has w g t cap 65 (wcells l)) (hs : ∀ x ∈ l, x.2.size = 64) (k : Nat) (hk : k < l.length) : w.rangeAt g (k * 65) (.int .i64 (l[k].1 : Nat) :: bytes (textOf l[k].2)) := by
  intro j v hv
  have hj : j < 65 := by
    have := (List.getElem?_eq_some_iff.1 hv).1
    rwa [List.length_cons, sec_length _ (hs _ (List.getElem_mem hk))] at this
  rw [h.cell _ (by rw [wcells_length l hs]; omega), wcells, flat_get _ 65 l (fun x hx => by rw [List.length_cons, sec_length x.2 (hs x hx)]) k hk j hj, hv]
theorem wcells_snoc (l : List (Nat × ByteArray)) (x : Nat × ByteArray) : wcells l ++ (.int .i64 (x.1 : Nat) :: bytes (textOf x.2)) = wcells (l ++ [x]) := by simp [wcells]

theorem lastD_snoc (l : List (Nat × ByteArray)) (x : Nat × ByteArray) : lastD (l ++ [x]) = (lastD l).put (.int .i64 (x.1 : Nat)) (.lit (.int .i64 (l.length : Nat))) := by
  simp [lastD, List.zipIdx_append]
theorem snoc_ind {α : Type} {p : List α → Prop} (h0 : p []) (h1 : ∀ l x, p l → p (l ++ [x])) (l : List α) : p l := by
  have : ∀ n, ∀ l : List α, l.length = n → p l := by
    intro n
    induction n with
    | zero => intro l hl; rw [List.length_eq_zero_iff.1 hl]; exact h0
    | succ n ih =>
      intro l hl
      have hne : l ≠ [] := by intro e; simp [e] at hl
      rw [← List.dropLast_concat_getLast hne]
      exact h1 _ _ (ih _ (by simp [hl]))
  exact this _ l rfl
theorem lastD_isMap (l : List (Nat × ByteArray)) : Maps.IsMap (lastD l) := by
  induction l using snoc_ind with
  | h0 => exact ⟨[], rfl⟩
  | h1 l x ih => rw [lastD_snoc]; exact ih.put _ _
/-- What the map tells of a sector: no write waits for it, or the place of the last. -/
theorem lastD_at (l : List (Nat × ByteArray)) (k : Nat) : (Maps.has (lastD l) (.int .i64 (k : Nat)) = false ∧ ∀ safe : List ByteArray, (over safe l)[k]? = safe[k]?) ∨
    ∃ i y, l[i]? = some (k, y) ∧ Maps.has (lastD l) (.int .i64 (k : Nat)) = true ∧ (∀ z, (lastD l).atKey (.int .i64 (k : Nat)) z = .lit (.int .i64 (i : Nat))) ∧ ∀ safe : List ByteArray, k < safe.length → (over safe l)[k]? = some y := by
  induction l using snoc_ind with
  | h0 => exact .inl ⟨rfl, fun _ => rfl⟩
  | h1 l x ih =>
    obtain ⟨a, y⟩ := x
    have hm := lastD_isMap l
    rw [lastD_snoc]
    by_cases e : a = k
    · subst e
      refine .inr ⟨l.length, y, by simp, Maps.has_put_same hm (by simp [WideAt.IsKeyLit]) _, fun z => Maps.atKey_put_same hm (by simp [WideAt.IsKeyLit]) _ z, fun safe hs => ?_⟩
      rw [over_snoc, List.getElem?_set_self (by rw [over_length]; exact hs)]
    · have hne : (Lit.int .i64 (k : Nat)) ≠ .int .i64 (a : Nat) := by
        intro h
        injection h with _ h
        omega
      rcases ih with ⟨h1, h2⟩ | ⟨i, y', h0, h1, h2, h3⟩
      · refine .inl ⟨by rw [Maps.has_put_other hne, h1], fun safe => ?_⟩
        rw [over_snoc, List.getElem?_set_ne e, h2]
      · refine .inr ⟨i, y', ?_, by rw [Maps.has_put_other hne, h1], fun z => by rw [Maps.atKey_put_other hne, h2], fun safe hs => ?_⟩
        · rw [List.getElem?_append_left (List.getElem?_eq_some_iff.1 h0).1, h0]
        · rw [over_snoc, List.getElem?_set_ne e, h3 safe hs]
end Go.Proofs.YtdidjdoifpfmmaaGreatDoor
/- The program's Read. -/
namespace Go.Proofs.YtdidjdoifpfmmaaGreatDoor
open Go.RowKit
theorem secSize : (Tryz.prog.info? 190).map (·.size) = some 64 := by kernel_rfl
theorem wrSize : (Tryz.prog.info? 192).map (·.size) = some 65 := by kernel_rfl
theorem intKeyed : Maps.Keyed Tryz.prog 3 := Maps.int_keyed Tryz.underlying3
theorem intZero : (Tryz.prog.info? 3).map (fun i => (i.zero, i.size)) = some (some (.int .i64 0), 1) := by kernel_rfl
theorem text_textOf (x : ByteArray) : text (textOf x) = x := by
  obtain ⟨⟨l⟩⟩ := x
  have e : UInt8.ofNat ∘ UInt8.toNat = id := by funext x; simp
  simp [text, textOf, e]
theorem wpList_store_new {P : Program} {ops : Array Oper} {rest : List Oper} {op : Oper} {a : Act} {w : World} {Q : Exit → Act → World → Prop} (hgd : op.guard = none) (t : TypeId) (x y : Operand) (ho : op.op = .store t x y)
    (b : Nat) (c c' : Array Value) (hb : b = w.heap.size) (hx : a.eval x = .pointer (some ⟨b, 0, none⟩)) (hy : a.eval y = .agg c') (hi : (P.info? t).map (·.size) = some c'.size) (hs : c.size = c'.size) (h1 : c'.all (·.oneCell') = true)
    (h : wpList P ops Q rest (a.put op.dst undef) (w.alloc (.cells c' t))) : wpList P ops Q (op :: rest) a (w.alloc (.cells c t)) := by
  subst hb
  refine wpList_plain hgd fun _ hK => ?_
  unfold Oper.wp execOp
  simp only [ho, hx, hy, Sem.run_bind, Sem.run_pure, Result.andThen_ok, run_storeAt_new w t c c' hi hs h1]
  exact hK _ _ h
/-- What the map tells. -/
theorem last_look {w : World} {gm n : Nat} {D : DataW Unit} (h : w.ownsMap Tryz.prog 3 (plainElem Tryz.prog 3) gm n D) (k : Nat) (hk : k ≤ 1000000) :
    ∃ c : Int, (Instr.lookup 78 (.map (some gm)) (.int .i64 (k : Nat)) true).run Tryz.prog w = .ok (.tuple #[.int .i64 c, .bool (Maps.has D (.int .i64 (k : Nat)))]) w ∧ D.atKey (.int .i64 (k : Nat)) (.lit (.int .i64 0)) = .lit (.int .i64 c) := by
  obtain ⟨hz, _⟩ := zero_of_info intZero
  obtain ⟨v, ps, hrun, hv⟩ := h.look_ok (t := 78) (e := 3) intKeyed Tryz.underlying78 (hz w) (plainElem_int Tryz.underlying3 (by decide)) (Maps.keyOf_int_mk Tryz.underlying3 (a := (k : Nat)) (by simp [Lit.wf, IntKind.min, IntKind.max, IntKind.signed, IntKind.bits]; omega))
  obtain ⟨c, rfl, hc, _⟩ := plainElem_int_inv Tryz.underlying3 hv
  exact ⟨c, hrun, congrArg Prod.fst hc⟩
set_option maxRecDepth 100000 in
set_option maxHeartbeats 1600000 in
theorem devRead_none {w : World} {d : DP} {S : Dk} (h : DevAt w d S) (ok : S.Ok) (k : Nat) (hk : k < S.safe.length) (hno : Maps.has (lastD S.wait) (.int .i64 (k : Nat)) = false) :
    Calls Tryz.prog 84 #[.pointer (some ⟨d.p, 0, none⟩), .int .i64 (k : Nat)] w fun e w' =>
      e = .returned (.tuple #[.string S.safe[k], .nilIface]) ∧ DevAt w' d S ∧ Fr w w' [d.p] := by
  have z0 : w.cell? ⟨d.p, 0, none⟩ = some (.int .i32 0) := h.row.cell 0
  have z1 := h.row.frozen 0
  have h1 := h.row.set 0 (.int .i32 1)
  have c2 : (w.setCell ⟨d.p, 0, none⟩ (.int .i32 1)).cell? ⟨d.p, 2, none⟩ = some (.slice (some ⟨d.gs, 0, none⟩) S.safe.length S.safe.length) := h1.cell 2
  have hn := ok.most
  have hh := devHas_any (d := d) (S := S) (lk := 1) h1 ok k
  rw [decide_eq_true (by omega)] at hh
  have hsec := ok.sec
  have hr1 : RowIs (w.setCell ⟨d.p, 0, none⟩ (.int .i32 1)) d.gs 190 (secs S.safe) := h.safe.other _ (by simpa using h.ne.1.symm)
  have hl64 : (bytes (textOf S.safe[k])).length = 64 := sec_length _ (hsec _ (List.getElem_mem hk))
  have hrg := secs_range hr1 hsec k hk
  have hi : (Tryz.prog.info? 190).map (·.size) = some (bytes (textOf S.safe[k])).length := by rw [hl64]; exact secSize
  have hw2 := RowIs.new (w.setCell ⟨d.p, 0, none⟩ (.int .i32 1)) 190 (bytes (textOf S.safe[k]))
  have hB : Below (w.setCell ⟨d.p, 0, none⟩ (.int .i32 1)).heap.size (w.setCell ⟨d.p, 0, none⟩ (.int .i32 1)) ((w.setCell ⟨d.p, 0, none⟩ (.int .i32 1)).alloc (.cells (bytes (textOf S.safe[k])).toArray 190)) := (Below.refl _ _).alloc (Nat.le_refl _) _
  have h2 := h1.below hB h1.lt
  have c4 : ((w.setCell ⟨d.p, 0, none⟩ (.int .i32 1)).alloc (.cells (bytes (textOf S.safe[k])).toArray 190)).cell? ⟨d.p, 4, none⟩ = some (.map (some d.gm)) := h2.cell 4
  have hm2 : ((w.setCell ⟨d.p, 0, none⟩ (.int .i32 1)).alloc (.cells (bytes (textOf S.safe[k])).toArray 190)).ownsMap (H := Unit) Tryz.prog 3 (plainElem Tryz.prog 3) d.gm S.wait.length (lastD S.wait) := (h.last.setCell (by simpa using h.ne.2.1.symm) _).alloc _
  obtain ⟨c, hlook, _⟩ := last_look hm2 k (by omega)
  rw [hno] at hlook
  have hconv := back_any (P := Tryz.prog) 124 9 5 Tryz.underlying124 Tryz.underlying5 Tryz.underlying9 _ _ 64 190 (textOf S.safe[k]) [] (by rw [List.append_nil]; exact hw2) (textOf_lt _)
  rw [text_textOf, show (textOf S.safe[k]).length = 64 by rw [← bytes_length]; exact hl64] at hconv
  have hs0 : (w.setCell ⟨d.p, 0, none⟩ (.int .i32 1)).heap.size = w.heap.size := by simp
  rw [hs0] at hconv
  have hone := bytes_one (textOf S.safe[k])
  have hsz : (bytes (textOf S.safe[k])).toArray.size = 64 := hl64
  have hi2 : (Tryz.prog.info? 190).map (·.size) = some (bytes (textOf S.safe[k])).toArray.size := hi
  have HF : Hid (Fr w (((w.setCell ⟨d.p, 0, none⟩ (.int .i32 1)).alloc (.cells (bytes (textOf S.safe[k])).toArray 190)).setCell ⟨d.p, 0, none⟩ (.int .i32 0)) [d.p]) := (((Fr.refl _ _).setCell _ _ (.inl (by simp))).alloc _).setCell _ _ (.inl (by simp))
  have HD : Hid (DevAt (((w.setCell ⟨d.p, 0, none⟩ (.int .i32 1)).alloc (.cells (bytes (textOf S.safe[k])).toArray 190)).setCell ⟨d.p, 0, none⟩ (.int .i32 0)) d S) := h.turn rfl rfl (h2.set 0 (.int .i32 0)) HF.out
  have H2 : Hid _ := h2
  generalize bytes (textOf S.safe[k]) = C at *
  generalize S.safe[k] = x at *
  clear hw2 hm2 h2 hB
  go_enter_defers Tryz.func84, Tryz.ntmps84
  go_wp2_with (first
    | (go_at_call 57; refine (lock_free ⟨d.p, 0, none⟩ _ z0 z1).mono ?_; rintro e w' ⟨rfl, rfl⟩)
    | (go_at_call 142; refine hh.mono ?_; rintro e w' ⟨rfl, rfl⟩)
    | (refine wpList_load_mid rfl 190 _ rfl d.gs (k * 64) rfl _ _ hrg Tryz.underlying190 rfl hi ?_)
    | (refine wpList_store_new rfl 190 _ _ rfl w.heap.size _ _ (by simp) rfl rfl hi2 (by rw [hsz]; rfl) hone ?_))
  refine leaves_cons (f := 58) (args := #[.pointer (some ⟨d.p, 0, none⟩)]) (by simp) (by simp [go_sem]) ?_
  refine (unlock_deferred ⟨d.p, 0, none⟩ .returning _ (H2.out.cell 0) (H2.out.frozen 0)).mono ?_
  rintro e u' w'' ⟨rfl, rfl, rfl⟩
  exact ⟨_, results_tmp2 rfl _ _ _, rfl, HD.out, HF.out⟩
end Go.Proofs.YtdidjdoifpfmmaaGreatDoor
