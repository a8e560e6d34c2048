import Derived.Test.YtdidjdoifpfmmaaGreatDoorGC1
import Derived.Test.YtdidjdoifpfmmaaGreatDoorGB2
import Derived.Test.YtdidjdoifpfmmaaGreatDoorGA1
import Derived.Test.YtdidjdoifpfmmaaGreatDoorTail
namespace Go.Proofs.YtdidjdoifpfmmaaGreatDoor
open Go.RowKit

theorem u8Info2 : (Tryz.prog.info? 5).map (fun i => (i.zero, i.size, i.bytes)) = some (some (.int .u8 0), 1, 1) := by kernel_rfl
theorem strInfo : (Tryz.prog.info? 9).map (fun i => (i.zero, i.size, i.bytes)) = some (some (.string ByteArray.empty), 1, 16) := by kernel_rfl
theorem madeBytes (n : Nat) : madeCells (Value.int .u8 0).cells n = (bytes (List.replicate n 0)).toArray := by
  apply Array.ext
  · simp [madeCells, bytes]
  · intro i h1 h2
    simp [madeCells, bytes, Value.cells, Nat.mod_one]
theorem makeBytes (w : World) (n : Nat) (hn : n ≤ 4194304) : (Instr.makeSlice 124 (.int .i64 (n : Int)) (.int .i64 (n : Int))).run Tryz.prog w
    = .ok (.slice (some ⟨w.heap.size, 0, none⟩) n n) (w.alloc (.cells (bytes (List.replicate n 0)).toArray 5)) := by
  obtain ⟨i0, hi, hz0, hz1, hz2⟩ := info_parts u8Info2
  have h := run_make (P := Tryz.prog) w 124 5 i0 (.int .u8 0) Tryz.underlying124 hi hz0 .i64 .i64 n n (by omega) (by omega) (by rw [hz2]; omega) (by omega)
  rw [hz1, Nat.mul_one, Int.toNat_natCast, madeBytes] at h
  exact h

/-- A sector of zeros. -/
def zero64 : ByteArray := text (List.replicate 64 0)
theorem zero64_size : zero64.size = 64 := by decide +kernel
/-- So that no step writes them out. -/
def zeroBytes : List Nat := List.replicate 64 0

set_option maxHeartbeats 1000000 in
theorem zeros_any (w : World) :
    Calls Tryz.prog 113 #[.int .i64 64] w fun e w' => e = .returned (.string zero64) ∧ Below w.heap.size w w' := by
  have hmk : (Instr.makeSlice 124 (.int .i64 64) (.int .i64 64)).run Tryz.prog w = .ok (.slice (some ⟨w.heap.size, 0, none⟩) 64 64) (w.alloc (.cells (bytes zeroBytes).toArray 5)) := makeBytes w 64 (by decide)
  have hb : Below w.heap.size w (w.alloc (.cells (bytes zeroBytes).toArray 5)) := (Below.refl _ _).alloc (Nat.le_refl _) _
  have hr : RowIs (w.alloc (.cells (bytes zeroBytes).toArray 5)) w.heap.size 5 (bytes zeroBytes ++ []) := by rw [List.append_nil]; exact RowIs.new _ _ _
  have hcv := back_any (P := Tryz.prog) 124 9 5 Tryz.underlying124 Tryz.underlying5 Tryz.underlying9 _ w.heap.size 64 _ zeroBytes [] hr (by intro x hx; rw [List.eq_of_mem_replicate hx]; decide)
  have hl : zeroBytes.length = 64 := by simp [zeroBytes]
  rw [hl, show text zeroBytes = zero64 from rfl] at hcv
  generalize w.alloc (.cells (bytes zeroBytes).toArray 5) = W at hmk hb hcv
  generalize zero64 = z at hcv ⊢
  clear hr hl
  go_enter Tryz.func113, Tryz.ntmps113
  go_wp2
  go_ret
  exact ⟨rfl, hb⟩

/-- One string more in a row of the disk's. -/
theorem one_new (W : World) (t : TypeId) (a : Value) : ∀ j u, [a][j]? = some u → (W.alloc (.cells #[a] t)).cell? ((⟨W.heap.size, 0, none⟩ : Addr).add j) = some u := by
  intro j u hu
  have hadd : (⟨W.heap.size, 0, none⟩ : Addr).add j = ⟨W.heap.size, j, none⟩ := by unfold Addr.add; split <;> simp_all
  rw [hadd]
  have h := (RowIs.new W t [a]).cell j
  rw [← hu]
  exact h
/-- The document's disk, as far as it is made. -/
structure Making (w wr : World) (q : Nat) (z : ByteArray) (j k : Nat) (sv ev : Value) : Prop where
  row : RowIs wr q 139 [sv, ev, .slice none 0 0, .int .i64 0, .bool false, .bool false]
  safe : wr.ownsRow w.heap.size 9 1 sv j (strs (List.replicate j z))
  seen : wr.ownsRow w.heap.size 9 1 ev k (strs (List.replicate k z))
  ns : ∀ g, sv.ownBlock = some g → g ≠ q ∧ ev.ownBlock ≠ some g
  ne : ∀ g, ev.ownBlock = some g → g ≠ q
  below : Below w.heap.size w wr
  hq : w.heap.size ≤ q


theorem strs_rep (z : ByteArray) (j : Nat) : strs (List.replicate j z) ++ [.string z] = strs (List.replicate (j + 1) z) := by
  rw [strs_snoc, List.replicate_succ']
theorem Making.more {w wr w3 : World} {q : Nat} {z : ByteArray} {j k g cap : Nat} {sv ev : Value} (h : Making w wr q z j k sv ev)
    (hown : w3.ownsRow w.heap.size 9 1 (.slice (some ⟨g, 0, none⟩) (j + 1) cap) (j + 1) (strs (List.replicate j z) ++ [.string z]))
    (hgrow : (wr.alloc (.cells #[.string z] 9)).grownBy w3 sv.ownBlock) (hat : sv.ownBlock = some g ∨ g = (wr.alloc (.cells #[.string z] 9)).heap.size) :
    Making w (w3.setCell ⟨q, 0, none⟩ (.slice (some ⟨g, 0, none⟩) (j + 1) cap)) q z (j + 1) k (.slice (some ⟨g, 0, none⟩) (j + 1) cap) ev := by
  have hsz : (wr.alloc (.cells #[.string z] 9)).heap.size = wr.heap.size + 1 := by simp
  have lq := h.row.lt
  have hgq : g ≠ q := by
    rcases hat with hat | hat
    · exact (h.ns g hat).1
    · rw [hsz] at hat; omega
  have heg : ev.ownBlock ≠ some g := by
    rcases hat with hat | hat
    · exact (h.ns g hat).2
    · intro e
      have := (h.seen.lt g e).2
      rw [hsz] at hat; omega
  have b0 : RowIs w3 q 139 [sv, ev, .slice none 0 0, .int .i64 0, .bool false, .bool false] := ⟨(hgrow.block q (by omega) (by intro e; exact (h.ns _ e.symm).1 rfl)).trans ((h.row.below ((Below.refl _ _).alloc (Nat.le_refl _) (.cells #[.string z] 9)) lq).heap)⟩
  refine ⟨b0.set 0 _, ?_, ?_, ?_, h.ne, ?_, h.hq⟩
  · rw [← strs_rep]
    refine hown.kept (row := some q) ⟨rfl, rfl, rfl, by simp [World.setCell], fun k _ hk => Below.heap_setCell _ _ _ _ (fun e => hk (by rw [e]))⟩ (.inr (by simp [Value.ownBlock]; exact hgq))
  · refine ((h.seen.alloc (.cells #[.string z] 9)).kept hgrow ?_).kept (row := some q) ⟨rfl, rfl, rfl, by simp [World.setCell], fun k _ hk => Below.heap_setCell _ _ _ _ (fun e => hk (by rw [e]))⟩ ?_
    · cases hv : ev.ownBlock with
      | none => exact .inl rfl
      | some b => exact .inr (fun e => (h.ns b e.symm).2 hv)
    · cases hv : ev.ownBlock with
      | none => exact .inl rfl
      | some b => exact .inr (fun e => h.ne b hv (by simpa using e))
  · intro b hb
    simp [Value.ownBlock] at hb
    subst hb
    exact ⟨hgq, heg⟩
  · exact ((h.below.alloc h.below.size _).grown hgrow (by have := h.below.size; simp; omega) (fun r hr => (h.safe.lt r hr).1)).setCell h.hq _
theorem Making.more2 {w wr w3 : World} {q : Nat} {z : ByteArray} {j k g cap : Nat} {sv ev : Value} (h : Making w wr q z j k sv ev)
    (hown : w3.ownsRow w.heap.size 9 1 (.slice (some ⟨g, 0, none⟩) (k + 1) cap) (k + 1) (strs (List.replicate k z) ++ [.string z]))
    (hgrow : (wr.alloc (.cells #[.string z] 9)).grownBy w3 ev.ownBlock) (hat : ev.ownBlock = some g ∨ g = (wr.alloc (.cells #[.string z] 9)).heap.size) :
    Making w (w3.setCell ⟨q, 1, none⟩ (.slice (some ⟨g, 0, none⟩) (k + 1) cap)) q z j (k + 1) sv (.slice (some ⟨g, 0, none⟩) (k + 1) cap) := by
  have hsz : (wr.alloc (.cells #[.string z] 9)).heap.size = wr.heap.size + 1 := by simp
  have lq := h.row.lt
  have hgq : g ≠ q := by
    rcases hat with hat | hat
    · exact h.ne g hat
    · rw [hsz] at hat; omega
  have heg : sv.ownBlock ≠ some g := by
    rcases hat with hat | hat
    · intro e; exact (h.ns g e).2 hat
    · intro e
      have := (h.safe.lt g e).2
      rw [hsz] at hat; omega
  have b0 : RowIs w3 q 139 [sv, ev, .slice none 0 0, .int .i64 0, .bool false, .bool false] := ⟨(hgrow.block q (by omega) (by intro e; exact h.ne _ e.symm rfl)).trans ((h.row.below ((Below.refl _ _).alloc (Nat.le_refl _) (.cells #[.string z] 9)) lq).heap)⟩
  refine ⟨b0.set 1 _, ?_, ?_, ?_, ?_, ?_, h.hq⟩
  · refine ((h.safe.alloc (.cells #[.string z] 9)).kept hgrow ?_).kept (row := some q) ⟨rfl, rfl, rfl, by simp [World.setCell], fun k _ hk => Below.heap_setCell _ _ _ _ (fun e => hk (by rw [e]))⟩ ?_
    · cases hv : sv.ownBlock with
      | none => exact .inl rfl
      | some b => exact .inr (fun e => (h.ns b hv).2 e.symm)
    · cases hv : sv.ownBlock with
      | none => exact .inl rfl
      | some b => exact .inr (fun e => (h.ns b hv).1 (by simpa using e))
  · rw [← strs_rep]
    refine hown.kept (row := some q) ⟨rfl, rfl, rfl, by simp [World.setCell], fun k _ hk => Below.heap_setCell _ _ _ _ (fun e => hk (by rw [e]))⟩ (.inr (by simp [Value.ownBlock]; exact hgq))
  · intro b hb
    refine ⟨(h.ns b hb).1, ?_⟩
    intro e
    simp [Value.ownBlock] at e
    subst e
    exact heg hb
  · intro b hb
    simp [Value.ownBlock] at hb
    subst hb
    exact hgq
  · exact ((h.below.alloc h.below.size _).grown hgrow (by have := h.below.size; simp; omega) (fun r hr => (h.seen.lt r hr).1)).setCell h.hq _

noncomputable def newLoop : Code := fstC (sndC (sndC (sndC (sndC (sndC (Tryz.f69.body.getD .skip))))))
set_option maxHeartbeats 4000000 in
set_option maxRecDepth 1000000 in
theorem newLoop_any {x1 x2 x5 x6 x7 x8 x9 x10 x11 x12 x13 x14 x15 x16 x17 x18 x19 x20 x21 x22 x23 x24 x25 x26 x27 x28 x29 x30 x31 x32 x33 x34 x35 x36 x37 x38 : Value} (m q : Nat) (z : ByteArray) (w0 : World) (w : World) (Q : Exit → Act → World → Prop)
    (hm : m ≤ 4096) (h0 : Making w0 w q z 0 0 (.slice none 0 0) (.slice none 0 0))
    (hQ : Hid (∀ (y5 y13 y14 y15 y16 y17 y18 y19 y20 y21 y22 y23 y24 y25 y26 y27 y28 y29 y30 y31 y32 y33 y34 y35 y36 y37 : Value) (w' : World), (∃ sv ev, Making w0 w' q z m m sv ev) → Q .normal ⟨#[.int .i64 (m : Nat), x1, x2, .pointer (some ⟨q, 0, none⟩), .string z, y5, x6, x7, x8, x9, x10, x11, x12, y13, y14, y15, y16, y17, y18, y19, y20, y21, y22, y23, y24, y25, y26, y27, y28, y29, y30, y31, y32, y33, y34, y35, y36, y37, x38], []⟩ w')) :
    Code.wp Tryz.prog newLoop Q ⟨#[.int .i64 (m : Nat), x1, x2, .pointer (some ⟨q, 0, none⟩), .string z, x5, x6, x7, x8, x9, x10, x11, x12, x13, x14, x15, x16, x17, x18, x19, x20, x21, x22, x23, x24, x25, x26, x27, x28, x29, x30, x31, x32, x33, x34, x35, x36, x37, x38], []⟩ w := by
  conv => arg 2; whnf
  obtain ⟨i0, hi, hz0, hz1, hz2⟩ := info_parts strInfo
  refine seq_at ?_
  go_wp2
  show Code.wp _ _ _ _ _
  refine wp_block ?_
  go_loopw [5] (fun i wr => ∃ j : Nat, j ≤ m ∧ i = .int .i64 j ∧ ∃ sv ev, Making w0 wr q z j j sv ev) (fun i _ => m - (intOf i).toNat)
  case atStart => exact ⟨0, Nat.zero_le _, rfl, _, _, h0⟩
  case round =>
    clear h0
    obtain ⟨j, hj, rfl, sv, ev, hM⟩ := hrel
    by_cases hlt : j < m
    · have c0 : wr.cell? ⟨q, 0, none⟩ = some sv := hM.row.cell 0
      have hS := hM.safe
      have hBl := hM.below
      go_upto_region 11 with (at_builtin; refine wpList_append_lies _ rfl _ _ 35 rfl w0.heap.size 9 i0 (.string ByteArray.empty) 1 16 Tryz.underlying35 hi hz0 hz1 hz2 rfl (by decide) _ _ _ rfl (hS.alloc _) ⟨wr.heap.size, 0, none⟩ 1 1 [.string z] rfl rfl (one_new _ _ _) (by intro u hu; simp at hu; subst hu; rfl) (by decide) (by unfold maxLen; omega) (by omega) (by have := hBl.size; simp; omega) _ rfl ?_; intro g cap w3 hown hgrow hat hlt; have b0 : RowIs w3 q 139 _ := ⟨(hgrow.block q (by have := hM.row.lt; simp; omega) (by intro e; exact (hM.ns _ e.symm).1 rfl)).trans ((hM.row.below ((Below.refl _ _).alloc (Nat.le_refl _) (.cells #[.string z] 9)) hM.row.lt).heap)⟩; have e4 : w3.cell? ⟨q, 0, none⟩ = some sv := b0.cell 0; have f4 := b0.frozen 0)
      have hN := hM.more hown hgrow hat
      generalize w3.setCell ⟨q, 0, none⟩ (.slice (some ⟨g, 0, none⟩) (j + 1) cap) = w4 at hN ⊢
      clear hM c0 hS hBl hown hgrow hat hlt b0 e4 f4
      have c1 : w4.cell? ⟨q, 1, none⟩ = some ev := hN.row.cell 1
      have hS := hN.seen
      have hBl := hN.below
      go_wp2_with (at_builtin; refine wpList_append_lies _ rfl _ _ 35 rfl w0.heap.size 9 i0 (.string ByteArray.empty) 1 16 Tryz.underlying35 hi hz0 hz1 hz2 rfl (by decide) _ _ _ rfl (hS.alloc _) ⟨w4.heap.size, 0, none⟩ 1 1 [.string z] rfl rfl (one_new _ _ _) (by intro u hu; simp at hu; subst hu; rfl) (by decide) (by unfold maxLen; omega) (by omega) (by have := hBl.size; simp; omega) _ rfl ?_; intro g cap w3 hown hgrow hat hlt; have b0 : RowIs w3 q 139 _ := ⟨(hgrow.block q (by have := hN.row.lt; simp; omega) (by intro e; exact hN.ne _ e.symm rfl)).trans ((hN.row.below ((Below.refl _ _).alloc (Nat.le_refl _) (.cells #[.string z] 9)) hN.row.lt).heap)⟩; have e4 : w3.cell? ⟨q, 1, none⟩ = some ev := b0.cell 1; have f4 := b0.frozen 1)
      have hN2 := hN.more2 hown hgrow hat
      go_roundw
      case rel => exact ⟨j + 1, by omega, by go_num, _, _, hN2⟩
      case measure => simp [intOf]; omega
    · have ej : j = m := by omega
      subst ej
      go_wp2
      exact hQ.out _ _ _ _ _ _ _ _ _ _ _ _ _ _ _ _ _ _ _ _ _ _ _ _ _ _ _ ⟨_, _, hM⟩

theorem owns_base {w : World} {base : Nat} {e : TypeId} {size n : Nat} {v : Value} {xs : List Value} (h : w.ownsRow base e size v n xs) : w.ownsRow 0 e size v n xs := by
  refine ⟨h.1, ?_⟩
  rcases h.2 with h | ⟨g, cap, cur, a, _, r⟩
  · exact .inl h
  · exact .inr ⟨g, cap, cur, a, Nat.zero_le _, r⟩
/-- The disk is made. -/
theorem making_done {w wr : World} {q : Nat} {z : ByteArray} {sv ev : Value} (m : Nat) (hm : 0 < m) (_hm2 : m ≤ 4096) (h : Making w wr q z m m sv ev) :
    ∃ r : RD, r.q = q ∧ RefAt wr r ⟨List.replicate m z, [], 0, false⟩ 0 false ∧ (∀ b ∈ r.blocks, w.heap.size ≤ b) := by
  obtain ⟨gS, cS, rfl, hS1, hS2⟩ := h.safe.form hm
  obtain ⟨gE, cE, rfl, hE1, hE2⟩ := h.seen.form hm
  have oS := has_of_owns (owns_base h.safe)
  have oE := has_of_owns (owns_base h.seen)
  have n1 := h.ns gS rfl
  have n2 := h.ne gE rfl
  have n3 : gE ≠ gS := fun e => n1.2 (by rw [← e]; rfl)
  refine ⟨⟨q, gS, cS, gE, cE, .slice none 0 0⟩, rfl, ⟨?_, oS.1, oE.1, World.ownsRow_nil _ _ _ _, ?_, ⟨oS.2.2, oE.2.2⟩, fun _ => ⟨rfl, fun h => absurd h (Nat.lt_irrefl 0)⟩, by omega⟩, ?_⟩
  · show RowIs wr q _ [.slice (some ⟨gS, 0, none⟩) (List.replicate m z).length cS, .slice (some ⟨gE, 0, none⟩) (List.replicate m z).length cE, _, _, _, _]
    rw [List.length_replicate]; exact h.row
  · show (q :: gS :: gE :: []).Nodup
    simp only [List.nodup_cons, List.mem_cons, List.not_mem_nil, or_false, not_or, not_false_eq_true, List.nodup_nil, and_true]
    exact ⟨⟨n1.1.symm, n2.symm⟩, n3.symm⟩
  · intro b hb
    have hb' : b ∈ (q :: gS :: gE :: []) := hb
    simp only [List.mem_cons, List.not_mem_nil, or_false] at hb'
    rcases hb' with rfl | rfl | rfl
    · exact h.hq
    · exact hS1
    · exact hE1

/-- A new disk of the document's. -/
def NewRef (w w' : World) (n : Int) (e : Ending) (z : ByteArray) : Prop := ∃ m r, m = (max 1 (min n 4096)).toNat ∧ e = .returned (.pointer (some ⟨RD.q r, 0, none⟩)) ∧ RefAt w' r ⟨List.replicate m z, [], 0, false⟩ 0 false ∧ (∀ b ∈ r.blocks, w.heap.size ≤ b) ∧ Below w.heap.size w w'

set_option maxRecDepth 100000 in
set_option maxHeartbeats 2000000 in
theorem refNew_any (n : Int) (w : World) :
    Calls Tryz.prog 69 #[.int .i64 n] w fun e w' => NewRef w w' n e zero64 := by
  have hZ := fun w => zeros_any w
  generalize hz64 : zero64 = z at hZ ⊢
  have HZ : Hid _ := hZ
  clear hZ hz64
  by_cases h1 : n < 1
  · have h2 : ¬ (4096 : Int) < 1 := by omega
    have hmN : Hid (1 = (max 1 (min n 4096)).toNat) := by show _ = _; omega
    go_enter Tryz.func69, Tryz.ntmps69
    refine seq_at ?_
    go_wp2
    show Code.wp _ _ _ _ _
    refine seq_at ?_
    go_wp2
    show Code.wp _ _ _ _ _
    refine seq_at ?_
    go_wp2
    show Code.wp _ _ _ _ _
    refine seq_at ?_
    go_wp2
    show Code.wp _ _ _ _ (w.alloc (.cells ([Value.slice none 0 0, Value.slice none 0 0, Value.slice none 0 0, Value.int .i64 0, Value.bool false, Value.bool false] : List Value).toArray 139))
    have r0 := RowIs.new w 139 [Value.slice none 0 0, Value.slice none 0 0, Value.slice none 0 0, Value.int .i64 0, Value.bool false, Value.bool false]
    have b0 : Below w.heap.size w (w.alloc (.cells ([Value.slice none 0 0, Value.slice none 0 0, Value.slice none 0 0, Value.int .i64 0, Value.bool false, Value.bool false] : List Value).toArray 139)) := (Below.refl _ _).alloc (Nat.le_refl _) _
    generalize w.alloc (.cells ([Value.slice none 0 0, Value.slice none 0 0, Value.slice none 0 0, Value.int .i64 0, Value.bool false, Value.bool false] : List Value).toArray 139) = WA at r0 b0 ⊢
    refine seq_at ?_
    go_wp2_with (go_at_call 113; refine (HZ.out _).mono ?_; rintro e w1 ⟨rfl, hb1⟩)
    show Code.wp _ _ _ _ _
    have r1 := r0.below hb1 r0.lt
    have b1 := b0.trans (hb1.mono b0.size)
    refine seq_at (wp_at (newLoop_any 1 w.heap.size z w w1 _ (by omega) ⟨r1, World.ownsRow_nil _ _ _ _, World.ownsRow_nil _ _ _ _, by simp [Value.ownBlock], by simp [Value.ownBlock], b1, Nat.le_refl _⟩ ?_))
    refine fun y5 y13 y14 y15 y16 y17 y18 y19 y20 y21 y22 y23 y24 y25 y26 y27 y28 y29 y30 y31 y32 y33 y34 y35 y36 y37 w2 hX => ?_
    obtain ⟨sv, ev, hX⟩ := hX
    have HF : Hid _ := making_done 1 (by omega) (by omega) hX
    show Code.wp _ _ _ _ _
    go_wp2
    go_ret
    obtain ⟨r, hq, hr, hbl⟩ := HF.out
    exact ⟨1, r, hmN.out, by rw [hq]; rfl, hr, hbl, hX.below⟩
  · by_cases h2 : 4096 < n
    · have hmN : Hid (4096 = (max 1 (min n 4096)).toNat) := by show _ = _; omega
      go_enter Tryz.func69, Tryz.ntmps69
      refine seq_at ?_
      go_wp2
      show Code.wp _ _ _ _ _
      refine seq_at ?_
      go_wp2
      show Code.wp _ _ _ _ _
      refine seq_at ?_
      go_wp2
      show Code.wp _ _ _ _ _
      refine seq_at ?_
      go_wp2
      show Code.wp _ _ _ _ (w.alloc (.cells ([Value.slice none 0 0, Value.slice none 0 0, Value.slice none 0 0, Value.int .i64 0, Value.bool false, Value.bool false] : List Value).toArray 139))
      have r0 := RowIs.new w 139 [Value.slice none 0 0, Value.slice none 0 0, Value.slice none 0 0, Value.int .i64 0, Value.bool false, Value.bool false]
      have b0 : Below w.heap.size w (w.alloc (.cells ([Value.slice none 0 0, Value.slice none 0 0, Value.slice none 0 0, Value.int .i64 0, Value.bool false, Value.bool false] : List Value).toArray 139)) := (Below.refl _ _).alloc (Nat.le_refl _) _
      generalize w.alloc (.cells ([Value.slice none 0 0, Value.slice none 0 0, Value.slice none 0 0, Value.int .i64 0, Value.bool false, Value.bool false] : List Value).toArray 139) = WA at r0 b0 ⊢
      refine seq_at ?_
      go_wp2_with (go_at_call 113; refine (HZ.out _).mono ?_; rintro e w1 ⟨rfl, hb1⟩)
      show Code.wp _ _ _ _ _
      have r1 := r0.below hb1 r0.lt
      have b1 := b0.trans (hb1.mono b0.size)
      refine seq_at (wp_at (newLoop_any 4096 w.heap.size z w w1 _ (by omega) ⟨r1, World.ownsRow_nil _ _ _ _, World.ownsRow_nil _ _ _ _, by simp [Value.ownBlock], by simp [Value.ownBlock], b1, Nat.le_refl _⟩ ?_))
      refine fun y5 y13 y14 y15 y16 y17 y18 y19 y20 y21 y22 y23 y24 y25 y26 y27 y28 y29 y30 y31 y32 y33 y34 y35 y36 y37 w2 hX => ?_
      obtain ⟨sv, ev, hX⟩ := hX
      have HF : Hid _ := making_done 4096 (by omega) (by omega) hX
      show Code.wp _ _ _ _ _
      go_wp2
      go_ret
      obtain ⟨r, hq, hr, hbl⟩ := HF.out
      exact ⟨4096, r, hmN.out, by rw [hq]; rfl, hr, hbl, hX.below⟩
    · obtain ⟨k, rfl⟩ := Int.eq_ofNat_of_zero_le (show 0 ≤ n by omega)
      have hmN : Hid (k = (max 1 (min (k : Int) 4096)).toNat) := by show _ = _; omega
      go_enter Tryz.func69, Tryz.ntmps69
      refine seq_at ?_
      go_wp2
      show Code.wp _ _ _ _ _
      refine seq_at ?_
      go_wp2
      show Code.wp _ _ _ _ _
      refine seq_at ?_
      go_wp2
      show Code.wp _ _ _ _ _
      refine seq_at ?_
      go_wp2
      show Code.wp _ _ _ _ (w.alloc (.cells ([Value.slice none 0 0, Value.slice none 0 0, Value.slice none 0 0, Value.int .i64 0, Value.bool false, Value.bool false] : List Value).toArray 139))
      have r0 := RowIs.new w 139 [Value.slice none 0 0, Value.slice none 0 0, Value.slice none 0 0, Value.int .i64 0, Value.bool false, Value.bool false]
      have b0 : Below w.heap.size w (w.alloc (.cells ([Value.slice none 0 0, Value.slice none 0 0, Value.slice none 0 0, Value.int .i64 0, Value.bool false, Value.bool false] : List Value).toArray 139)) := (Below.refl _ _).alloc (Nat.le_refl _) _
      generalize w.alloc (.cells ([Value.slice none 0 0, Value.slice none 0 0, Value.slice none 0 0, Value.int .i64 0, Value.bool false, Value.bool false] : List Value).toArray 139) = WA at r0 b0 ⊢
      refine seq_at ?_
      go_wp2_with (go_at_call 113; refine (HZ.out _).mono ?_; rintro e w1 ⟨rfl, hb1⟩)
      show Code.wp _ _ _ _ _
      have r1 := r0.below hb1 r0.lt
      have b1 := b0.trans (hb1.mono b0.size)
      refine seq_at (wp_at (newLoop_any k w.heap.size z w w1 _ (by omega) ⟨r1, World.ownsRow_nil _ _ _ _, World.ownsRow_nil _ _ _ _, by simp [Value.ownBlock], by simp [Value.ownBlock], b1, Nat.le_refl _⟩ ?_))
      refine fun y5 y13 y14 y15 y16 y17 y18 y19 y20 y21 y22 y23 y24 y25 y26 y27 y28 y29 y30 y31 y32 y33 y34 y35 y36 y37 w2 hX => ?_
      obtain ⟨sv, ev, hX⟩ := hX
      have HF : Hid _ := making_done k (by omega) (by omega) hX
      show Code.wp _ _ _ _ _
      go_wp2
      go_ret
      obtain ⟨r, hq, hr, hbl⟩ := HF.out
      exact ⟨k, r, hmN.out, by rw [hq]; rfl, hr, hbl, hX.below⟩
end Go.Proofs.YtdidjdoifpfmmaaGreatDoor
