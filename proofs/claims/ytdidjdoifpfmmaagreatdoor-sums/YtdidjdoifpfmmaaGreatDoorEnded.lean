import Derived.Test.YtdidjdoifpfmmaaGreatDoorMixed
import Derived.Test.YtdidjdoifpfmmaaGreatDoorCopy
import Derived.Test.YtdidjdoifpfmmaaGreatDoorBlockOne
namespace Go.Proofs.YtdidjdoifpfmmaaGreatDoor
open Go.RowKit

noncomputable def endedCode : Code := Tryz.f185.body.getD .skip
noncomputable def endTail : Code := sndC (sndC (sndC (sndC (sndC endedCode))))
/-- The length, as far as it is laid. -/
def putLen (X : List Nat) (n k : Nat) : List Nat := X.take 56 ++ lenBytes n k ++ X.drop (56 + k)
theorem putLen_len (X : List Nat) (n k : Nat) (h : X.length = 64) (hk : k ≤ 8) : (putLen X n k).length = 64 := by simp [putLen, lenBytes_len]; omega
theorem putLen_zero (X : List Nat) (n : Nat) : putLen X n 0 = X := by simp [putLen, lenBytes]
theorem putLen_step (X : List Nat) (n k : Nat) (h : X.length = 64) (hk : k < 8) : (putLen X n k).set (56 + k) (lenByte n k) = putLen X n (k + 1) := by
  have hl : (X.take 56 ++ lenBytes n k).length = 56 + k := by simp [lenBytes_len]; omega
  unfold putLen
  rw [List.set_append_right _ _ (by omega), hl, Nat.sub_self, List.drop_eq_getElem_cons (show 56 + k < X.length by omega), List.set_cons_zero, lenBytes_succ]
  simp [Nat.add_assoc]
theorem putLen_end (X : List Nat) (n : Nat) (h : X.length = 64) : putLen X n 8 = X.take 56 ++ lenBytes n 8 := by
  unfold putLen
  rw [List.drop_eq_nil_of_le (by omega), List.append_nil]
theorem lenByte_int (n k : Nat) (h : k < 8) : (8 * (n : Int)) / 2 ^ (56 - 8 * k) % 256 = (lenByte n k : Nat) := by
  unfold lenByte
  rw [show 8 * (7 - k) = 56 - 8 * k by omega]
  simp
theorem putLen_lt (X : List Nat) (n k : Nat) (h : ∀ x ∈ X, x < 256) : ∀ x ∈ putLen X n k, x < 256 := by
  intro x hx
  simp only [putLen, List.mem_append] at hx
  rcases hx with (hx | hx) | hx
  · exact h x (List.mem_of_mem_take hx)
  · exact lenBytes_lt _ _ x hx
  · exact h x (List.mem_of_mem_drop hx)

set_option maxHeartbeats 4000000 in
set_option maxRecDepth 1000000 in
theorem ended_tail {x0 x1 x4 x5 x8 x9 x10 x11 x12 x13 x14 x15 x16 x17 x18 x19 x20 x21 x22 x23 x24 x25 x26 x27 x28 x29 x30 x31 x32 x33 x34 x35 x36 : Value} (a b c n : Nat) (_hn : n ≤ 1000000) (X : List Nat) (hX : X.length = 64) (dX : ∀ x ∈ X, x < 256) (s2 : St) (ok2 : s2.Ok) (K : List Nat) (hK : K.length = 64) (dK : ∀ x ∈ K, x < 4294967296) (B : Nat) (w0 w : World)
    (hbB : B ≤ b) (hcB : B ≤ c) (hac : a ≠ c) (hbc : b ≠ c) (ha : RowIs w a 293 (u32s s2.list)) (hb : RowIs w b 293 (u32s (List.replicate 8 0))) (hc : RowIs w c 189 (bytes X)) (hT : TabU w0 14 K) (hg : 14 < B) (hw : Below B w0 w) :
    Code.wp Tryz.prog endTail (bodyPost Tryz.prog Tryz.f185 (fun e w' => e = .returned (.agg (u32s (mix K s2 (putLen X n 8))).toArray) ∧ Below B w0 w')) ⟨#[x0, x1, .int .u64 (8 * (n : Int)), .pointer (some ⟨a, 0, none⟩), x4, x5, .pointer (some ⟨b, 0, none⟩), .pointer (some ⟨c, 0, none⟩), x8, x9, x10, x11, x12, x13, x14, x15, x16, x17, x18, x19, x20, x21, x22, x23, x24, x25, x26, x27, x28, x29, x30, x31, x32, x33, x34, x35, x36], []⟩ w := by
  conv => arg 2; whnf
  rw [← putLen_zero X n] at hc
  go_wp2
  go_loopw [21] (fun i wr => ∃ k : Nat, k ≤ 8 ∧ i = .int .i64 k ∧ RowIs wr a 293 (u32s s2.list) ∧ RowIs wr b 293 (u32s (List.replicate 8 0)) ∧ RowIs wr c 189 (bytes (putLen X n k)) ∧ Below B w0 wr) (fun i _ => 8 - (intOf i).toNat)
  case atStart => exact ⟨0, by omega, rfl, ha, hb, hc, hw⟩
  case round =>
    clear ha hb hc hw
    obtain ⟨k, hk, rfl, ha, hb, hc, hw⟩ := hrel
    by_cases hlt : k < 8
    · have cc := hc.cell (56 + k)
      have fc := hc.frozen (56 + k)
      rw [bytes_get _ _ (by rw [putLen_len X n k hX hk]; omega)] at cc
      have hst : Hid _ := putLen_step X n k hX hlt
      generalize (putLen X n k).getD (56 + k) 0 = old at cc
      have key : Hid (∀ v : Int, v = (lenByte n k : Nat) → RowIs (wr.setCell ⟨c, 56 + k, none⟩ (.int .u8 v)) c 189 (bytes (putLen X n (k + 1)))) := by
        intro v hv
        rw [hv, ← hst.out, ← bytes_set]
        exact hc.set _ _
      have ha2 : Hid (∀ v, RowIs (wr.setCell ⟨c, 56 + k, none⟩ v) a 293 (u32s s2.list)) := fun v => ha.other v hac
      have hb2 : Hid (∀ v, RowIs (wr.setCell ⟨c, 56 + k, none⟩ v) b 293 (u32s (List.replicate 8 0))) := fun v => hb.other v hbc
      have hw2 : Hid (∀ v, Below B w0 (wr.setCell ⟨c, 56 + k, none⟩ v)) := fun v => hw.setCell hcB v
      clear ha hb hc hw
      go_wp2
      exact ⟨⟨k + 1, by omega, by go_num, ha2.out _, hb2.out _, key.out _ (lenByte_int n k hlt), hw2.out _⟩, by simp [intOf]; omega⟩
    · have en : k = 8 := by omega
      have en2 : (k : Int) = 8 := by omega
      rw [en2]
      subst en
      have hl8 := putLen_len X n 8 hX (Nat.le_refl _)
      have hm := mixed_any K hK dK s2 ok2 (putLen X n 8) hl8 (putLen_lt X n 8 dX) wr (hT.below hw hg) (Nat.lt_of_lt_of_le (Nat.lt_of_lt_of_le hg hbB) (Nat.le_of_lt hb.lt))
      have hlM : (mix K s2 (putLen X n 8)).length = 8 := rfl
      obtain ⟨M, HM⟩ : ∃ M, Hid (mix K s2 (putLen X n 8) = M) := ⟨_, rfl⟩
      rw [HM.out] at hm hlM
      have hsz : (Tryz.prog.info? 293).map (·.size) = some (u32s M).toArray.size := by rw [List.size_toArray, u32s_length, hlM]; kernel_rfl
      have hszs : (Tryz.prog.info? 293).map (·.size) = some (u32s s2.list).toArray.size := by rw [List.size_toArray, u32s_length]; kernel_rfl
      have hszc : (Tryz.prog.info? 189).map (·.size) = some (bytes (putLen X n 8)).toArray.size := by rw [List.size_toArray, bytes_length, hl8]; kernel_rfl
      have hz : (u32s (List.replicate 8 0)).toArray.size = (u32s M).toArray.size := by rw [List.size_toArray, List.size_toArray, u32s_length, u32s_length, hlM]; simp
      have hone := u32s_one M
      generalize putLen X n 8 = Y at hc hm hszc
      go_wp2_with (first | (refine wpList_load_row rfl 293 _ rfl a rfl _ _ _ _ ha.heap Tryz.underlying293 rfl hszs ?_) | (refine wpList_load_row rfl 189 _ rfl c rfl _ _ _ _ hc.heap Tryz.underlying189 rfl hszc ?_) | (go_at_call 183; refine hm.mono ?_; rintro e w2 ⟨rfl, hb2⟩; have hbr := hb.below hb2 hb.lt) | (refine wpList_store_row rfl 293 _ _ rfl b _ rfl rfl _ _ hbr.heap hsz hz hone ?_))
      have hB2 : Below B w0 (w2.setRow b (u32s M).toArray) := (hw.trans (hb2.mono (Nat.le_trans hbB (Nat.le_of_lt hb.lt)))).setRow _ hbB
      have hg2 := setRow_heap w2 b _ (u32s M).toArray _ _ hbr.heap
      refine bodyPost_ret (v := .agg (u32s M).toArray) ?_ rfl ⟨by rw [HM.out], hB2⟩
      exact results_cell_row (P := Tryz.prog) Tryz.results185 _ _ b _ _ _ _ rfl hg2 Tryz.underlying293 rfl hsz

/-- What is left of a text, the mark, zeros. -/
def lastOfE (r : List Nat) : List Nat := r ++ [128] ++ List.replicate (63 - r.length) 0
theorem lastOf_len (r : List Nat) (h : r.length < 64) : (lastOfE r).length = 64 := by simp [lastOfE]; omega
theorem lastOf_lt (r : List Nat) (h : ∀ x ∈ r, x < 256) : ∀ x ∈ lastOfE r, x < 256 := by
  intro x hx
  simp only [lastOfE, List.mem_append, List.mem_replicate, List.mem_singleton] at hx
  rcases hx with (hx | hx) | hx
  · exact h x hx
  · omega
  · omega
theorem lastOf_set (r : List Nat) (h : r.length < 64) : (r ++ (List.replicate 64 0).drop r.length).set r.length 128 = lastOfE r := by
  unfold lastOfE
  rw [List.set_append_right _ _ (Nat.le_refl _), Nat.sub_self, List.drop_replicate, show 64 - r.length = (63 - r.length) + 1 by omega, List.replicate_succ, List.set_cons_zero]
  simp
theorem bytes_append (l m : List Nat) : bytes (l ++ m) = bytes l ++ bytes m := by simp [bytes]
theorem bytes_drop (l : List Nat) (n : Nat) : bytes (l.drop n) = (bytes l).drop n := by simp [bytes, List.map_drop]

/-- The state behind the end of a text. -/
def endOf (K : List Nat) (s : St) (r : List Nat) (n : Nat) : List Nat :=
  if r.length < 56 then mix K s (putLen (lastOfE r) n 8) else mix K (ofList (mix K s (lastOfE r))) (putLen (List.replicate 64 0) n 8)

theorem RowIs.setRow {w : World} {g : Nat} {t : TypeId} {vs : List Value} (h : RowIs w g t vs) (us : List Value) : RowIs (w.setRow g us.toArray) g t us := ⟨setRow_heap w g _ _ _ _ h.heap⟩
theorem RowIs.otherRow {w : World} {g g2 : Nat} {t : TypeId} {vs : List Value} (h : RowIs w g t vs) (cs : Array Value) (hne : g ≠ g2) : RowIs (w.setRow g2 cs) g t vs := ⟨by rw [setRow_other w g2 g cs (by omega)]; exact h.heap⟩

set_option maxHeartbeats 4000000 in
set_option maxRecDepth 1000000 in
theorem ended_short (K : List Nat) (hK : K.length = 64) (dK : ∀ x ∈ K, x < 4294967296) (s : St) (ok : s.Ok) (r : ByteArray) (hr : r.size < 56) (n : Nat) (hn : n ≤ 1000000) (w : World) (hT : TabU w 14 K) (hg : 14 < w.heap.size) :
    Calls Tryz.prog 185 #[.agg (u32s s.list).toArray, .string r, .int .u64 (8 * (n : Int))] w fun e w' => e = .returned (.agg (u32s (mix K s (putLen (lastOfE (textOf r)) n 8))).toArray) ∧ Below w.heap.size w w' := by
  have hl := textOf_len r
  go_enter Tryz.func185, Tryz.ntmps185
  refine seq_at ?_
  go_wp2
  show Code.wp _ _ _ _ _
  refine seq_at ?_
  go_wp2
  show Code.wp _ _ _ _ (((w.alloc (.cells (u32s s.list).toArray 293)).alloc (.cells (u32s (List.replicate 8 0)).toArray 293)).alloc (.cells (bytes (List.replicate 64 0)).toArray 189))
  obtain ⟨hb0, h1, h2, h3, hz⟩ := three_rows w 293 293 189 (u32s s.list) (u32s (List.replicate 8 0)) (bytes (List.replicate 64 0))
  generalize (((w.alloc (.cells (u32s s.list).toArray 293)).alloc (.cells (u32s (List.replicate 8 0)).toArray 293)).alloc (.cells (bytes (List.replicate 64 0)).toArray 189)) = W at *
  refine seq_at ?_
  have hcp := run_copy_str (P := Tryz.prog) W 124 9 3 5 (w.heap.size + 1 + 1) 64 64 r.size r _ _ Tryz.underlying124 (by kernel_rfl) h3 (Nat.min_eq_left (by omega)) (by rw [bytes_length]; simp; omega)
  have k1 := h1.otherRow (g2 := w.heap.size + 1 + 1) (bytes ((textOf r).take r.size) ++ (bytes (List.replicate 64 0)).drop r.size).toArray (by omega)
  have k2 := h2.otherRow (g2 := w.heap.size + 1 + 1) (bytes ((textOf r).take r.size) ++ (bytes (List.replicate 64 0)).drop r.size).toArray (by omega)
  have k3 := h3.setRow (bytes ((textOf r).take r.size) ++ (bytes (List.replicate 64 0)).drop r.size)
  have kb := hb0.setRow (g := w.heap.size + 1 + 1) (bytes ((textOf r).take r.size) ++ (bytes (List.replicate 64 0)).drop r.size).toArray (by omega)
  generalize W.setRow (w.heap.size + 1 + 1) (bytes ((textOf r).take r.size) ++ (bytes (List.replicate 64 0)).drop r.size).toArray = W1 at k1 k2 k3 kb hcp
  clear h1 h2 h3 hb0 hz
  go_wp2_with (at_builtin; refine wpList_copy _ rfl _ _ 124 9 rfl _ _ rfl rfl hcp ?_)
  show Code.wp _ _ _ _ _
  clear hcp
  rw [List.take_of_length_le (by omega), ← bytes_drop, ← bytes_append] at k3
  have c3 := k3.cell r.size
  rw [bytes_get _ _ (by simp; omega)] at c3
  have f3 := k3.frozen r.size
  generalize (textOf r ++ List.drop r.size (List.replicate 64 0)).getD r.size 0 = old at c3
  have j1 := k1.other (a := ⟨w.heap.size + 1 + 1, r.size, none⟩) (.int .u8 128) (show w.heap.size ≠ w.heap.size + 1 + 1 by omega)
  have j2 := k2.other (a := ⟨w.heap.size + 1 + 1, r.size, none⟩) (.int .u8 128) (show w.heap.size + 1 ≠ w.heap.size + 1 + 1 by omega)
  have j3 := k3.set r.size (.int .u8 128)
  have jb := kb.setCell (p := ⟨w.heap.size + 1 + 1, r.size, none⟩) (show w.heap.size ≤ w.heap.size + 1 + 1 by omega) (.int .u8 128)
  rw [show (.int .u8 128 : Value) = .int .u8 ((128 : Nat) : Int) from rfl, bytes_set, ← hl, lastOf_set (textOf r) (by omega), hl] at j3
  clear k1 k2 k3 kb
  refine seq_at ?_
  go_wp2
  show Code.wp _ _ _ _ _
  clear c3 f3
  change RowIs (W1.setCell ⟨w.heap.size + 1 + 1, r.size, none⟩ (.int .u8 128)) _ _ _ at j3
  generalize W1.setCell ⟨w.heap.size + 1 + 1, r.size, none⟩ (.int .u8 128) = W2 at j1 j2 j3 jb ⊢
  have dl := lastOf_lt (textOf r) (textOf_lt r)
  have ll := lastOf_len (textOf r) (by omega)
  refine seq_at ?_
  have h56 : ¬ (56 : Int) ≤ (r.size : Int) := by omega
  go_wp2
  show Code.wp _ _ _ _ _
  exact ended_tail w.heap.size (w.heap.size + 1) (w.heap.size + 1 + 1) n hn (lastOfE (textOf r)) ll dl s ok K hK dK w.heap.size w W2 (by omega) (by omega) (by omega) (by omega) j1 j2 j3 hT hg jb

set_option maxHeartbeats 4000000 in
set_option maxRecDepth 1000000 in
theorem ended_long (K : List Nat) (hK : K.length = 64) (dK : ∀ x ∈ K, x < 4294967296) (s : St) (ok : s.Ok) (r : ByteArray) (h56 : 56 ≤ r.size) (hr : r.size < 64) (n : Nat) (hn : n ≤ 1000000) (w : World) (hT : TabU w 14 K) (hg : 14 < w.heap.size) :
    Calls Tryz.prog 185 #[.agg (u32s s.list).toArray, .string r, .int .u64 (8 * (n : Int))] w fun e w' => e = .returned (.agg (u32s (mix K (ofList (mix K s (lastOfE (textOf r)))) (putLen (List.replicate 64 0) n 8))).toArray) ∧ Below w.heap.size w w' := by
  have hl := textOf_len r
  go_enter Tryz.func185, Tryz.ntmps185
  refine seq_at ?_
  go_wp2
  show Code.wp _ _ _ _ _
  refine seq_at ?_
  go_wp2
  show Code.wp _ _ _ _ (((w.alloc (.cells (u32s s.list).toArray 293)).alloc (.cells (u32s (List.replicate 8 0)).toArray 293)).alloc (.cells (bytes (List.replicate 64 0)).toArray 189))
  obtain ⟨hb0, h1, h2, h3, hz⟩ := three_rows w 293 293 189 (u32s s.list) (u32s (List.replicate 8 0)) (bytes (List.replicate 64 0))
  generalize (((w.alloc (.cells (u32s s.list).toArray 293)).alloc (.cells (u32s (List.replicate 8 0)).toArray 293)).alloc (.cells (bytes (List.replicate 64 0)).toArray 189)) = W at *
  refine seq_at ?_
  have hcp := run_copy_str (P := Tryz.prog) W 124 9 3 5 (w.heap.size + 1 + 1) 64 64 r.size r _ _ Tryz.underlying124 (by kernel_rfl) h3 (Nat.min_eq_left (by omega)) (by rw [bytes_length]; simp; omega)
  have k1 := h1.otherRow (g2 := w.heap.size + 1 + 1) (bytes ((textOf r).take r.size) ++ (bytes (List.replicate 64 0)).drop r.size).toArray (by omega)
  have k2 := h2.otherRow (g2 := w.heap.size + 1 + 1) (bytes ((textOf r).take r.size) ++ (bytes (List.replicate 64 0)).drop r.size).toArray (by omega)
  have k3 := h3.setRow (bytes ((textOf r).take r.size) ++ (bytes (List.replicate 64 0)).drop r.size)
  have kb := hb0.setRow (g := w.heap.size + 1 + 1) (bytes ((textOf r).take r.size) ++ (bytes (List.replicate 64 0)).drop r.size).toArray (by omega)
  generalize W.setRow (w.heap.size + 1 + 1) (bytes ((textOf r).take r.size) ++ (bytes (List.replicate 64 0)).drop r.size).toArray = W1 at k1 k2 k3 kb hcp
  clear h1 h2 h3 hb0 hz
  go_wp2_with (at_builtin; refine wpList_copy _ rfl _ _ 124 9 rfl _ _ rfl rfl hcp ?_)
  show Code.wp _ _ _ _ _
  clear hcp
  rw [List.take_of_length_le (by omega), ← bytes_drop, ← bytes_append] at k3
  have c3 := k3.cell r.size
  rw [bytes_get _ _ (by simp; omega)] at c3
  have f3 := k3.frozen r.size
  generalize (textOf r ++ List.drop r.size (List.replicate 64 0)).getD r.size 0 = old at c3
  have j1 := k1.other (a := ⟨w.heap.size + 1 + 1, r.size, none⟩) (.int .u8 128) (show w.heap.size ≠ w.heap.size + 1 + 1 by omega)
  have j2 := k2.other (a := ⟨w.heap.size + 1 + 1, r.size, none⟩) (.int .u8 128) (show w.heap.size + 1 ≠ w.heap.size + 1 + 1 by omega)
  have j3 := k3.set r.size (.int .u8 128)
  have jb := kb.setCell (p := ⟨w.heap.size + 1 + 1, r.size, none⟩) (show w.heap.size ≤ w.heap.size + 1 + 1 by omega) (.int .u8 128)
  rw [show (.int .u8 128 : Value) = .int .u8 ((128 : Nat) : Int) from rfl, bytes_set, ← hl, lastOf_set (textOf r) (by omega), hl] at j3
  clear k1 k2 k3 kb
  refine seq_at ?_
  go_wp2
  show Code.wp _ _ _ _ _
  clear c3 f3
  change RowIs (W1.setCell ⟨w.heap.size + 1 + 1, r.size, none⟩ (.int .u8 128)) _ _ _ at j3
  generalize W1.setCell ⟨w.heap.size + 1 + 1, r.size, none⟩ (.int .u8 128) = W2 at j1 j2 j3 jb ⊢
  have dl := lastOf_lt (textOf r) (textOf_lt r)
  have ll := lastOf_len (textOf r) (by omega)
  refine seq_at ?_
  have h56i : (56 : Int) ≤ (r.size : Int) := by omega
  have hm := mixed_any K hK dK s ok (lastOfE (textOf r)) ll dl W2 (hT.below jb hg) (Nat.lt_of_lt_of_le hg jb.size)
  have hlM : (mix K s (lastOfE (textOf r))).length = 8 := rfl
  have okM := mix_ok K s (lastOfE (textOf r))
  have hML := mix_list K s (lastOfE (textOf r))
  have hszs : (Tryz.prog.info? 293).map (·.size) = some (u32s s.list).toArray.size := by rw [List.size_toArray, u32s_length]; kernel_rfl
  have hszc : (Tryz.prog.info? 189).map (·.size) = some (bytes (lastOfE (textOf r))).toArray.size := by rw [List.size_toArray, bytes_length, ll]; kernel_rfl
  have H3 : Hid _ := j3
  generalize lastOfE (textOf r) = Y at j3 hszc hm hlM okM hML ll ⊢
  generalize mix K s Y = M at hm hlM okM hML ⊢
  have hsz : (Tryz.prog.info? 293).map (·.size) = some (u32s M).toArray.size := by rw [List.size_toArray, u32s_length, hlM]; kernel_rfl
  have hz : (u32s s.list).toArray.size = (u32s M).toArray.size := by rw [List.size_toArray, List.size_toArray, u32s_length, u32s_length, hlM]; rfl
  have hone := u32s_one M
  go_wp2_with (first | (refine wpList_load_row rfl 293 _ rfl w.heap.size rfl _ _ _ _ j1.heap Tryz.underlying293 rfl hszs ?_) | (refine wpList_load_row rfl 189 _ rfl (w.heap.size + 1 + 1) rfl _ _ _ _ j3.heap Tryz.underlying189 rfl hszc ?_) | (go_at_call 183; refine hm.mono ?_; rintro e w2 ⟨rfl, hb2⟩; have i1 := j1.below hb2 j1.lt; have i2 := j2.below hb2 j2.lt; have i3 := j3.below hb2 j3.lt; have ib := jb.trans (hb2.mono jb.size)) | (refine wpList_store_row rfl 293 _ _ rfl w.heap.size _ rfl rfl _ _ i1.heap hsz hz hone ?_; have m1 := i1.setRow (u32s M); have m2 := i2.otherRow (g2 := w.heap.size) (u32s M).toArray (by omega); have m3 := i3.otherRow (g2 := w.heap.size) (u32s M).toArray (by omega); have mb := ib.setRow (g := w.heap.size) (u32s M).toArray (Nat.le_refl _); generalize w2.setRow w.heap.size (u32s M).toArray = W3 at m1 m2 m3 mb ⊢))
  have hclr := run_clear_row (P := Tryz.prog) W3 124 5 0 (.int .u8 0) Tryz.underlying124 (fun _ => by kernel_rfl) rfl rfl (w.heap.size + 1 + 1) 64 64 (by decide) _ _ m3 (by rw [bytes_length]; exact ll)
  have n1 := m1.otherRow (g2 := w.heap.size + 1 + 1) (List.replicate 64 (Value.int .u8 0)).toArray (by omega)
  have n2 := m2.otherRow (g2 := w.heap.size + 1 + 1) (List.replicate 64 (Value.int .u8 0)).toArray (by omega)
  have n3 := m3.setRow (List.replicate 64 (Value.int .u8 0))
  have nb := mb.setRow (g := w.heap.size + 1 + 1) (List.replicate 64 (Value.int .u8 0)).toArray (by omega)
  generalize W3.setRow (w.heap.size + 1 + 1) (List.replicate 64 (Value.int .u8 0)).toArray = W4 at hclr n1 n2 n3 nb
  rw [hclr]
  go_wp2
  show Code.wp _ _ _ _ _
  rw [← hML] at n1
  rw [show List.replicate 64 (Value.int .u8 0) = bytes (List.replicate 64 0) by simp [bytes]] at n3
  exact ended_tail w.heap.size (w.heap.size + 1) (w.heap.size + 1 + 1) n hn (List.replicate 64 0) (by simp) (by intro x hx; rw [List.eq_of_mem_replicate hx]; decide) (ofList M) okM K hK dK w.heap.size w W4 (by omega) (by omega) (by omega) (by omega) n1 n2 n3 hT hg nb

theorem ended_any (K : List Nat) (hK : K.length = 64) (dK : ∀ x ∈ K, x < 4294967296) (s : St) (ok : s.Ok) (r : ByteArray) (hr : r.size < 64) (n : Nat) (hn : n ≤ 1000000) (w : World) (hT : TabU w 14 K) (hg : 14 < w.heap.size) :
    Calls Tryz.prog 185 #[.agg (u32s s.list).toArray, .string r, .int .u64 (8 * (n : Int))] w fun e w' => e = .returned (.agg (u32s (endOf K s (textOf r) n)).toArray) ∧ Below w.heap.size w w' := by
  have hl := textOf_len r
  unfold endOf
  by_cases h : r.size < 56
  · rw [if_pos (by omega)]
    exact ended_short K hK dK s ok r h n hn w hT hg
  · rw [if_neg (by omega)]
    exact ended_long K hK dK s ok r (by omega) hr n hn w hT hg


end Go.Proofs.YtdidjdoifpfmmaaGreatDoor
