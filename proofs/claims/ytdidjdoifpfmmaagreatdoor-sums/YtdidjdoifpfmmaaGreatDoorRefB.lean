import Derived.Test.YtdidjdoifpfmmaaGreatDoorBlock
import Derived.Test.YtdidjdoifpfmmaaGreatDoorFour
import Derived.Test.YtdidjdoifpfmmaaGreatDoorMRow
import Derived.Test.YtdidjdoifpfmmaaGreatDoorPrimes
namespace Go.Proofs.YtdidjdoifpfmmaaGreatDoor
open Go.RowKit

theorem u8InfoR : (Tryz.prog.info? 5).map (fun i => (i.zero, i.size, i.bytes)) = some (some (.int .u8 0), 1, 1) := by kernel_rfl
theorem bytes_app (l m : List Nat) : bytes (l ++ m) = bytes l ++ bytes m := by simp [bytes]
theorem bytes_snoc (l : List Nat) (x : Nat) : bytes l ++ [.int .u8 (x : Int)] = bytes (l ++ [x]) := by simp [bytes]
theorem bytes_textOf (t : ByteArray) : t.data.toList.map (fun b => Value.int .u8 (b.toNat : Int)) = bytes (textOf t) := by
  simp [bytes, textOf]
/-- A text, the mark, zeros. -/
def padA (T : List Nat) (k : Nat) : List Nat := T ++ [128] ++ List.replicate k 0
theorem padA_len (T : List Nat) (k : Nat) : (padA T k).length = T.length + 1 + k := by simp [padA]; omega
theorem padA_step (T : List Nat) (k : Nat) : padA T k ++ [0] = padA T (k + 1) := by
  simp [padA, List.replicate_succ']
theorem pad_of (T : List Nat) : padA T (zerosOf T.length) ++ lenBytes T.length 8 = pad T := rfl

theorem ownsM_block {w : World} {base : Nat} {e : TypeId} {v : Value} {xs : List Value} (h : OwnsM w base e v xs) {r : Nat} (hr : v.ownBlock = some r) : base ≤ r := by
  obtain ⟨g, cap, cur, fz, rfl, hb, _⟩ := h
  simp [Value.ownBlock] at hr
  omega
theorem lenByte_int2 (n k : Nat) : (8 * (n : Int)) / 2 ^ (8 * (7 - k)) % 256 = (lenByte n k : Nat) := by
  unfold lenByte
  simp
noncomputable def sumCode : Code := Tryz.f66.body.getD .skip
noncomputable def sumRest : Code := sndC (sndC (sndC sumCode))
noncomputable def sumB : Code := fstC sumRest
noncomputable def sumC : Code := fstC (sndC (sndC sumRest))
noncomputable def sumD : Code := fstC (sndC (sndC (sndC (sndC sumRest))))

theorem grown_trans {w w1 w2 : World} {r : Option Nat} (h1 : w.grownBy w1 r) (h2 : w1.grownBy w2 r) : w.grownBy w2 r :=
  ⟨h2.os.trans h1.os, h2.tape.trans h1.tape, h2.output.trans h1.output, Nat.le_trans h1.size h2.size, fun k hk hr => (h2.block k (Nat.lt_of_lt_of_le hk h1.size) hr).trans (h1.block k hk hr)⟩
theorem MakerAt.grown {w w' : World} {p gk gh ck ch g : Nat} {K H : List Nat} (m : MakerAt w p gk gh ck ch K H) (hg : w.grownBy w' (some g)) (h1 : p ≠ g) (h2 : gk ≠ g) (h3 : gh ≠ g) : MakerAt w' p gk gh ck ch K H where
  k := by rw [World.cell?_of_block (hg.block p (lt_of_cell m.k) (by simpa using h1))]; exact m.k
  h := by rw [World.cell?_of_block (hg.block p (lt_of_cell m.h) (by simpa using h1))]; exact m.h
  ks j hj := by rw [World.cell?_of_block (hg.block gk (lt_of_cell (m.ks j hj)) (by simpa using h2))]; exact m.ks j hj
  hs j hj := by rw [World.cell?_of_block (hg.block gh (lt_of_cell (m.hs j hj)) (by simpa using h3))]; exact m.hs j hj


set_option maxHeartbeats 4000000 in
set_option maxRecDepth 1000000 in
theorem sumB_any {x0 x2 x3 x4 x6 x7 x8 x9 x10 x11 x12 x13 x14 x15 x16 x17 x18 x19 x20 x21 x22 x23 x24 x25 x26 x27 x28 x29 x30 x31 x32 x33 x34 x35 x36 x37 x38 x39 x40 x41 x42 x43 x44 x45 x46 x47 x48 x49 x50 x51 x52 x53 x54 x55 x56 x57 x58 x59 x60 x61 x62 x63 x64 x65 x66 x67 x68 x69 : Value} (t : ByteArray) (g cap B : Nat) (w : World) (Q : Exit → Act → World → Prop)
    (ht : t.size ≤ 1000000) (hBw : B ≤ w.heap.size) (hO : OwnsM w B 5 (.slice (some ⟨g, 0, none⟩) (t.size + 1 + zerosOf t.size) cap) (bytes (padA (textOf t) (zerosOf t.size))))
    (hQ : Hid (∀ (y5 y6 y22 y23 y24 y25 y26 y27 y28 y29 y30 y31 y32 y33 y34 y35 y36 : Value) (w' : World), OwnsM w' B 5 y5 (bytes (pad (textOf t))) → Below B w w' → Q .normal ⟨#[x0, .string t, x2, x3, x4, y5, y6, x7, x8, x9, x10, x11, x12, x13, x14, x15, x16, x17, x18, x19, x20, x21, y22, y23, y24, y25, y26, y27, y28, y29, y30, y31, y32, y33, y34, y35, y36, x37, x38, x39, x40, x41, x42, x43, x44, x45, x46, x47, x48, x49, x50, x51, x52, x53, x54, x55, x56, x57, x58, x59, x60, x61, x62, x63, x64, x65, x66, x67, x68, x69], []⟩ w')) :
    Code.wp Tryz.prog sumB Q ⟨#[x0, .string t, x2, x3, x4, .slice (some ⟨g, 0, none⟩) (t.size + 1 + zerosOf t.size) cap, x6, x7, x8, x9, x10, x11, x12, x13, x14, x15, x16, x17, x18, x19, x20, x21, x22, x23, x24, x25, x26, x27, x28, x29, x30, x31, x32, x33, x34, x35, x36, x37, x38, x39, x40, x41, x42, x43, x44, x45, x46, x47, x48, x49, x50, x51, x52, x53, x54, x55, x56, x57, x58, x59, x60, x61, x62, x63, x64, x65, x66, x67, x68, x69], []⟩ w := by
  conv => arg 2; whnf
  obtain ⟨i0, hi, hz0, hz1, hz2⟩ := info_parts u8InfoR
  have hlT := textOf_len t
  have hz64 : zerosOf t.size < 64 := Nat.mod_lt _ (by decide)
  refine seq_at ?_
  go_wp2
  show Code.wp _ _ _ _ _
  refine wp_block ?_
  have hB0 : OwnsM w B 5 (.slice (some ⟨g, 0, none⟩) (t.size + 1 + zerosOf t.size) cap) (bytes (padA (textOf t) (zerosOf t.size) ++ lenBytes t.size 0)) := by
    rw [show lenBytes t.size 0 = [] from rfl, List.append_nil]; exact hO
  clear hO
  go_loopw [5, 6] (fun p i wv => ∃ j : Nat, j ≤ 8 ∧ i = .int .i64 (7 - (j : Int)) ∧ OwnsM wv B 5 p (bytes (padA (textOf t) (zerosOf t.size) ++ lenBytes t.size j)) ∧ Below B w wv) (fun _ i _ => (intOf i + 1).toNat)
  case atStart => exact ⟨0, by omega, rfl, hB0, Below.refl _ _⟩
  case round =>
    clear hB0
    obtain ⟨j, hj, rfl, hB, hb⟩ := hrel
    have hlen2 : (bytes (padA (textOf t) (zerosOf t.size) ++ lenBytes t.size j)).length = t.size + 1 + zerosOf t.size + j := by rw [bytes_length, List.length_append, padA_len, hlT, lenBytes_len]
    by_cases hlt : j < 8
    · obtain ⟨g2, cap2, rfl, k1, k2, k3, k4, kc⟩ := hB.cell
      have hB2 := hB
      rw [hlen2] at hB2 k3 ⊢
      have hst : Hid (∀ v : Int, v = (lenByte t.size j : Nat) → bytes (padA (textOf t) (zerosOf t.size) ++ lenBytes t.size j) ++ [.int .u8 v] = bytes (padA (textOf t) (zerosOf t.size) ++ lenBytes t.size (j + 1))) := by
        intro v hv
        rw [hv, bytes_snoc, lenBytes_succ, List.append_assoc]
      have hOs : OwnsM wr B 5 (.slice (some ⟨g2, 0, none⟩) (t.size + 1 + zerosOf t.size + j) cap2) (bytes (padA (textOf t) (zerosOf t.size) ++ lenBytes t.size j)) := hB2
      clear hB hB2 kc
      go_wp2_with (at_builtin; refine wpList_append_ownM _ rfl _ _ 124 rfl B 5 i0 (.int .u8 0) 1 Tryz.underlying124 hi hz0 hz1 hz2 rfl _ _ rfl (hOs.alloc _) ⟨wr.heap.size, 0, none⟩ 1 (.int .u8 (8 * (t.size : Int) / 2 ^ (8 * (7 - j)) % 256)) rfl (by simp) rfl (by rw [hlen2]; unfold maxLen; omega) (by rw [hlen2]; omega) (by have := hb.size; simp; omega) ?_; intro v3 w3 hO3 hgrow; have hb3 : Below B w w3 := (hb.alloc (Nat.le_trans hBw hb.size) _).grown hgrow (by have := hb.size; simp; omega) (fun r hr => ownsM_block hOs hr); rw [hst.out _ (lenByte_int2 t.size j)] at hO3)
      go_roundw
      case rel => exact ⟨j + 1, by omega, by go_num, hO3, hb3⟩
      case measure => simp [intOf]; omega
    · have ej : j = 8 := by omega
      subst ej
      have hPad : padA (textOf t) (zerosOf t.size) ++ lenBytes t.size 8 = pad (textOf t) := by
        have := pad_of (textOf t)
        rw [hlT] at this
        exact this
      rw [hPad] at hB
      go_wp2
      exact hQ.out _ _ _ _ _ _ _ _ _ _ _ _ _ _ _ _ _ _ hB hb

end Go.Proofs.YtdidjdoifpfmmaaGreatDoor
