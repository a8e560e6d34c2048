import Derived.Test.YtdidjdoifpfmmaaGreatDoorRefB
namespace Go.Proofs.YtdidjdoifpfmmaaGreatDoor
open Go.RowKit

set_option maxHeartbeats 4000000 in
set_option maxRecDepth 1000000 in
theorem sumC_any {x1 x2 x3 x4 x6 x8 x9 x10 x11 x12 x13 x14 x15 x16 x17 x18 x19 x20 x21 x22 x23 x24 x25 x26 x27 x28 x29 x30 x31 x32 x33 x34 x35 x36 x37 x38 x39 x40 x41 x42 x43 x44 x45 x46 x47 x48 x49 x50 x51 x52 x53 x54 x55 x56 x57 x58 x59 x60 x61 x62 x63 x64 x65 x66 x67 x68 x69 : Value} (K H : List Nat) (pm gk gh ck ch g cap gs cc n : Nat) (P : List Nat) (s : St) (z : List Value) (w : World) (Q : Exit → Act → World → Prop)
    (hM : MakerAt w pm gk gh ck ch K H) (hK : ∀ x ∈ K, x < 4294967296) (hP : BytesAt w g 0 P) (hPl : P.length = 64 * n) (dP : ∀ x ∈ P, x < 256) (hcap : 64 * n ≤ cap) (_hcm : cap ≤ maxLen) (hn : n ≤ 100000) (hg : g < w.heap.size) (hs : RowIs w gs 3 (ints s.list ++ z)) (ok : s.Ok) (n1 : pm ≠ gs) (n2 : gk ≠ gs) (n3 : gh ≠ gs) (n4 : g ≠ gs)
    (hQ : Hid (∀ (y8 y43 y44 y45 y46 y47 y48 y49 y50 y51 y52 y53 y54 y55 y56 : Value) (w' : World), RowIs w' gs 3 (ints (stAt K s P n).list ++ z) → w.grownBy w' (some gs) → Q .normal ⟨#[.pointer (some ⟨pm, 0, none⟩), x1, x2, x3, x4, .slice (some ⟨g, 0, none⟩) (64 * n) cap, x6, .slice (some ⟨gs, 0, none⟩) 8 cc, y8, x9, x10, x11, x12, x13, x14, x15, x16, x17, x18, x19, x20, x21, x22, x23, x24, x25, x26, x27, x28, x29, x30, x31, x32, x33, x34, x35, x36, x37, x38, x39, x40, x41, x42, y43, y44, y45, y46, y47, y48, y49, y50, y51, y52, y53, y54, y55, y56, x57, x58, x59, x60, x61, x62, x63, x64, x65, x66, x67, x68, x69], []⟩ w')) :
    Code.wp Tryz.prog sumC Q ⟨#[.pointer (some ⟨pm, 0, none⟩), x1, x2, x3, x4, .slice (some ⟨g, 0, none⟩) (64 * n) cap, x6, .slice (some ⟨gs, 0, none⟩) 8 cc, x8, x9, x10, x11, x12, x13, x14, x15, x16, x17, x18, x19, x20, x21, x22, x23, x24, x25, x26, x27, x28, x29, x30, x31, x32, x33, x34, x35, x36, x37, x38, x39, x40, x41, x42, x43, x44, x45, x46, x47, x48, x49, x50, x51, x52, x53, x54, x55, x56, x57, x58, x59, x60, x61, x62, x63, x64, x65, x66, x67, x68, x69], []⟩ w := by
  conv => arg 2; whnf
  have hg0 : w.grownBy w (some gs) := ⟨rfl, rfl, rfl, Nat.le_refl _, fun _ _ _ => rfl⟩
  refine seq_at ?_
  go_wp2
  show Code.wp _ _ _ _ _
  refine wp_block ?_
  go_loopw [8] (fun i wr => ∃ k : Nat, k ≤ n ∧ i = .int .i64 (64 * (k : Int)) ∧ RowIs wr gs 3 (ints (stAt K s P k).list ++ z) ∧ w.grownBy wr (some gs)) (fun i _ => 64 * n - (intOf i).toNat)
  case atStart => exact ⟨0, by omega, rfl, hs, hg0⟩
  case round =>
    clear hs hg0
    obtain ⟨k, hk, rfl, hs, hgr⟩ := hrel
    by_cases hlt : k < n
    · have hM2 := hM.grown hgr n1 n2 n3
      have hp2 : BytesAt wr g (64 * k) (blockAt P k) := fun j hj => by
        have hj64 : j < 64 := by rw [blockAt_len P k (by omega)] at hj; exact hj
        rw [World.cell?_of_block (hgr.block g hg (by simpa using n4)), blockAt_get P k j hj64]
        have := hP (64 * k + j) (by omega)
        rw [Nat.zero_add] at this
        exact this
      have hB := fun cp => block_any K H pm gk gh ck ch gs cc g (64 * k) cp (stAt K s P k) (blockAt P k) z wr hM2 hs (stAt_ok K s P ok k) (blockAt_len P k (by omega)) (blockAt_lt P k dP) hp2 (Nat.lt_of_lt_of_le hg hgr.size) hK
      have hst : Hid ((stAt K s P (k + 1)).list = mix K (stAt K s P k) (blockAt P k)) := rfl
      have HB : Hid _ := hB
      have HM : Hid _ := hM
      clear hB hM2 hp2 hs hM hP
      go_wp2_with (go_at_call 110; refine (HB.out _).mono ?_; rintro e w2 ⟨rfl, hs2, hg2⟩)
      go_roundw
      case rel => exact ⟨k + 1, by omega, by go_num, by rw [hst.out]; exact hs2, grown_trans hgr hg2⟩
      case measure => simp [intOf]; omega
    · have ek : k = n := by omega
      subst ek
      go_wp2
      exact hQ.out _ _ _ _ _ _ _ _ _ _ _ _ _ _ _ _ hs hgr

theorem outs_take (s : St) (n : Nat) (h : n < 8) : outs (s.list.take n) ++ fourOf (s.list.getD n 0) = outs (s.list.take (n + 1)) := by
  obtain rfl | rfl | rfl | rfl | rfl | rfl | rfl | rfl : n = 0 ∨ n = 1 ∨ n = 2 ∨ n = 3 ∨ n = 4 ∨ n = 5 ∨ n = 6 ∨ n = 7 := by omega
  all_goals rfl
theorem outs_take_len (s : St) (n : Nat) (h : n ≤ 8) : (outs (s.list.take n)).length = 4 * n := by
  obtain rfl | rfl | rfl | rfl | rfl | rfl | rfl | rfl | rfl : n = 0 ∨ n = 1 ∨ n = 2 ∨ n = 3 ∨ n = 4 ∨ n = 5 ∨ n = 6 ∨ n = 7 ∨ n = 8 := by omega
  all_goals rfl
theorem text_size (l : List Nat) : (text l).size = l.length := by simp [text, ByteArray.size]
set_option maxHeartbeats 4000000 in
set_option maxRecDepth 1000000 in
theorem sumD_any {x0 x2 x3 x4 x5 x6 x8 x9 x10 x11 x12 x13 x14 x15 x16 x17 x18 x19 x20 x21 x22 x23 x24 x25 x26 x27 x28 x29 x30 x31 x32 x33 x34 x35 x36 x37 x38 x39 x40 x41 x42 x43 x44 x45 x46 x47 x48 x49 x50 x51 x52 x53 x54 x55 x56 x57 x58 x59 x60 x61 x62 x63 x64 x65 x66 x67 x68 x69 : Value} (gs cc : Nat) (s : St) (z : List Value) (w : World) (Q : Exit → Act → World → Prop)
    (hs : RowIs w gs 3 (ints s.list ++ z)) (ok : s.Ok)
    (hQ : Hid (∀ (y1 y9 y10 y57 y58 y59 y60 y61 y62 y63 y64 y65 y66 y67 y68 : Value) (w' : World), y1 = .string (text (outs s.list)) → Below w.heap.size w w' → Q .normal ⟨#[x0, y1, x2, x3, x4, x5, x6, .slice (some ⟨gs, 0, none⟩) 8 cc, x8, y9, y10, x11, x12, x13, x14, x15, x16, x17, x18, x19, x20, x21, x22, x23, x24, x25, x26, x27, x28, x29, x30, x31, x32, x33, x34, x35, x36, x37, x38, x39, x40, x41, x42, x43, x44, x45, x46, x47, x48, x49, x50, x51, x52, x53, x54, x55, x56, y57, y58, y59, y60, y61, y62, y63, y64, y65, y66, y67, y68, x69], []⟩ w')) :
    Code.wp Tryz.prog sumD Q ⟨#[x0, .string ByteArray.empty, x2, x3, x4, x5, x6, .slice (some ⟨gs, 0, none⟩) 8 cc, x8, x9, x10, x11, x12, x13, x14, x15, x16, x17, x18, x19, x20, x21, x22, x23, x24, x25, x26, x27, x28, x29, x30, x31, x32, x33, x34, x35, x36, x37, x38, x39, x40, x41, x42, x43, x44, x45, x46, x47, x48, x49, x50, x51, x52, x53, x54, x55, x56, x57, x58, x59, x60, x61, x62, x63, x64, x65, x66, x67, x68, x69], []⟩ w := by
  conv => arg 2; whnf
  refine seq_at ?_
  go_wp2
  show Code.wp _ _ _ _ _
  refine wp_block ?_
  go_loopw [1, 9] (fun x i wr => ∃ k : Nat, k ≤ 8 ∧ i = .int .i64 k ∧ x = .string (text (outs (s.list.take k))) ∧ RowIs wr gs 3 (ints s.list ++ z) ∧ Below w.heap.size w wr) (fun _ i _ => 8 - (intOf i).toNat)
  case atStart => exact ⟨0, by omega, rfl, rfl, hs, Below.refl _ _⟩
  case round =>
    clear hs
    obtain ⟨k, hk, rfl, rfl, hs, hb⟩ := hrel
    by_cases hlt : k < 8
    · have c := hs.cell k
      rw [List.getElem?_append_left (by rw [ints_length]; exact hlt), ints_get _ _ hlt] at c
      have hF := four_any (s.list.getD k 0) (ok.get k) wr
      have hst : Hid (text (outs (s.list.take k)) ++ text (fourOf (s.list.getD k 0)) = text (outs (s.list.take (k + 1)))) := by
        show _ = _
        rw [text_append, outs_take s k hlt]
      have hst2 : text (outs (s.list.take k)) ++ text (fourOf (s.list.getD k 0)) = text (outs (s.list.take (k + 1))) := hst.out
      have l1 : (text (fourOf (s.list.getD k 0))).size ≤ 4 := by rw [text_size]; exact Nat.le_refl _
      have l2 : (text (outs (s.list.take k))).size ≤ 32 := by rw [text_size, outs_take_len s k hk]; omega
      generalize text (fourOf (s.list.getD k 0)) = fx at hF hst hst2 l1
      generalize text (outs (s.list.take k)) = a at hst hst2 l2 ⊢
      generalize s.list.getD k 0 = x at c hF
      clear hst2
      go_wp2_with (go_at_call 111; refine hF.mono ?_; rintro e w2 ⟨rfl, hb2⟩)
      go_roundw
      case rel => exact ⟨k + 1, by omega, by go_num, by rw [← hst.out], hs.below hb2 hs.lt, hb.trans (hb2.mono hb.size)⟩
      case measure => simp [intOf]; omega
    · have ek : k = 8 := by omega
      subst ek
      have e8 : s.list.take 8 = s.list := rfl
      rw [e8]
      obtain ⟨X, hX⟩ : ∃ X, Hid (text (outs s.list) = X) := ⟨_, rfl⟩
      rw [hX.out]
      go_wp2
      exact hQ.out _ _ _ _ _ _ _ _ _ _ _ _ _ _ _ _ (by rw [hX.out]) hb
end Go.Proofs.YtdidjdoifpfmmaaGreatDoor
