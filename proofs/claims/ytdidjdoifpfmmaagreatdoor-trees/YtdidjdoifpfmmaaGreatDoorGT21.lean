import Derived.Test.YtdidjdoifpfmmaaGreatDoorGT20
import Derived.Test.YtdidjdoifpfmmaaGreatDoorGT6
import Derived.Test.YtdidjdoifpfmmaaGreatDoorGT3
import Derived.Test.YtdidjdoifpfmmaaGreatDoorGT9
import Derived.Test.YtdidjdoifpfmmaaGreatDoorGT5
import Derived.Shelf.Strings.Repeat
import Derived.Test.YtdidjdoifpfmmaaGreatDoorProg
/- The document's super. -/
namespace Go.Proofs.YtdidjdoifpfmmaaGreatDoor
open Go.RowKit
def magicT : ByteArray := ⟨#[97, 114, 99, 104, 105, 118, 101, 49]⟩
def superHead (n : Nat) : ByteArray := magicT ++ text (fourOf n)
def superSum (n : Nat) : Nat := crc (textOf (superHead n))
def superT (n : Nat) : ByteArray := paddedOf (superHead n ++ text (fourOf (superSum n)))
theorem crcR_lt (l : List Nat) : crc l < 4294967296 := by
  unfold crc
  omega
theorem textR_size (l : List Nat) : (text l).size = l.length := by
  show (l.map UInt8.ofNat).toArray.size = _
  simp
theorem bsize_append (a b : ByteArray) : (a ++ b).size = a.size + b.size := by simp
theorem superHead_size (n : Nat) : (superHead n).size = 12 := by
  unfold superHead
  rw [bsize_append, textR_size]
  rfl
theorem paddedOf_size (t : ByteArray) : (paddedOf t).size = (t.size + 63) / 64 * 64 := by
  unfold paddedOf
  rw [bsize_append, zeroTxt_size]
  omega
theorem superT_size (n : Nat) : (superT n).size = 64 := by
  unfold superT
  rw [paddedOf_size, bsize_append, superHead_size, textR_size, show (fourOf (superSum n)).length = 4 from rfl]
set_option maxRecDepth 100000 in
set_option maxHeartbeats 2000000 in
theorem refSuper_any (n : Nat) (hn : n ≤ 4096) (w : World) :
    Calls Tryz.prog 190 #[.int .i64 (n : Nat)] w fun e w' => e = .returned (.tuple #[.string (superT n), .int .i64 (superSum n : Nat)]) ∧ Below w.heap.size w w' := by
  have h4 := four_any n (by omega) w
  have H4 : Hid (∀ w1, Calls Tryz.prog 111 #[.int .i64 (superSum n : Nat)] w1 fun e w' => e = .returned (.string (text (fourOf (superSum n)))) ∧ Below w1.heap.size w1 w') := fun w1 => four_any (superSum n) (crcR_lt _) w1
  have HC : Hid (∀ w1, Calls Tryz.prog 68 #[.string (superHead n)] w1 fun e w' => e = .returned (.int .i64 (superSum n : Nat)) ∧ w1 = w') := fun w1 => crcRef_any (superHead n) w1 (by rw [superHead_size]; decide)
  have HP : Hid (∀ w1, Calls Tryz.prog 251 #[.string (superHead n ++ text (fourOf (superSum n)))] w1 fun e w' => e = .returned (.string (superT n)) ∧ Below w1.heap.size w1 w') := fun w1 => refPadded_any _ (by rw [bsize_append, superHead_size, textR_size, show (fourOf (superSum n)).length = 4 from rfl]; decide) w1
  have s1 : (text (fourOf n)).size = 4 := by rw [textR_size]; rfl
  have s2 : (text (fourOf (superSum n))).size = 4 := by rw [textR_size]; rfl
  have s3 := superHead_size n
  have eh : superHead n = (⟨#[97, 114, 99, 104, 105, 118, 101, 49]⟩ : ByteArray) ++ text (fourOf n) := rfl
  have em2 : (⟨#[97, 114, 99, 104, 105, 118, 101, 49]⟩ : ByteArray).size = 8 := by decide +kernel
  generalize superT n = p at *
  generalize text (fourOf (superSum n)) = x at *
  generalize superSum n = c at *
  rw [eh] at HC HP s3
  clear eh
  generalize text (fourOf n) = k at *
  go_enter Tryz.func190, Tryz.ntmps190
  go_wp2_with (first
    | (go_at_call 111; first | (refine h4.mono ?_; rintro e w1 ⟨rfl, hb1⟩; clear h4; have hC := HC.out w1) | (refine h5.mono ?_; rintro e w3 ⟨rfl, hb2⟩; clear h5; have hP := HP.out w3))
    | (go_at_call 68; refine hC.mono ?_; rintro e w2 ⟨rfl, rfl⟩; clear hC; have h5 := H4.out w1)
    | (go_at_call 251; refine hP.mono ?_; rintro e w4 ⟨rfl, hb3⟩; clear hP))
  refine bodyPost_ret (results_tmp2 rfl _ _ _) rfl ?_
  exact ⟨rfl, (hb1.trans (hb2.mono hb1.size)).trans (hb3.mono (hb1.trans (hb2.mono hb1.size)).size)⟩
end Go.Proofs.YtdidjdoifpfmmaaGreatDoor
/- The document's FormatDisk. -/
namespace Go.Proofs.YtdidjdoifpfmmaaGreatDoor
open Go.RowKit
theorem flushOf_safe (S : Dk) : (flushOf S).1.safe.length = S.safe.length := by
  unfold flushOf
  split
  · rw [S.tick_safe]
  · exact S.seen_length
theorem flushOf_wait (S : Dk) : (flushOf S).1.wait.length ≤ S.wait.length := by
  unfold flushOf
  split
  · rw [S.tick_wait]; exact Nat.le_refl _
  · exact Nat.zero_le _
theorem flushOf_ok {S : Dk} (ok : S.Ok) : (flushOf S).1.Ok := by
  unfold flushOf
  split
  · exact ok.tick
  · refine ⟨?_, ?_, ?_, ?_, ?_⟩
    · show 0 < S.seen.length; rw [S.seen_length]; exact ok.pos
    · show S.seen.length ≤ _; rw [S.seen_length]; exact ok.most
    · exact over_sizes _ _ ok.sec (fun x hx => (ok.wr x hx).2)
    · intro x hx; cases hx
    · exact Nat.zero_le _
theorem wipeF_facts : ∀ (f i : Nat) (S : Dk), S.Ok → i + f ≤ S.safe.length → S.wait.length + f ≤ 1000000 → (wipeF S f i).1.Ok ∧ (wipeF S f i).1.safe.length = S.safe.length ∧ (wipeF S f i).1.wait.length ≤ S.wait.length + f := by
  intro f
  induction f with
  | zero => intro i S ok _ _; exact ⟨flushOf_ok ok, flushOf_safe S, flushOf_wait S⟩
  | succ f ih =>
    intro i S ok hi hw
    unfold wipeF
    have hs := writeOf_safe S i zero64
    have hww := writeOf_wait S i zero64
    have hok := writeOf_ok ok i (by omega) zero64 zero64_size (by omega)
    split
    · obtain ⟨a, b, c⟩ := ih (i + 1) S ok (by omega) (by omega)
      exact ⟨a, b, by omega⟩
    · split
      · exact ⟨hok, by rw [hs], by omega⟩
      · obtain ⟨a, b, c⟩ := ih (i + 1) (writeOf S i zero64).1 hok (by rw [hs]; omega) (by omega)
        exact ⟨a, by rw [b, hs], by omega⟩
theorem wipeOf_facts {S : Dk} (ok : S.Ok) (hw : S.wait.length ≤ 900000) (i : Nat) (hi : i ≤ S.safe.length) : (wipeOf S i).1.Ok ∧ (wipeOf S i).1.safe.length = S.safe.length ∧ (wipeOf S i).1.wait.length ≤ S.wait.length + 4096 := by
  have hm := ok.most
  obtain ⟨a, b, c⟩ := wipeF_facts (S.safe.length - i) i S ok (by omega) (by omega)
  exact ⟨a, b, Nat.le_trans c (by omega)⟩
/-- What FormatDisk leaves, and its answer. -/
def formatOf (S : Dk) : Dk × Nat :=
  if S.safe.length < 4 then (S, 1)
  else if (wipeOf S 0).2 ≠ 0 then wipeOf S 0
  else if (writeOf (wipeOf S 0).1 0 (superT S.safe.length)).2 ≠ 0 then writeOf (wipeOf S 0).1 0 (superT S.safe.length)
  else flushOf (writeOf (wipeOf S 0).1 0 (superT S.safe.length)).1
theorem RefAt.below {w w1 : World} {r : RD} {S : Dk} {left : Int} {lit : Bool} (h : RefAt w r S left lit) (hb : Below w.heap.size w w1) : RefAt w1 r S left lit := by
  refine ⟨h.row.below hb h.row.lt, h.safe.fr (Fr.of_below hb []) (by simp), h.seen.fr (Fr.of_below hb []) (by simp), ?_, h.apart, h.caps, h.lit, h.small⟩
  obtain ⟨h1, h2⟩ := h.wait
  refine ⟨h1, h2.imp id ?_⟩
  rintro ⟨g, cap, cur, hv, hB, hh, rr⟩
  exact ⟨g, cap, cur, hv, hB, by rw [hb.block g (Array.getElem?_eq_some_iff.1 hh).1]; exact hh, rr⟩
set_option maxRecDepth 100000 in
set_option maxHeartbeats 2000000 in
theorem refFormat_any {w : World} {r : RD} {S : Dk} {left : Int} {lit : Bool} (h : RefAt w r S left lit) (ok : S.Ok) (hfew : S.wait.length ≤ 800000) :
    Calls Tryz.prog 121 #[.pointer (some ⟨r.q, 0, none⟩)] w fun e w' => e = .returned (.int .i64 ((formatOf S).2 : Nat)) ∧ RefDone w w' r (formatOf S).1 lit := by
  have hmost := ok.most
  have c1 : w.cell? ⟨r.q, 1, none⟩ = some (.slice (some ⟨r.gE, 0, none⟩) S.safe.length r.cE) := h.row.cell 1
  by_cases h4 : S.safe.length < 4
  · have he : Hid (formatOf S = (S, 1)) := by show formatOf S = _; unfold formatOf; rw [if_pos h4]
    have H : Hid _ := h
    clear h
    have h4' : (S.safe.length : Int) < 4 := by omega
    go_enter Tryz.func121, Tryz.ntmps121
    go_wp2
    go_ret
    exact ⟨by rw [he.out]; rfl, by rw [he.out]; exact ⟨r, left, H.out, rfl, fun b hb => .inl hb, Fr.refl _ _⟩⟩
  · have h4' : ¬ (S.safe.length : Int) < 4 := by omega
    have hWi := refWipe_any h ok (by omega) 0 (Nat.zero_le _)
    obtain ⟨ok1, hl1, hw1⟩ := wipeOf_facts ok (by omega) 0 (Nat.zero_le _)
    have he : formatOf S = if (wipeOf S 0).2 ≠ 0 then wipeOf S 0 else if (writeOf (wipeOf S 0).1 0 (superT S.safe.length)).2 ≠ 0 then writeOf (wipeOf S 0).1 0 (superT S.safe.length) else flushOf (writeOf (wipeOf S 0).1 0 (superT S.safe.length)).1 := by
      unfold formatOf; rw [if_neg h4]
    generalize wipeOf S 0 = W at *
    obtain ⟨S1, k1⟩ := W
    simp only at hWi ok1 hl1 hw1 he
    have okw := writeOf_ok ok1 0 (by omega) (superT S.safe.length) (superT_size _) (by omega)
    have hsw := writeOf_safe S1 0 (superT S.safe.length)
    clear h
    by_cases hk : k1 = 0
    · subst hk
      rw [if_neg (by simp)] at he
      have HS : Hid (∀ w1, Calls Tryz.prog 190 #[.int .i64 (S.safe.length : Nat)] w1 fun e w' => e = .returned (.tuple #[.string (superT S.safe.length), .int .i64 (superSum S.safe.length : Nat)]) ∧ Below w1.heap.size w1 w') := fun w1 => refSuper_any S.safe.length (by omega) w1
      have HW : Hid (∀ w1 r1 left1, RefAt w1 r1 S1 left1 lit → Calls Tryz.prog 116 #[.pointer (some ⟨r1.q, 0, none⟩), .int .i64 ((0 : Nat) : Int), .string (superT S.safe.length)] w1 fun e w' => e = .returned (.int .i64 ((writeOf S1 0 (superT S.safe.length)).2 : Nat)) ∧ RefDone w1 w' r1 (writeOf S1 0 (superT S.safe.length)).1 lit) := fun w1 r1 left1 hr => refWriteOf hr ok1 0 (by omega) _ (superT_size _) (by omega)
      generalize writeOf S1 0 (superT S.safe.length) = X at *
      obtain ⟨S2, k2⟩ := X
      simp only at HW okw he hsw
      by_cases hk2 : k2 = 0
      · subst hk2
        rw [if_neg (by simp)] at he
        have HFl : Hid (∀ w1 r1 left1, RefAt w1 r1 S2 left1 lit → Calls Tryz.prog 118 #[.pointer (some ⟨r1.q, 0, none⟩)] w1 fun e w' => e = .returned (.int .i64 ((flushOf S2).2 : Nat)) ∧ RefDone w1 w' r1 (flushOf S2).1 lit) := fun w1 r1 left1 hr => refFlushOf hr okw
        have HE : Hid _ := he
        clear he
        generalize superT S.safe.length = st at *
        generalize superSum S.safe.length = sc at *
        generalize flushOf S2 = Y at *
        obtain ⟨S3, k3⟩ := Y
        simp only at HFl
        go_enter Tryz.func121, Tryz.ntmps121
        go_wp2_with (first
          | (go_at_call 189; refine hWi.mono ?_; rintro e w1 ⟨rfl, hd⟩; clear hWi; obtain ⟨r1, left1, a1, a2, a3, a4⟩ := hd; have cc : w1.cell? ⟨r.q, 1, none⟩ = some (.slice (some ⟨r1.gE, 0, none⟩) S.safe.length r1.cE) := (by rw [← a2, ← hl1]; exact a1.row.cell 1); have A1 : Hid _ := a1; have A3 : Hid _ := a3; have A4 : Hid _ := a4; clear a1 a3 a4; have hS := HS.out w1)
          | (go_at_call 190; refine hS.mono ?_; rintro e w2 ⟨rfl, hb⟩; clear hS; have hW := HW.out w2 r1 left1 (A1.out.below hb); rw [a2] at hW)
          | (go_at_call 116; refine hW.mono ?_; rintro e w3 ⟨rfl, hd2⟩; clear hW; have HD : Hid _ := RefDone.trans a2 A3.out (A4.out.trans (Fr.of_below hb []) (fun x hx => nomatch hx)) hd2; clear hd2; obtain ⟨r3, left3, b1, b2, b3, b4⟩ := HD.out; have hF := HFl.out w3 r3 left3 b1; rw [b2] at hF; have B3 : Hid _ := b3; have B4 : Hid _ := b4; clear b1 b3 b4)
          | (go_at_call 118; refine hF.mono ?_; rintro e w4 ⟨rfl, hd4⟩; clear hF))
        go_ret
        exact ⟨by rw [HE.out]; rfl, by rw [HE.out]; exact RefDone.trans b2 B3.out B4.out hd4⟩
      · rw [if_pos hk2] at he
        have HE : Hid _ := he
        clear he
        have e1 : ((k2 : Int) != 0) = true := by simp; omega
        generalize superT S.safe.length = st at *
        generalize superSum S.safe.length = sc at *
        go_enter Tryz.func121, Tryz.ntmps121
        go_wp2_with (first
          | (go_at_call 189; refine hWi.mono ?_; rintro e w1 ⟨rfl, hd⟩; clear hWi; obtain ⟨r1, left1, a1, a2, a3, a4⟩ := hd; have cc : w1.cell? ⟨r.q, 1, none⟩ = some (.slice (some ⟨r1.gE, 0, none⟩) S.safe.length r1.cE) := (by rw [← a2, ← hl1]; exact a1.row.cell 1); have A1 : Hid _ := a1; have A3 : Hid _ := a3; have A4 : Hid _ := a4; clear a1 a3 a4; have hS := HS.out w1)
          | (go_at_call 190; refine hS.mono ?_; rintro e w2 ⟨rfl, hb⟩; clear hS; have hW := HW.out w2 r1 left1 (A1.out.below hb); rw [a2] at hW)
          | (go_at_call 116; refine hW.mono ?_; rintro e w3 ⟨rfl, hd2⟩; clear hW; have HD : Hid _ := RefDone.trans a2 A3.out (A4.out.trans (Fr.of_below hb []) (fun x hx => nomatch hx)) hd2; clear hd2))
        go_ret
        exact ⟨by rw [HE.out]; rfl, by rw [HE.out]; exact HD.out⟩
    · rw [if_pos hk] at he
      have HE : Hid _ := he
      clear he
      have e1 : ((k1 : Int) != 0) = true := by simp; omega
      go_enter Tryz.func121, Tryz.ntmps121
      go_wp2_with (go_at_call 189; refine hWi.mono ?_; rintro e w1 ⟨rfl, hd⟩; clear hWi)
      go_ret
      exact ⟨by rw [HE.out]; rfl, by rw [HE.out]; exact hd⟩
end Go.Proofs.YtdidjdoifpfmmaaGreatDoor
namespace Go.Proofs.YtdidjdoifpfmmaaGreatDoor
open Go.RowKit

set_option maxRecDepth 100000 in
set_option maxHeartbeats 1600000 in
/-- Not yet done. -/
theorem do_first (b B : Nat) (hB : B ≤ b) (c2 : Value) (w : World) (h : RowIs w b 389 (.int .u32 0 :: .int .i32 0 :: c2 :: u32s (tabTo 0))) :
    Calls Tryz.prog 276 #[.pointer (some ⟨b, 0, none⟩), .func (.func 277) #[.pointer (some ⟨b, 0, none⟩)] #[]] w fun e w' => e = .returned (.tuple #[]) ∧ RowIs w' b 389 (.int .u32 1 :: .int .i32 0 :: c2 :: u32s (tabTo 16)) ∧ Below B w w' := by
  have h0 : w.cell? ⟨b, 0, none⟩ = some (.int .u32 0) := h.cell 0
  have hl := run_call_load (P := Tryz.prog) Tryz.func307 (by kernel_rfl) (by kernel_rfl) (by kernel_rfl) .u32 (by kernel_rfl) h0
  have hS := slow_any b B hB c2 w h
  have hnot : ∀ (x : Bool) (w : World), (Op.unary .not (.bool x)).run Tryz.prog w = .ok (.bool (!x)) w := fun _ _ => rfl
  go_enter Tryz.func276, Tryz.ntmps276
  go_wp2_with (first | (go_at_call 290; refine hS.mono ?_; rintro e w' ⟨rfl, hr, hb⟩) | (go_at_call 289; go_in))
  go_end0
  exact ⟨rfl, hr, hb⟩
set_option maxRecDepth 100000 in
set_option maxHeartbeats 1600000 in
/-- Done already. -/
theorem do_done (b : Nat) (fv : Value) (w : World) (h0 : w.cell? ⟨b, 0, none⟩ = some (.int .u32 1)) :
    Calls Tryz.prog 276 #[.pointer (some ⟨b, 0, none⟩), fv] w fun e w' => e = .returned (.tuple #[]) ∧ w = w' := by
  have hl := run_call_load (P := Tryz.prog) Tryz.func307 (by kernel_rfl) (by kernel_rfl) (by kernel_rfl) .u32 (by kernel_rfl) h0
  have hnot : ∀ (x : Bool) (w : World), (Op.unary .not (.bool x)).run Tryz.prog w = .ok (.bool (!x)) w := fun _ _ => rfl
  go_enter Tryz.func276, Tryz.ntmps276
  go_wp2
  go_end0
  exact ⟨rfl, rfl⟩

/-- The table is made, or it is not yet. -/
def TabAt (w : World) (b : Nat) : Prop := RowIs w b 389 (.int .u32 0 :: .int .i32 0 :: .int .u32 0 :: u32s (tabTo 0)) ∨ RowIs w b 389 (.int .u32 1 :: .int .i32 0 :: .int .u32 0 :: u32s (tabTo 16))
theorem TabAt.drew {w : World} {b : Nat} (h : TabAt w b) : TabAt w.drew b := h.imp (·.drew) (·.drew)
theorem tab_full : tabTo 16 = halfTab := by decide +kernel

set_option maxRecDepth 100000 in
set_option maxHeartbeats 1600000 in
theorem row_any (b B : Nat) (hB : B ≤ b) (j : Nat) (hj : j < 16) (w : World) (h : TabAt w b) :
    Calls Tryz.prog 250 #[.pointer (some ⟨b, 0, none⟩), .int .u32 (j : Nat)] w fun e w' => e = .returned (.int .u32 (crcBits 4 j : Nat)) ∧ TabAt w' b ∧ Below B w w' := by
  have hmf : ∀ (fn : Fn) (first cap : Array Value) (w : World), (Instr.makeFunc fn first cap).run Tryz.prog w = .ok (.func fn first cap) w := fun _ _ _ _ => rfl
  have hget : Hid ((tabTo 16).getD j 0 = crcBits 4 j) := by rw [tab_full]; exact halfTab_get j hj
  have hD : Calls Tryz.prog 276 #[.pointer (some ⟨b, 0, none⟩), .func (.func 277) #[.pointer (some ⟨b, 0, none⟩)] #[]] w fun e w' => e = .returned (.tuple #[]) ∧ RowIs w' b 389 (.int .u32 1 :: .int .i32 0 :: .int .u32 0 :: u32s (tabTo 16)) ∧ Below B w w' := by
    rcases h with h | h
    · exact do_first b B hB _ w h
    · refine (do_done b _ w (h.cell 0)).mono ?_
      rintro e w' ⟨rfl, rfl⟩
      exact ⟨rfl, h, Below.refl _ _⟩
  clear h
  generalize crcBits 4 j = y at hget ⊢
  go_enter Tryz.func250, Tryz.ntmps250
  go_wp2_with (go_at_call 276; refine hD.mono ?_; rintro e w' ⟨rfl, hr, hb⟩; have hc := hr.cell (j + 3); simp only [List.getElem?_cons_succ] at hc; rw [u32s_get _ _ (by rw [tabTo_len 16 (Nat.le_refl _)]; exact hj), hget.out, Nat.add_comm j 3] at hc)
  go_ret
  exact ⟨rfl, .inr hr, hb⟩

theorem half_facts (x : Nat) (hx : x < 4294967296) : ∃ j z : Nat, j < 16 ∧ bits .and .u32 (x : Int) 15 = (j : Int) ∧ crcBits 4 j = z ∧ bits .xor .u32 ((x : Int) / 16) (z : Int) = (crcBits 4 x : Nat) := by
  refine ⟨x % 16, crcBits 4 (x % 16), Nat.mod_lt _ (by decide), ?_, rfl, ?_⟩
  · have h := u32_and_nat x 15 hx (by decide)
    rw [show (15 : Nat) = 2 ^ 4 - 1 from rfl, Nat.and_two_pow_sub_one_eq_mod] at h
    exact h
  · have h := u32_xor_nat (x / 16) (crcBits 4 (x % 16)) (by omega) (crcBits_lt 4 _ (by omega))
    rw [← crcBits_half] at h
    exact h

set_option maxRecDepth 100000 in
set_option maxHeartbeats 1600000 in
theorem crcDev_any (s : ByteArray) (w : World) (hs : s.size ≤ 1000000) :
    Calls Tryz.prog 187 #[.string s] w fun e w' => e = .returned (.int .u32 (crc (textOf s) : Nat)) ∧ Below w.heap.size w w' := by
  go_enter Tryz.func187, Tryz.ntmps187
  go_wp2
  go_loopw [4, 8] (fun r i wr => ∃ k : Nat, k ≤ s.size ∧ i = .int .i64 k ∧ r = .int .u32 (crcOver ((textOf s).take k) 4294967295 : Nat) ∧ TabAt wr w.heap.size ∧ Below w.heap.size w wr) (fun _ i _ => s.size - (intOf i).toNat)
  case atStart => exact ⟨0, Nat.zero_le _, rfl, rfl, .inl (RowIs.new w 389 (.int .u32 0 :: .int .i32 0 :: .int .u32 0 :: u32s (tabTo 0))), (Below.refl _ _).alloc (Nat.le_refl _) _⟩
  case round =>
    obtain ⟨k, hk, rfl, rfl, hT, hb⟩ := hrel
    have hlt := crcOver_lt ((textOf s).take k) 4294967295 (fun x hx => textOf_lt s x (List.mem_of_mem_take hx)) (by decide)
    by_cases hks : k < s.size
    · have hsn : Hid _ := textOf_take s k hks
      have hst : Hid _ := crcOver_snoc ((textOf s).take k) (s[k]).toNat 4294967295
      have hbt : (s[k]).toNat < 256 := (s[k]).toNat_lt
      have hx := u32_xor_nat (crcOver ((textOf s).take k) 4294967295) (s[k]).toNat (by omega) (by omega)
      have hxl := xor_lt (crcOver ((textOf s).take k) 4294967295) (s[k]).toNat hlt (by omega)
      have hfin : Hid (crcOver ((textOf s).take (k + 1)) 4294967295 = crcBits 4 (crcBits 4 (crcOver ((textOf s).take k) 4294967295 ^^^ (s[k]).toNat))) := by rw [hsn.out]; exact hst.out
      clear hsn hst
      generalize crcOver ((textOf s).take k) 4294967295 = r at hlt hx hfin hxl ⊢
      generalize r ^^^ (s[k]).toNat = x at hxl hfin hx
      obtain ⟨j1, z1, hj1, a1, e1, q1⟩ := half_facts x hxl
      have hyl := crcBits_lt 4 x hxl
      generalize crcBits 4 x = y at hyl hfin q1
      obtain ⟨j2, z2, hj2, a2, e2, q2⟩ := half_facts y hyl
      have hvl := crcBits_lt 4 y hyl
      generalize crcBits 4 y = v at hvl hfin q2
      have l1 : z1 < 4294967296 := by rw [← e1]; exact crcBits_lt 4 _ (by omega)
      have l2 : z2 < 4294967296 := by rw [← e2]; exact crcBits_lt 4 _ (by omega)
      have r1 := row_any w.heap.size w.heap.size (Nat.le_refl _) j1 hj1 wr hT
      rw [e1] at r1
      have r2 : Hid (∀ w1, TabAt w1 w.heap.size → Calls Tryz.prog 250 #[.pointer (some ⟨w.heap.size, 0, none⟩), .int .u32 (j2 : Nat)] w1 fun e w' => e = .returned (.int .u32 (z2 : Nat)) ∧ TabAt w' w.heap.size ∧ Below w.heap.size w1 w') := fun w1 h1 => by
        have := row_any w.heap.size w.heap.size (Nat.le_refl _) j2 hj2 w1 h1
        rw [e2] at this
        exact this
      clear e1 e2
      go_wp2_with (first | (go_at_call 250; refine r1.mono ?_; rintro e w1 ⟨rfl, hT1, hb1⟩; clear r1) | (go_at_call 250; refine (r2.out w1 hT1).mono ?_; rintro e w2 ⟨rfl, hT2, hb2⟩))
      exact ⟨⟨k + 1, by omega, by go_num, by rw [hfin.out], hT2, hb.trans (hb1.trans hb2)⟩, by simp [intOf]; omega⟩
    · have hfull : Hid (crc (textOf s) = 4294967295 - crcOver ((textOf s).take k) 4294967295) := by
        show crc (textOf s) = _
        rw [List.take_of_length_le (by rw [textOf_len]; omega)]; rfl
      generalize crcOver ((textOf s).take k) 4294967295 = r at hlt hfull ⊢
      have hn := not_u32 r hlt
      go_wp2
      go_ret
      exact ⟨by rw [hfull.out]; exact ret_eq (congrArg (Value.int .u32) (by omega)), hb⟩

theorem archiveCRC_any (s : ByteArray) (w : World) (hs : s.size ≤ 1000000) :
    Calls Tryz.prog 112 #[.string s] w fun e w' => e = .returned (.int .u32 (crc (textOf s) : Nat)) ∧ Below w.heap.size w w' := by
  have h := crcDev_any s w hs
  go_enter Tryz.func112, Tryz.ntmps112
  go_wp2_with (go_at_call 187; refine h.mono ?_; rintro e w' ⟨rfl, hb⟩)
  go_ret
  exact ⟨rfl, hb⟩
theorem crc_lt (l : List Nat) : crc l < 4294967296 := by unfold crc; omega
theorem plainCRC_any (s : ByteArray) (w : World) (hs : s.size ≤ 1000000) :
    Calls Tryz.prog 67 #[.string s] w fun e w' => e = .returned (.int .i64 (crc (textOf s) : Nat)) ∧ Below w.heap.size w w' := by
  have h := archiveCRC_any s w hs
  have hl := crc_lt (textOf s)
  generalize crc (textOf s) = x at h hl ⊢
  go_enter Tryz.func67, Tryz.ntmps67
  go_wp2_with (go_at_call 112; refine h.mono ?_; rintro e w' ⟨rfl, hb⟩)
  go_ret
  exact ⟨rfl, hb⟩
end Go.Proofs.YtdidjdoifpfmmaaGreatDoor
/- Contracts of the library, laid at this program: made by tools/shelf.py ShelfRepeat Derived.Shelf.Strings.Repeat n105. -/
namespace Go.Proofs
open Go.Shelf
def Tryz.lays105_ren : Go.Shelf.Ren := ⟨fun | 105 => 141 | 212 => 210 | 99 => 211 | 165 => 212 | 166 => 213 | 170 => 214 | 169 => 215 | 263 => 257 | 264 => 258 | 206 => 259 | 240 => 260 | 241 => 261 | 276 => 279 | 277 => 280 | n => n, fun | 9 => 9 | 3 => 3 | 4 => 4 | 20 => 20 | 0 => 0 | 46 => 133 | 109 => 338 | 5 => 5 | 72 => 275 | 76 => 184 | 51 => 81 | 146 => 393 | 53 => 297 | 148 => 395 | 70 => 273 | 37 => 124 | 75 => 92 | 127 => 397 | 164 => 239 | 80 => 279 | n => n, fun | n => n⟩
theorem Tryz.lays105 : Go.Proofs.Lays.n105 Tryz.prog Tryz.lays105_ren := {
  mixed := by kernel_rfl
  f99 := Tryz.func211.trans (congrArg some (by kernel_rfl))
  f105 := Tryz.func141.trans (congrArg some (by kernel_rfl))
  f165 := Tryz.func212.trans (congrArg some (by kernel_rfl))
  f166 := Tryz.func213.trans (congrArg some (by kernel_rfl))
  f169 := Tryz.func215.trans (congrArg some (by kernel_rfl))
  f170 := Tryz.func214.trans (congrArg some (by kernel_rfl))
  f206 := Tryz.func259.trans (congrArg some (by kernel_rfl))
  f212 := Tryz.func210.trans (congrArg some (by kernel_rfl))
  f240 := Tryz.func260.trans (congrArg some (by kernel_rfl))
  f241 := Tryz.func261.trans (congrArg some (by kernel_rfl))
  f263 := Tryz.func257.trans (congrArg some (by kernel_rfl))
  f264 := Tryz.func258.trans (congrArg some (by kernel_rfl))
  f276 := Tryz.func279.trans (congrArg some (by kernel_rfl))
  f277 := Tryz.func280.trans (congrArg some (by kernel_rfl))
  t0 := Tryz.underlying0
  a0 := Tryz.isAgg0
  z0 := Tryz.sizeOf0
  v0 := Tryz.zeroValue0
  t3 := Tryz.underlying3
  a3 := Tryz.isAgg3
  z3 := Tryz.sizeOf3
  v3 := Tryz.zeroValue3
  t4 := Tryz.underlying4
  a4 := Tryz.isAgg4
  z4 := Tryz.sizeOf4
  v4 := Tryz.zeroValue4
  t5 := Tryz.underlying5
  a5 := Tryz.isAgg5
  z5 := Tryz.sizeOf5
  v5 := Tryz.zeroValue5
  t9 := Tryz.underlying9
  a9 := Tryz.isAgg9
  z9 := Tryz.sizeOf9
  v9 := Tryz.zeroValue9
  t20 := Tryz.underlying20
  a20 := Tryz.isAgg20
  z20 := Tryz.sizeOf20
  v20 := Tryz.zeroValue20
  t37 := Tryz.underlying124
  a37 := Tryz.isAgg124
  z37 := Tryz.sizeOf124
  v37 := Tryz.zeroValue124
  t46 := Tryz.underlying133
  a46 := Tryz.isAgg133
  z46 := Tryz.sizeOf133
  v46 := Tryz.zeroValue133
  t51 := Tryz.underlying81
  a51 := Tryz.isAgg81
  z51 := Tryz.sizeOf81
  v51 := Tryz.zeroValue81
  t53 := Tryz.underlying297
  a53 := Tryz.isAgg297
  z53 := Tryz.sizeOf297
  v53 := Tryz.zeroValue297
  t70 := Tryz.underlying273
  a70 := Tryz.isAgg273
  z70 := Tryz.sizeOf273
  v70 := Tryz.zeroValue273
  t72 := Tryz.underlying275
  a72 := Tryz.isAgg275
  z72 := Tryz.sizeOf275
  v72 := Tryz.zeroValue275
  t75 := Tryz.underlying92
  a75 := Tryz.isAgg92
  z75 := Tryz.sizeOf92
  v75 := Tryz.zeroValue92
  t76 := Tryz.underlying184
  a76 := Tryz.isAgg184
  z76 := Tryz.sizeOf184
  v76 := Tryz.zeroValue184
  t109 := Tryz.underlying338
  a109 := Tryz.isAgg338
  z109 := Tryz.sizeOf338
  v109 := Tryz.zeroValue338
  t127 := Tryz.underlying397
  a127 := Tryz.isAgg397
  z127 := Tryz.sizeOf397
  v127 := Tryz.zeroValue397
  t146 := Tryz.underlying393
  a146 := Tryz.isAgg393
  z146 := Tryz.sizeOf393
  v146 := Tryz.zeroValue393
  t148 := Tryz.underlying395
  a148 := Tryz.isAgg395
  z148 := Tryz.sizeOf395
  v148 := Tryz.zeroValue395
  t164 := Tryz.underlying239
  a164 := Tryz.isAgg239
  z164 := Tryz.sizeOf239
  v164 := Tryz.zeroValue239 }
end Go.Proofs
/- The program's Repeat of zeros, word, padded, head, start. -/
namespace Go.Proofs.YtdidjdoifpfmmaaGreatDoor
open Go.RowKit
theorem devExtra : Builder.Extra Tryz.prog Tryz.lays105_ren where
  sizeBuilder := by kernel_rfl
  liesBuilder := by kernel_rfl
  t5 := Tryz.underlying5
  a5 := Tryz.isAgg5
  z5 := Tryz.sizeOf5
  v5 := Tryz.zeroValue5
  infoByte := by kernel_rfl
  cellsByte := by kernel_rfl
  sizeByte := by kernel_rfl
  neB5 := by decide
theorem repeat_zero (c : Nat) : (⟨(Lib.repeatL (⟨#[0]⟩ : ByteArray).data.toList c).toArray⟩ : ByteArray) = zeroTxt c := by
  have : Lib.repeatL (⟨#[0]⟩ : ByteArray).data.toList c = List.replicate c 0 := by
    have := Lib.repeatL_replicate (0 : UInt8) 1 c
    rwa [Nat.mul_one] at this
  rw [this]
  unfold zeroTxt text
  simp
theorem devRepeat (c : Nat) (hc : c ≤ 1000000) (w : World) :
    Calls Tryz.prog 141 #[.string ⟨#[0]⟩, .int .i64 (c : Nat)] w fun e w' => e = .returned (.string (zeroTxt c)) ∧ Below w.heap.size w w' := by
  have h := Any.strings_Repeat Tryz.lays105 devExtra ⟨#[0]⟩ c w (by omega) (by show 1 * c ≤ _; omega)
  rw [repeat_zero] at h
  exact h
set_option maxHeartbeats 1000000 in
set_option maxRecDepth 3000 in
theorem devWord (n : Nat) (h : n < 4294967296) (w : World) :
    Calls Tryz.prog 147 #[.int .u32 (n : Nat)] w fun e w' => e = .returned (.string (text (fourOf n))) ∧ Below w.heap.size w w' := by
  have hcv : (convert 124 9 (.slice (some ⟨w.heap.size, 0, none⟩) 4 4)).run Tryz.prog (w.alloc (.cells #[.int .u8 ((n : Int) / 16777216), .int .u8 ((n : Int) / 65536 % 256), .int .u8 ((n : Int) / 256 % 256), .int .u8 ((n : Int) % 256)] 5)) = .ok (.string (text (fourOf n))) (w.alloc (.cells #[.int .u8 ((n : Int) / 16777216), .int .u8 ((n : Int) / 65536 % 256), .int .u8 ((n : Int) / 256 % 256), .int .u8 ((n : Int) % 256)] 5)) := by
    have e1 : (n : Int) / 16777216 = ((n / 16777216 % 256 : Nat) : Int) := by omega
    have e2 : (n : Int) / 65536 % 256 = ((n / 65536 % 256 : Nat) : Int) := by omega
    have e3 : (n : Int) / 256 % 256 = ((n / 256 % 256 : Nat) : Int) := by omega
    have e4 : (n : Int) % 256 = ((n % 256 : Nat) : Int) := by omega
    rw [e1, e2, e3, e4]
    have hr : RowIs (w.alloc (.cells (bytes (fourOf n)).toArray 5)) w.heap.size 5 (bytes (fourOf n) ++ []) := by rw [List.append_nil]; exact RowIs.new _ _ _
    exact back_any 124 9 5 Tryz.underlying124 Tryz.underlying5 Tryz.underlying9 _ _ 4 _ (fourOf n) [] hr (fourOf_lt n)
  have hb : Below w.heap.size w (w.alloc (.cells #[.int .u8 ((n : Int) / 16777216), .int .u8 ((n : Int) / 65536 % 256), .int .u8 ((n : Int) / 256 % 256), .int .u8 ((n : Int) % 256)] 5)) := (Below.refl _ _).alloc (Nat.le_refl _) _
  obtain ⟨T, hT⟩ : ∃ T, Hid (text (fourOf n) = T) := ⟨_, rfl⟩
  rw [hT.out] at hcv
  go_enter Tryz.func147, Tryz.ntmps147
  go_wp2
  go_ret
  exact ⟨by rw [hT.out]; rfl, hb⟩
theorem padded_none {t : ByteArray} (h : t.size % 64 = 0) : paddedOf t = t := by
  unfold paddedOf
  rw [show (t.size + 63) / 64 * 64 - t.size = 0 by omega]
  exact WideShapes.bytes_inj (by simp [zeroTxt, text])
theorem padded_some {t : ByteArray} (h : t.size % 64 ≠ 0) : paddedOf t = t ++ zeroTxt (64 - t.size % 64) := by
  unfold paddedOf
  rw [show (t.size + 63) / 64 * 64 - t.size = 64 - t.size % 64 by omega]
set_option maxHeartbeats 1000000 in
theorem devPadded (t : ByteArray) (ht : t.size ≤ 100000) (w : World) :
    Calls Tryz.prog 146 #[.string t] w fun e w' => e = .returned (.string (paddedOf t)) ∧ Below w.heap.size w w' := by
  by_cases h : t.size % 64 = 0
  · have HP : Hid _ := padded_none h
    have h1 : ((t.size : Int) % 64 == 0) = true := by simp; omega
    go_enter Tryz.func146, Tryz.ntmps146
    go_wp2
    go_ret
    exact ⟨by rw [HP.out]; rfl, Below.refl _ _⟩
  · have HP : Hid _ := padded_some h
    have h1 : ((t.size : Int) % 64 == 0) = false := by simp; omega
    have c := devRepeat (64 - t.size % 64) (by omega) w
    have hz := zeroTxt_size (64 - t.size % 64)
    rw [show ((64 - t.size % 64 : Nat) : Int) = 64 - (t.size : Int) % 64 by omega] at c
    generalize zeroTxt (64 - t.size % 64) = z at *
    go_enter Tryz.func146, Tryz.ntmps146
    go_wp2_with (go_at_call 141; refine c.mono ?_; rintro e w1 ⟨rfl, hb⟩)
    go_ret
    exact ⟨by rw [HP.out]; rfl, hb⟩
set_option maxHeartbeats 1000000 in
theorem devHeadText (n : Nat) (hn : n ≤ 4096) (w : World) :
    Calls Tryz.prog 145 #[.int .i64 (n : Nat)] w fun e w' => e = .returned (.string (superHead n)) ∧ Below w.heap.size w w' := by
  have c := devWord n (by omega) w
  have hz : (text (fourOf n)).size = 4 := textR_size _
  unfold superHead magicT
  generalize text (fourOf n) = t at *
  go_enter Tryz.func145, Tryz.ntmps145
  go_wp2_with (go_at_call 147; refine c.mono ?_; rintro e w1 ⟨rfl, hb⟩)
  go_ret
  exact ⟨rfl, hb⟩
set_option maxHeartbeats 1000000 in
theorem devHead (n : Nat) (hn : n ≤ 4096) (w : World) :
    Calls Tryz.prog 82 #[.int .i64 (n : Nat)] w fun e w' => e = .returned (.string (superT n)) ∧ Below w.heap.size w w' := by
  have c := devHeadText n hn w
  have hs := superHead_size n
  have hz : (text (fourOf (superSum n))).size = 4 := textR_size _
  have c1 : Hid (∀ w, Calls Tryz.prog 112 #[.string (superHead n)] w fun e w' => e = .returned (.int .u32 (superSum n : Nat)) ∧ Below w.heap.size w w') := fun w => archiveCRC_any (superHead n) w (by omega)
  have c2 : Hid (∀ w, Calls Tryz.prog 147 #[.int .u32 (superSum n : Nat)] w fun e w' => e = .returned (.string (text (fourOf (superSum n)))) ∧ Below w.heap.size w w') := fun w => devWord (superSum n) (crc_lt _) w
  have c3 : Hid (∀ w, Calls Tryz.prog 146 #[.string (superHead n ++ text (fourOf (superSum n)))] w fun e w' => e = .returned (.string (superT n)) ∧ Below w.heap.size w w') := fun w => devPadded _ (by rw [bsize_append]; omega) w
  generalize superT n = T at *
  generalize text (fourOf (superSum n)) = t at *
  generalize superSum n = k at *
  generalize superHead n = u at *
  go_enter Tryz.func82, Tryz.ntmps82
  go_wp2_with (first
    | (go_at_call 145; refine c.mono ?_; rintro e w1 ⟨rfl, hb⟩; clear c)
    | (go_at_call 112; refine (c1.out _).mono ?_; rintro e w2 ⟨rfl, hb2⟩)
    | (go_at_call 147; refine (c2.out _).mono ?_; rintro e w3 ⟨rfl, hb3⟩)
    | (go_at_call 146; refine (c3.out _).mono ?_; rintro e w4 ⟨rfl, hb4⟩))
  go_ret
  have b2 := hb.trans (hb2.mono hb.size)
  have b3 := b2.trans (hb3.mono b2.size)
  exact ⟨rfl, b3.trans (hb4.mono b3.size)⟩
set_option maxHeartbeats 1000000 in
/-- start: where the records of a disk begin. -/
theorem devStart (n : Nat) (hn : n ≤ 4096) (w : World) :
    Calls Tryz.prog 150 #[.int .i64 (n : Nat)] w fun e w' => e = .returned (.agg #[.int .i64 1, .int .u32 1, .int .u32 (superSum n : Nat)]) ∧ Below w.heap.size w w' := by
  have c : Hid (∀ w, Calls Tryz.prog 145 #[.int .i64 (n : Nat)] w fun e w' => e = .returned (.string (superHead n)) ∧ Below w.heap.size w w') := fun w => devHeadText n hn w
  have hs := superHead_size n
  have c1 : Hid (∀ w, Calls Tryz.prog 112 #[.string (superHead n)] w fun e w' => e = .returned (.int .u32 (superSum n : Nat)) ∧ Below w.heap.size w w') := fun w => archiveCRC_any (superHead n) w (by omega)
  generalize superSum n = k at *
  generalize superHead n = u at *
  go_enter Tryz.func150, Tryz.ntmps150
  go_wp2_with (first
    | (go_at_call 145; refine (c.out _).mono ?_; rintro e w1 ⟨rfl, hb⟩; have r1 : Hid (RowIs w1 w.heap.size 117 [.int .i64 0, .int .u32 0, .int .u32 0]) := (RowIs.new w 117 [.int .i64 0, .int .u32 0, .int .u32 0]).below hb (by simp))
    | (go_at_call 112; refine (c1.out _).mono ?_; rintro e w2 ⟨rfl, hb2⟩; have r2 : Hid _ := r1.out.below hb2 r1.out.lt; have q0 : w2.cell? ⟨w.heap.size, 0, none⟩ = some (.int .i64 0) := r2.out.cell 0; have q1 : w2.cell? ⟨w.heap.size, 1, none⟩ = some (.int .u32 0) := r2.out.cell 1; have q2 : w2.cell? ⟨w.heap.size, 2, none⟩ = some (.int .u32 0) := r2.out.cell 2; have f0 := r2.out.frozen 0; have f1 := r2.out.frozen 1; have f2 := r2.out.frozen 2))
  have r3 := ((r2.out.set 0 (.int .i64 1)).set 1 (.int .u32 1)).set 2 (.int .u32 (k : Nat))
  refine bodyPost_ret (results_cell_row (P := Tryz.prog) Tryz.results150 _ _ w.heap.size _ _ _ _ rfl r3.heap Tryz.underlying117 rfl (by kernel_rfl)) rfl ⟨rfl, ?_⟩
  have b1 : Below w.heap.size w w1 := ((Below.refl _ w).alloc (Nat.le_refl _) _).trans (hb.mono (by simp))
  have b2 : Below w.heap.size w w2 := b1.trans (hb2.mono b1.size)
  exact ((b2.setCell (Nat.le_refl _) _).setCell (Nat.le_refl _) _).setCell (Nat.le_refl _) _
end Go.Proofs.YtdidjdoifpfmmaaGreatDoor
