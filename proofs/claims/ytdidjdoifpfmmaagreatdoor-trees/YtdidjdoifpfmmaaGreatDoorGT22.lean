import Derived.Test.YtdidjdoifpfmmaaGreatDoorGT10
import Derived.Test.YtdidjdoifpfmmaaGreatDoorGT17
import Derived.Test.YtdidjdoifpfmmaaGreatDoorGT20
import Derived.Test.YtdidjdoifpfmmaaGreatDoorGT21
import Derived.Deep.QuietTactic
import Derived.BigQuiet
/- The program's wipe. -/
namespace Go.Proofs.YtdidjdoifpfmmaaGreatDoor
open Go.RowKit
/-- The program's disk behind a call. -/
def DevDone (w w' : World) (d : DP) (S' : Dk) : Prop := ∃ d', DevAt w' d' S' ∧ d'.p = d.p ∧ (∀ b ∈ d'.blocks, b ∈ d.blocks ∨ w.heap.size ≤ b) ∧ Fr w w' d.blocks
theorem DevDone.trans {w w1 w2 : World} {d d1 : DP} {S2 : Dk} (hq : d1.p = d.p) (hsub : ∀ b ∈ d1.blocks, b ∈ d.blocks ∨ w.heap.size ≤ b) (hf : Fr w w1 d.blocks) (h : DevDone w1 w2 d1 S2) : DevDone w w2 d S2 := by
  obtain ⟨d2, a1, a2, a3, a4⟩ := h
  refine ⟨d2, a1, a2.trans hq, fun b hb => ?_, hf.trans a4 (fun x hx hlt => ?_)⟩
  · rcases a3 b hb with h | h
    · exact hsub b h
    · exact .inr (Nat.le_trans hf.size h)
  · rcases hsub x hx with h | h
    · exact h
    · omega
theorem DevAt.done {w w' : World} {d : DP} {S' : Dk} (h : DevAt w' d S') {bs : List Nat} (f : Fr w w' bs) (hb : ∀ b ∈ bs, b ∈ d.blocks) : DevDone w w' d S' := ⟨d, h, rfl, fun _ hb => .inl hb, f.wider hb⟩
/-- The disk's blocks lie behind the package-level variables. -/
def Far (d : DP) : Prop := ∀ b ∈ d.blocks, 18 ≤ b
theorem Far.p {d : DP} (h : Far d) : 18 ≤ d.p := h _ (by simp [DP.blocks])
theorem Far.step {w : World} {d d' : DP} (h : Far d) (hw : 18 ≤ w.heap.size) (hsub : ∀ b ∈ d'.blocks, b ∈ d.blocks ∨ w.heap.size ≤ b) : Far d' := fun b hb => by
  rcases hsub b hb with hx | hx
  · exact h b hx
  · omega
theorem Glob.size {a : Nat → Addr} {w : World} (h : Glob a w) : 12 ≤ w.heap.size := by
  have h1 : 11 < w.heap.size := World.block_lt_of_cell? _ _ (h.err 11 (by decide))
  omega
theorem Glob.fr {a : Nat → Addr} {w w' : World} {bs : List Nat} (h : Glob a w) (f : Fr w w' bs) (hb : ∀ b ∈ bs, 18 ≤ b) : Glob a w' :=
  ⟨fun k hk => cell_kept (h.err k hk) (f.block k (World.block_lt_of_cell? _ _ (h.err k hk)) (fun hm => by have := hb k hm; omega)), by obtain ⟨m, hm⟩ := h.maxl; exact ⟨m, cell_kept hm (f.block _ (World.block_lt_of_cell? _ _ hm) (fun hx => by have := hb _ hx; omega))⟩⟩
theorem devWriteOf {a : Nat → Addr} {w : World} {d : DP} {S : Dk} (G : Glob a w) (h : DevAt w d S) (hF : Far d) (ok : S.Ok) (hf : S.fuse ≤ 9223372036854775807) (k : Nat) (hk : k < S.safe.length) (x : ByteArray) (hx : x.size = 64) (hfew : S.wait.length + 1 ≤ 1000000) :
    Calls Tryz.prog 81 #[.pointer (some ⟨d.p, 0, none⟩), .int .i64 (k : Nat), .string x] w fun e w' => e = .returned (errOf a (writeOf S k x).2) ∧ DevDone w w' d (writeOf S k x).1 := by
  have hp := hF.p
  cases hu : S.tick.down
  · have e : writeOf S k x = ({ S.tick with wait := S.wait ++ [(k, x)] }, 0) := by unfold writeOf; rw [if_neg (by simp [hu])]
    rw [e]
    refine (devWrite_ok h ok k hk x hx hu hf hfew).mono ?_
    rintro e w' ⟨rfl, ⟨d', hd, hq, hsub⟩, f⟩
    exact ⟨rfl, d', hd, hq, hsub, f⟩
  · have e : writeOf S k x = (S.tick, 2) := by unfold writeOf; rw [if_pos hu]
    rw [e]
    refine (devWrite_down h ok k hk x hx hu hf (a 1) (G.err 1 (by decide)) (by omega)).mono ?_
    rintro e w' ⟨rfl, hd, f⟩
    exact ⟨rfl, hd.done f (by simp [DP.blocks])⟩
theorem devFlushOf {a : Nat → Addr} {w : World} {d : DP} {S : Dk} (G : Glob a w) (h : DevAt w d S) (hF : Far d) (ok : S.Ok) (hf : S.fuse ≤ 9223372036854775807) :
    Calls Tryz.prog 83 #[.pointer (some ⟨d.p, 0, none⟩)] w fun e w' => e = .returned (errOf a (flushOf S).2) ∧ DevDone w w' d (flushOf S).1 := by
  have hp := hF.p
  cases hu : S.tick.down
  · have e : flushOf S = ({ S.tick with safe := S.seen, wait := [] }, 0) := by unfold flushOf; rw [if_neg (by simp [hu])]
    rw [e]
    refine (devFlush_ok h ok hu hf).mono ?_
    rintro e w' ⟨rfl, ⟨d', hd, hq, hsub⟩, f⟩
    exact ⟨rfl, d', hd, hq, hsub, f⟩
  · have e : flushOf S = (S.tick, 2) := by unfold flushOf; rw [if_pos hu]
    rw [e]
    refine (devFlush_down h hu hf (a 1) (G.err 1 (by decide)) (by omega)).mono ?_
    rintro e w' ⟨rfl, hd, f⟩
    exact ⟨rfl, hd.done f (by simp [DP.blocks])⟩
theorem tick_fuse {S : Dk} (hf : S.fuse ≤ 9223372036854775807) : S.tick.fuse ≤ 9223372036854775807 := by
  unfold Dk.tick
  split
  · exact hf
  · show S.fuse - 1 ≤ _; omega
theorem writeOf_fuse {S : Dk} (hf : S.fuse ≤ 9223372036854775807) (k : Nat) (x : ByteArray) : (writeOf S k x).1.fuse ≤ 9223372036854775807 := by
  unfold writeOf
  split <;> exact tick_fuse hf
theorem flushOf_fuse {S : Dk} (hf : S.fuse ≤ 9223372036854775807) : (flushOf S).1.fuse ≤ 9223372036854775807 := by
  unfold flushOf
  split <;> exact tick_fuse hf
theorem wipeF_fuse : ∀ (f i : Nat) (S : Dk), S.fuse ≤ 9223372036854775807 → (wipeF S f i).1.fuse ≤ 9223372036854775807 := by
  intro f
  induction f with
  | zero => intro i S h; exact flushOf_fuse h
  | succ f ih =>
    intro i S h
    unfold wipeF
    split
    · exact ih _ _ h
    · split
      · exact writeOf_fuse h _ _
      · exact ih _ _ (writeOf_fuse h _ _)
theorem errOf_zero (a : Nat → Addr) : errOf a 0 = .nilIface := rfl
theorem zeroTxt_64 : zeroTxt 64 = zero64 := rfl
set_option maxRecDepth 100000 in
set_option maxHeartbeats 2000000 in
theorem devWipe_any {a : Nat → Addr} {w : World} {d : DP} {S : Dk} (G : Glob a w) (h : DevAt w d S) (hF : Far d) (ok : S.Ok) (hf : S.fuse ≤ 9223372036854775807) (hfew : S.wait.length ≤ 900000) (hG : 18 ≤ w.heap.size) (i : Nat) (hi : i ≤ S.safe.length) :
    Calls Tryz.prog 80 #[.pointer (some ⟨d.p, 0, none⟩), .int .i64 (i : Nat)] w fun e w' => e = .returned (errOf a (wipeOf S i).2) ∧ DevDone w w' d (wipeOf S i).1 := by
  have hz := devRepeat 64 (by decide) w
  rw [zeroTxt_64] at hz
  have hmost := ok.most
  have hi2 : i ≤ 4096 := by omega
  have HH : Hid (∀ w1, Below w.heap.size w w1 → DevAt w1 d S) := fun w1 hb => h.below hb
  have HZ : Hid (zero64.size = 64) := zero64_size
  have HFar : Hid _ := hF
  have HGl : Hid _ := G
  have HHG : Hid _ := hG
  clear h hF G hG
  go_enter Tryz.func80, Tryz.ntmps80
  go_wp2_with (go_at_call 141; refine hz.mono ?_; rintro e w1 ⟨rfl, hb1⟩)
  have H1 := HH.out w1 hb1
  have F1 : Fr w w1 d.blocks := Fr.of_below hb1 _
  clear HH hz
  go_loopw [6] (fun iv wr => ∃ (j : Nat) (S1 : Dk) (d1 : DP), iv = .int .i64 j ∧ i ≤ j ∧ j ≤ S.safe.length ∧ DevAt wr d1 S1 ∧ d1.p = d.p ∧ (∀ b ∈ d1.blocks, b ∈ d.blocks ∨ w.heap.size ≤ b) ∧ Fr w wr d.blocks ∧ S1.Ok ∧ S1.fuse ≤ 9223372036854775807 ∧ S1.safe.length = S.safe.length ∧ S1.wait.length ≤ S.wait.length + (j - i) ∧ wipeOf S i = wipeF S1 (S.safe.length - j) j) (fun iv _ => S.safe.length - (intOf iv).toNat)
  case atStart => exact ⟨i, S, d, rfl, Nat.le_refl _, hi, H1, rfl, fun b hb => .inl hb, F1, ok, hf, rfl, by omega, rfl⟩
  case round =>
    clear H1 F1
    obtain ⟨j, S1, d1, rfl, hij, hjn, hR, hq, hsub, hfr, ok1, hf1, hl1, hw1, hwp⟩ := hrel
    have hS := devSectors_any hR ok1
    rw [hq, hl1] at hS
    have HR : Hid _ := hR
    have HL : Hid _ := hl1
    have HWt : Hid _ := hw1
    have hFar1 : Far d1 := Far.step HFar.out HHG.out hsub
    have hG1 : Glob a wr := HGl.out.fr hfr HFar.out
    by_cases hlt : j < S.safe.length
    · have j0 : (0 : Int) ≤ (j : Int) := by omega
      have j1 : (j : Int) < (S.safe.length : Int) := by omega
      have hRd := devRead_any hR ok1 j (by omega)
      rw [hq] at hRd
      rw [show S.safe.length - j = (S.safe.length - (j + 1)) + 1 by omega, wipeF] at hwp
      have HW : Hid (∀ w2, DevAt w2 d1 S1 → Fr wr w2 [d.p] → Calls Tryz.prog 81 #[.pointer (some ⟨d.p, 0, none⟩), .int .i64 (j : Nat), .string zero64] w2 fun e w' => e = .returned (errOf a (writeOf S1 j zero64).2) ∧ DevDone wr w' d1 (writeOf S1 j zero64).1) := by
        intro w2 h2 f2
        have hd2 : ∀ b ∈ [d.p], 18 ≤ b := by intro b hb; rw [List.mem_singleton.1 hb]; exact Far.p HFar.out
        have := devWriteOf (hG1.fr f2 hd2) h2 hFar1 ok1 hf1 j (by omega) zero64 zero64_size (by omega)
        rw [hq] at this
        refine this.mono ?_
        rintro e w' ⟨rfl, hd⟩
        exact ⟨rfl, DevDone.trans rfl (fun b hb => .inl hb) (f2.wider (by rw [← hq]; simp [DP.blocks])) hd⟩
      have ok2 : Hid (writeOf S1 j zero64).1.Ok := writeOf_ok ok1 j (by omega) zero64 zero64_size (by omega)
      have hf2 : Hid _ := writeOf_fuse hf1 j zero64
      have hs2 := writeOf_safe S1 j zero64
      have hw2 := writeOf_wait S1 j zero64
      generalize writeOf S1 j zero64 = W at *
      obtain ⟨S2, c2⟩ := W
      simp only at HW ok2 hs2 hw2 hwp hf2
      clear hl1 hw1 hR hG1
      generalize S1.seen.getD j ByteArray.empty = y at *
      generalize zero64 = z at *
      have HD : Hid (∀ w2, DevAt w2 d1 S1 → Fr wr w2 [d.p] → Fr w w2 d.blocks) := fun w2 h2 f2 => hfr.trans f2 (fun x hx _ => by rw [List.mem_singleton.1 hx]; simp [DP.blocks])
      by_cases hyz : y = z
      · rw [if_pos hyz] at hwp
        have hb : (y.toList == z.toList) = true := by rw [str_beq, decide_eq_true hyz]
        have HP : Hid _ := hwp
        clear hwp HW
        go_wp2_with (first
          | (go_at_call 62; refine hS.mono ?_; rintro e w2 ⟨rfl, rfl⟩)
          | (go_at_call 84; refine hRd.mono ?_; rintro e w2 ⟨rfl, h2, f2⟩))
        exact ⟨⟨j + 1, S1, d1, by go_num, by omega, by omega, h2, hq, hsub, HD.out w2 h2 f2, ok1, hf1, HL.out, by have := HWt.out; omega, HP.out⟩, by simp [intOf]; omega⟩
      · rw [if_neg hyz] at hwp
        have hb : (y.toList == z.toList) = false := by rw [str_beq, decide_eq_false hyz]
        by_cases hc : c2 = 0
        · subst hc
          rw [if_neg (by simp)] at hwp
          have HP : Hid _ := hwp
          clear hwp
          rw [errOf_zero] at HW
          go_wp2_with (first
            | (go_at_call 62; refine hS.mono ?_; rintro e w2 ⟨rfl, rfl⟩)
            | (go_at_call 84; refine hRd.mono ?_; rintro e w2 ⟨rfl, h2, f2⟩)
            | (go_at_call 81; refine (HW.out w2 h2 f2).mono ?_; rintro e w3 ⟨rfl, hd⟩))
          obtain ⟨d2, a1, a2, a3, a4⟩ := DevDone.trans hq hsub hfr hd
          exact ⟨⟨j + 1, S2, d2, by go_num, by omega, by omega, a1, a2, a3, a4, ok2.out, hf2.out, by rw [hs2]; exact HL.out, by have := HWt.out; omega, HP.out⟩, by simp [intOf]; omega⟩
        · rw [if_pos hc] at hwp
          have HP : Hid _ := hwp
          clear hwp
          rw [errOf_pos a hc] at HW
          unfold errV at HW
          go_wp2_with (first
            | (go_at_call 62; refine hS.mono ?_; rintro e w2 ⟨rfl, rfl⟩)
            | (go_at_call 84; refine hRd.mono ?_; rintro e w2 ⟨rfl, h2, f2⟩)
            | (go_at_call 81; refine (HW.out w2 h2 f2).mono ?_; rintro e w3 ⟨rfl, hd⟩))
          go_ret
          exact ⟨by rw [HP.out, errOf_pos a hc]; rfl, by rw [HP.out]; exact DevDone.trans hq hsub hfr hd⟩
    · have ej : S.safe.length - j = 0 := by omega
      rw [ej, wipeF] at hwp
      have j1 : ¬ (j : Int) < (S.safe.length : Int) := by omega
      have HFl : Hid (Calls Tryz.prog 83 #[.pointer (some ⟨d.p, 0, none⟩)] wr fun e w' => e = .returned (errOf a (flushOf S1).2) ∧ DevDone wr w' d1 (flushOf S1).1) := by
        rw [← hq]
        exact devFlushOf hG1 hR hFar1 ok1 hf1
      have HP : Hid _ := hwp
      clear hwp hR hl1 hw1 hG1
      go_wp2_with (first
        | (go_at_call 62; refine hS.mono ?_; rintro e w2 ⟨rfl, rfl⟩)
        | (go_at_call 83; refine Calls.mono HFl.out ?_; rintro e w3 ⟨rfl, hd⟩))
      go_ret
      exact ⟨by rw [HP.out]; rfl, by rw [HP.out]; exact DevDone.trans hq hsub hfr hd⟩
end Go.Proofs.YtdidjdoifpfmmaaGreatDoor
/- The program's Format. -/
namespace Go.Proofs.YtdidjdoifpfmmaaGreatDoor
open Go.RowKit
theorem wipeOf_fuse {S : Dk} (h : S.fuse ≤ 9223372036854775807) (i : Nat) : (wipeOf S i).1.fuse ≤ 9223372036854775807 := wipeF_fuse _ _ _ h
set_option maxRecDepth 100000 in
set_option maxHeartbeats 2000000 in
theorem devFormat_any {a : Nat → Addr} {w : World} {d : DP} {S : Dk} (G : Glob a w) (h : DevAt w d S) (hF : Far d) (ok : S.Ok) (hf : S.fuse ≤ 9223372036854775807) (hfew : S.wait.length ≤ 800000) (hG : 18 ≤ w.heap.size) :
    Calls Tryz.prog 44 #[.pointer (some ⟨d.p, 0, none⟩)] w fun e w' => e = .returned (errOf a (formatOf S).2) ∧ DevDone w w' d (formatOf S).1 := by
  have hmost := ok.most
  have hS := devSectors_any h ok
  by_cases h4 : S.safe.length < 4
  · have he : Hid (formatOf S = (S, 1)) := by show formatOf S = _; unfold formatOf; rw [if_pos h4]
    have H : Hid _ := h
    clear h
    have h4' : (S.safe.length : Int) < 4 := by omega
    have e0 := G.err 0 (by decide)
    go_enter Tryz.func44, Tryz.ntmps44
    go_wp2_with (go_at_call 62; refine hS.mono ?_; rintro e w2 ⟨rfl, rfl⟩)
    go_ret
    exact ⟨by rw [he.out]; rfl, by rw [he.out]; exact H.out.done (Fr.refl _ []) (by simp)⟩
  · have h4' : ¬ (S.safe.length : Int) < 4 := by omega
    have hWi := devWipe_any G h hF ok hf (by omega) hG 0 (Nat.zero_le _)
    obtain ⟨ok1, hl1, hw1⟩ := wipeOf_facts ok (by omega) 0 (Nat.zero_le _)
    have hf1 := wipeOf_fuse hf 0
    have he : formatOf S = if (wipeOf S 0).2 ≠ 0 then wipeOf S 0 else if (writeOf (wipeOf S 0).1 0 (superT S.safe.length)).2 ≠ 0 then writeOf (wipeOf S 0).1 0 (superT S.safe.length) else flushOf (writeOf (wipeOf S 0).1 0 (superT S.safe.length)).1 := by
      unfold formatOf; rw [if_neg h4]
    generalize wipeOf S 0 = W at *
    obtain ⟨S1, k1⟩ := W
    simp only at hWi ok1 hl1 hw1 he hf1
    have okw := writeOf_ok ok1 0 (by omega) (superT S.safe.length) (superT_size _) (by omega)
    have hsw := writeOf_safe S1 0 (superT S.safe.length)
    have hfw := writeOf_fuse hf1 0 (superT S.safe.length)
    have HHd : Hid (∀ w1, Calls Tryz.prog 82 #[.int .i64 (S.safe.length : Nat)] w1 fun e w' => e = .returned (.string (superT S.safe.length)) ∧ Below w1.heap.size w1 w') := fun w1 => devHead S.safe.length hmost w1
    have HGl : Hid (∀ w1 d1, Fr w w1 d.blocks → (∀ b ∈ DP.blocks d1, b ∈ d.blocks ∨ w.heap.size ≤ b) → Glob a w1 ∧ Far d1) := fun w1 d1 f1 hs1 => ⟨G.fr f1 hF, hF.step hG hs1⟩
    clear h hF G
    by_cases hk : k1 = 0
    · subst hk
      rw [errOf_zero] at hWi
      rw [if_neg (by simp)] at he
      have HS : Hid (∀ w1 d1, DevAt w1 d1 S1 → Calls Tryz.prog 62 #[.pointer (some ⟨d1.p, 0, none⟩)] w1 fun e w' => e = .returned (.int .i64 (S.safe.length : Nat)) ∧ w1 = w') := fun w1 d1 hd => by have := devSectors_any hd ok1; rw [hl1] at this; exact this
      have HW : Hid (∀ w1 d1, DevAt w1 d1 S1 → Glob a w1 → Far d1 → Calls Tryz.prog 81 #[.pointer (some ⟨d1.p, 0, none⟩), .int .i64 0, .string (superT S.safe.length)] w1 fun e w' => e = .returned (errOf a (writeOf S1 0 (superT S.safe.length)).2) ∧ DevDone w1 w' d1 (writeOf S1 0 (superT S.safe.length)).1) := fun w1 d1 hr g1 f1 => devWriteOf g1 hr f1 ok1 hf1 0 (by omega) _ (superT_size _) (by omega)
      generalize writeOf S1 0 (superT S.safe.length) = X at *
      obtain ⟨S2, k2⟩ := X
      simp only at HW okw he hsw hfw
      by_cases hk2 : k2 = 0
      · subst hk2
        rw [errOf_zero] at HW
        rw [if_neg (by simp)] at he
        have HFl : Hid (∀ w1 d1, DevAt w1 d1 S2 → Glob a w1 → Far d1 → Calls Tryz.prog 83 #[.pointer (some ⟨d1.p, 0, none⟩)] w1 fun e w' => e = .returned (errOf a (flushOf S2).2) ∧ DevDone w1 w' d1 (flushOf S2).1) := fun w1 d1 hr g1 f1 => devFlushOf g1 hr f1 okw hfw
        have HE : Hid _ := he
        clear he
        generalize superT S.safe.length = st at *
        generalize flushOf S2 = Y at *
        obtain ⟨S3, k3⟩ := Y
        simp only at HFl
        go_enter Tryz.func44, Tryz.ntmps44
        go_wp2_with (first
          | (go_at_call 62; refine hS.mono ?_; rintro e w0 ⟨rfl, rfl⟩; clear hS)
          | (go_at_call 80; refine hWi.mono ?_; rintro e w1 ⟨rfl, hd⟩; clear hWi; obtain ⟨d1, a1, a2, a3, a4⟩ := hd; have hS1 := HS.out w1 d1 a1; rw [a2] at hS1; have A1 : Hid _ := a1; have A3 : Hid _ := a3; have A4 : Hid _ := a4; clear a1 a3 a4)
          | (go_at_call 62; refine hS1.mono ?_; rintro e w2 ⟨rfl, rfl⟩; clear hS1)
          | (go_at_call 82; refine (HHd.out _).mono ?_; rintro e w3 ⟨rfl, hb3⟩; have A5 : Hid (Fr w w3 d.blocks) := A4.out.trans (Fr.of_below hb3 []) (fun x hx => nomatch hx); have hW := HW.out w3 d1 (A1.out.below hb3) (HGl.out w3 d1 A5.out A3.out).1 (HGl.out w3 d1 A5.out A3.out).2; rw [a2] at hW)
          | (go_at_call 81; refine hW.mono ?_; rintro e w4 ⟨rfl, hd2⟩; clear hW; have HD : Hid _ := DevDone.trans a2 A3.out A5.out hd2; clear hd2; obtain ⟨d3, b1, b2, b3, b4⟩ := HD.out; have hFl := HFl.out w4 d3 b1 (HGl.out w4 d3 b4 b3).1 (HGl.out w4 d3 b4 b3).2; rw [b2] at hFl; have B3 : Hid _ := b3; have B4 : Hid _ := b4; clear b1 b3 b4)
          | (go_at_call 83; refine hFl.mono ?_; rintro e w5 ⟨rfl, hd5⟩; clear hFl))
        go_ret
        exact ⟨by rw [HE.out]; rfl, by rw [HE.out]; exact DevDone.trans b2 B3.out B4.out hd5⟩
      · rw [if_pos hk2] at he
        rw [errOf_pos a hk2] at HW
        unfold errV at HW
        have HE : Hid _ := he
        clear he
        generalize superT S.safe.length = st at *
        go_enter Tryz.func44, Tryz.ntmps44
        go_wp2_with (first
          | (go_at_call 62; refine hS.mono ?_; rintro e w0 ⟨rfl, rfl⟩; clear hS)
          | (go_at_call 80; refine hWi.mono ?_; rintro e w1 ⟨rfl, hd⟩; clear hWi; obtain ⟨d1, a1, a2, a3, a4⟩ := hd; have hS1 := HS.out w1 d1 a1; rw [a2] at hS1; have A1 : Hid _ := a1; have A3 : Hid _ := a3; have A4 : Hid _ := a4; clear a1 a3 a4)
          | (go_at_call 62; refine hS1.mono ?_; rintro e w2 ⟨rfl, rfl⟩; clear hS1)
          | (go_at_call 82; refine (HHd.out _).mono ?_; rintro e w3 ⟨rfl, hb3⟩; have A5 : Hid (Fr w w3 d.blocks) := A4.out.trans (Fr.of_below hb3 []) (fun x hx => nomatch hx); have hW := HW.out w3 d1 (A1.out.below hb3) (HGl.out w3 d1 A5.out A3.out).1 (HGl.out w3 d1 A5.out A3.out).2; rw [a2] at hW)
          | (go_at_call 81; refine hW.mono ?_; rintro e w4 ⟨rfl, hd2⟩; clear hW; have HD : Hid _ := DevDone.trans a2 A3.out A5.out hd2; clear hd2))
        go_ret
        exact ⟨by rw [HE.out, errOf_pos a hk2]; rfl, by rw [HE.out]; exact HD.out⟩
    · rw [if_pos hk] at he
      rw [errOf_pos a hk] at hWi
      unfold errV at hWi
      have HE : Hid _ := he
      clear he
      go_enter Tryz.func44, Tryz.ntmps44
      go_wp2_with (first
        | (go_at_call 62; refine hS.mono ?_; rintro e w0 ⟨rfl, rfl⟩; clear hS)
        | (go_at_call 80; refine hWi.mono ?_; rintro e w1 ⟨rfl, hd⟩; clear hWi))
      go_ret
      exact ⟨by rw [HE.out, errOf_pos a hk]; rfl, by rw [HE.out]; exact hd⟩
end Go.Proofs.YtdidjdoifpfmmaaGreatDoor
/- The program's newObjects, newScan. -/
namespace Go.Proofs.YtdidjdoifpfmmaaGreatDoor
open Go.RowKit
def mapsV (ms : List Nat) : List Value := ms.map fun m => .map (some m)
/-- Maps that were made, and are empty. -/
structure NewMaps (w : World) (B : Nat) (ms : List Nat) : Prop where
  empty : ∀ m ∈ ms, w.heap[m]? = some (.map #[] 0)
  far : ∀ m ∈ ms, B ≤ m
  apart : ms.Pairwise (· < ·)
theorem NewMaps.lt {w : World} {B : Nat} {ms : List Nat} (h : NewMaps w B ms) : ∀ m ∈ ms, m < w.heap.size := fun m hm => (Array.getElem?_eq_some_iff.1 (h.empty m hm)).1
theorem NewMaps.fr {w w' : World} {B : Nat} {ms bs : List Nat} (h : NewMaps w B ms) (f : Fr w w' bs) (hb : ∀ m ∈ ms, m ∉ bs) : NewMaps w' B ms :=
  ⟨fun m hm => by rw [f.block m (h.lt m hm) (hb m hm)]; exact h.empty m hm, h.far, h.apart⟩
theorem NewMaps.snoc {w : World} {B : Nat} {ms : List Nat} (h : NewMaps w B ms) (hB : B ≤ w.heap.size) : NewMaps (w.alloc (.map #[] 0)) B (ms ++ [w.heap.size]) := by
  have hl := h.lt
  refine ⟨fun m hm => ?_, fun m hm => ?_, ?_⟩
  · rcases List.mem_append.1 hm with hm | hm
    · rw [heap_alloc_old _ _ (hl m hm)]; exact h.empty m hm
    · rw [List.mem_singleton.1 hm]; exact heap_alloc_new _ _
  · rcases List.mem_append.1 hm with hm | hm
    · exact h.far m hm
    · rw [List.mem_singleton.1 hm]; exact hB
  · rw [List.pairwise_append]
    refine ⟨h.apart, List.pairwise_singleton _ _, fun x hx y hy => ?_⟩
    rw [List.mem_singleton.1 hy]
    exact hl x hx
theorem set_next (ms : List Nat) (k : Nat) (v : Value) (x : Value) : ((mapsV ms) ++ List.replicate (k + 1) x).set ms.length v = mapsV ms ++ v :: List.replicate k x := by
  have hl : (mapsV ms).length = ms.length := by simp [mapsV]
  rw [← hl, List.set_append]
  simp [List.replicate_succ]
theorem mapsV_snoc (ms : List Nat) (m : Nat) (l : List Value) : mapsV ms ++ .map (some m) :: l = mapsV (ms ++ [m]) ++ l := by simp [mapsV]
set_option maxRecDepth 100000 in
set_option maxHeartbeats 2000000 in
theorem devNewObjects (w : World) :
    Calls Tryz.prog 149 #[] w fun e w' => ∃ ms : List Nat, ms.length = 4 ∧ e = .returned (.agg (mapsV ms).toArray) ∧ NewMaps w' w.heap.size ms ∧ Below w.heap.size w w' := by
  have hmm : ∀ (t : TypeId) (w : World), (Instr.makeMap t none).run Tryz.prog w = .ok (.map (some w.heap.size)) (w.alloc (.map #[] 0)) := fun t w => run_makeMap t w
  go_enter Tryz.func149, Tryz.ntmps149
  go_wp2
  go_loopw [3] (fun iv wr => ∃ (j : Nat) (ms : List Nat), iv = .int .i64 j ∧ j = ms.length ∧ j ≤ 4 ∧ RowIs wr w.heap.size 114 (List.replicate 4 (.map none)) ∧ RowIs wr (w.heap.size + 1) 114 (mapsV ms ++ List.replicate (4 - j) (.map none)) ∧ NewMaps wr (w.heap.size + 2) ms ∧ w.heap.size + 2 ≤ wr.heap.size ∧ Below w.heap.size w wr) (fun iv _ => 4 - (intOf iv).toNat)
  case atStart =>
    refine ⟨0, [], rfl, rfl, by decide, ?_, ?_, ⟨by simp, by simp, List.Pairwise.nil⟩, by simp, ((Below.refl _ w).alloc (Nat.le_refl _) _).alloc (by simp) _⟩
    · exact ⟨by rw [heap_alloc_old _ _ (by simp)]; exact heap_alloc_new _ _⟩
    · exact ⟨by have := heap_alloc_new (w.alloc (.cells (List.replicate 4 (.map none)).toArray 114)) (.cells (List.replicate 4 (.map none)).toArray 114); simpa [mapsV] using this⟩
  case round =>
    obtain ⟨j, ms, rfl, hj, hj4, r0, r1, hN, hsz, hB⟩ := hrel
    by_cases hlt : j < 4
    · have j1 : (j : Int) < 4 := by omega
      have j0 : (0 : Int) ≤ (j : Int) := by omega
      have r1' : RowIs (wr.alloc (.map #[] 0)) (w.heap.size + 1) 114 (mapsV ms ++ List.replicate (4 - j) (.map none)) := ⟨by rw [heap_alloc_old _ _ (by omega)]; exact r1.heap⟩
      have c1 : (wr.alloc (.map #[] 0)).cell? ⟨w.heap.size + 1, j, none⟩ = some (.map none) := by
        rw [r1'.cell j, List.getElem?_append_right (by simp [mapsV]; omega)]
        simp only [mapsV, List.length_map, ← hj]
        rw [Nat.sub_self, List.getElem?_replicate, if_pos (by omega)]
      have f1 := r1'.frozen j
      have HJ : Hid _ := hj
      clear hj
      go_wp2
      refine ⟨⟨j + 1, ms ++ [wr.heap.size], by go_num, by rw [List.length_append, HJ.out]; rfl, by omega, ?_, ?_, ?_, ?_, ?_⟩, by simp [intOf]; omega⟩
      · have r0' : RowIs (wr.alloc (.map #[] 0)) w.heap.size 114 (List.replicate 4 (.map none)) := ⟨by rw [heap_alloc_old _ _ (by omega)]; exact r0.heap⟩
        exact r0'.other _ (by show w.heap.size ≠ w.heap.size + 1; omega)
      · have := r1'.set j (.map (some wr.heap.size))
        rw [HJ.out, show 4 - ms.length = (4 - (ms.length + 1)) + 1 by have := HJ.out; omega, set_next, mapsV_snoc, ← HJ.out] at this
        exact this
      · refine (hN.snoc (by omega)).fr (bs := [w.heap.size + 1]) ((Fr.refl _ _).setCell _ _ (.inl (by simp))) (fun m hm he => ?_)
        have := (hN.snoc (by omega)).far m hm
        have := List.mem_singleton.1 he
        omega
      · simp; omega
      · exact (hB.alloc (by omega) _).setCell (by show w.heap.size ≤ w.heap.size + 1; omega) _
    · have e4 : j = 4 := by omega
      subst e4
      obtain ⟨m0, m1, m2, m3, rfl⟩ : ∃ m0 m1 m2 m3, ms = [m0, m1, m2, m3] := by
        match ms, hj with
        | [m0, m1, m2, m3], _ => exact ⟨_, _, _, _, rfl⟩
      have c0 : wr.cell? ⟨w.heap.size + 1, 0, none⟩ = some (.map (some m0)) := r1.cell 0
      have c1 : wr.cell? ⟨w.heap.size + 1, 1, none⟩ = some (.map (some m1)) := r1.cell 1
      have c2 : wr.cell? ⟨w.heap.size + 1, 2, none⟩ = some (.map (some m2)) := r1.cell 2
      have c3 : wr.cell? ⟨w.heap.size + 1, 3, none⟩ = some (.map (some m3)) := r1.cell 3
      have d0 : wr.cell? ⟨w.heap.size, 0, none⟩ = some (.map none) := r0.cell 0
      have d1 : wr.cell? ⟨w.heap.size, 1, none⟩ = some (.map none) := r0.cell 1
      have d2 : wr.cell? ⟨w.heap.size, 2, none⟩ = some (.map none) := r0.cell 2
      have d3 : wr.cell? ⟨w.heap.size, 3, none⟩ = some (.map none) := r0.cell 3
      have f0 := r0.frozen 0
      have f1 := r0.frozen 1
      have f2 := r0.frozen 2
      have f3 := r0.frozen 3
      have HR : Hid _ := r0
      clear hj
      go_wp2
      have r3 := (((HR.out.set 0 (.map (some m0))).set 1 (.map (some m1))).set 2 (.map (some m2))).set 3 (.map (some m3))
      refine bodyPost_ret (results_cell_row (P := Tryz.prog) Tryz.results149 _ _ w.heap.size _ _ _ _ rfl r3.heap Tryz.underlying114 rfl (by kernel_rfl)) rfl ⟨[m0, m1, m2, m3], rfl, rfl, ?_, ?_⟩
      · have hN2 : NewMaps wr w.heap.size [m0, m1, m2, m3] := ⟨hN.empty, fun m hm => by have := hN.far m hm; omega, hN.apart⟩
        refine hN2.fr (bs := [w.heap.size]) (((((Fr.refl _ _).setCell _ _ (.inl (by simp))).setCell _ _ (.inl (by simp))).setCell _ _ (.inl (by simp))).setCell _ _ (.inl (by simp))) (fun m hm he => ?_)
        have := hN.far m hm
        have := List.mem_singleton.1 he
        omega
      · exact (((hB.setCell (Nat.le_refl _) _).setCell (Nat.le_refl _) _).setCell (Nat.le_refl _) _).setCell (Nat.le_refl _) _
theorem scanInfo : (Tryz.prog.info? 169).map (fun i => (i.zero, i.size)) = some (some (.agg #[.map none, .map none, .map none, .map none, .map none, .slice none 0 0]), 6) := by kernel_rfl
set_option maxRecDepth 100000 in
set_option maxHeartbeats 2000000 in
/-- newScan: a row of four maps of objects, a map of extents, no snapshot. -/
theorem devNewScan (w : World) :
    Calls Tryz.prog 85 #[] w fun e w' => ∃ (ms : List Nat) (mx b : Nat), ms.length = 4 ∧ e = .returned (.pointer (some ⟨b, 0, none⟩)) ∧ RowIs w' b 169 (mapsV ms ++ [.map (some mx), .slice none 0 0]) ∧ NewMaps w' w.heap.size (ms ++ [mx]) ∧ mx < b ∧ Below w.heap.size w w' := by
  have hmm : ∀ (t : TypeId) (w : World), (Instr.makeMap t none).run Tryz.prog w = .ok (.map (some w.heap.size)) (w.alloc (.map #[] 0)) := fun t w => run_makeMap t w
  have c := devNewObjects w
  go_enter Tryz.func85, Tryz.ntmps85
  go_wp2_with (go_at_call 149; refine c.mono ?_; rintro e w1 ⟨ms, hl, rfl, hN, hb⟩; obtain ⟨m0, m1, m2, m3, rfl⟩ : ∃ m0 m1 m2 m3, ms = [m0, m1, m2, m3] := (by match ms, hl with | [m0, m1, m2, m3], _ => exact ⟨_, _, _, _, rfl⟩); have ev : (mapsV [m0, m1, m2, m3]).toArray = #[.map (some m0), .map (some m1), .map (some m2), .map (some m3)] := rfl; rw [ev]; clear ev hl)
  have hs := hb.size
  have h1 : Below w.heap.size w (w1.alloc (.map #[] 0)) := hb.alloc hs _
  refine bodyPost_ret (results_tmp rfl _ _ _) rfl ⟨[m0, m1, m2, m3], w1.heap.size, w1.heap.size + 1, rfl, rfl, ?_, ?_, by omega, h1.alloc (by simp; omega) _⟩
  · have := RowIs.new (w1.alloc (.map #[] 0)) 169 [.map (some m0), .map (some m1), .map (some m2), .map (some m3), .map (some w1.heap.size), .slice none 0 0]
    rw [show (w1.alloc (.map #[] 0)).heap.size = w1.heap.size + 1 by simp] at this
    exact this
  · exact (hN.snoc hs).fr (bs := []) ((Fr.refl _ _).alloc _) (by simp)
end Go.Proofs.YtdidjdoifpfmmaaGreatDoor
/- The document's number, sectors, next at a sector of zeros. -/
namespace Go.Proofs.YtdidjdoifpfmmaaGreatDoor
open Go.RowKit
theorem results_four {fn : Func} {a b c d : Tmp} (h : fn.results = #[.tmp a, .tmp b, .tmp c, .tmp d]) (tmps : Array Value) (P : Program) (w : World) :
    (results fn tmps).run P w = .ok (.tuple #[tmps.getD a undef, tmps.getD b undef, tmps.getD c undef, tmps.getD d undef]) w := by
  simp [results, h]
def numOf (l : List Nat) : Nat := l.foldl (fun v b => 256 * v + b) 0
theorem numOf_snoc (l : List Nat) (b : Nat) : numOf (l ++ [b]) = 256 * numOf l + b := by simp [numOf]
theorem numFrom_lt : ∀ (l : List Nat) (v : Nat), (∀ x ∈ l, x < 256) → l.foldl (fun v b => 256 * v + b) v < (v + 1) * 256 ^ l.length
  | [], v, _ => by simp
  | b :: l, v, h => by
    have h1 := numFrom_lt l (256 * v + b) (fun x hx => h x (List.mem_cons_of_mem _ hx))
    have h2 := h b List.mem_cons_self
    refine Nat.lt_of_lt_of_le h1 ?_
    rw [List.length_cons, Nat.pow_succ, Nat.mul_comm (256 ^ l.length) 256, ← Nat.mul_assoc]
    exact Nat.mul_le_mul_right _ (by omega)
theorem numOf_lt (l : List Nat) (h : ∀ x ∈ l, x < 256) : numOf l < 256 ^ l.length := by
  have := numFrom_lt l 0 h
  rwa [Nat.zero_add, Nat.one_mul] at this
set_option maxHeartbeats 1000000 in
set_option maxRecDepth 3000 in
theorem refNumber_any (s : ByteArray) (w : World) (hs : s.size ≤ 6) :
    Calls Tryz.prog 252 #[.string s] w fun e w' => e = .returned (.int .i64 (numOf (textOf s) : Nat)) ∧ w = w' := by
  go_enter Tryz.func252, Tryz.ntmps252
  go_wp2
  go_loop [3, 4] (fun r i => ∃ k : Nat, k ≤ s.size ∧ i = .int .i64 k ∧ r = .int .i64 (numOf ((textOf s).take k) : Nat)) (fun _ i => s.size - (intOf i).toNat)
  case atStart => exact ⟨0, Nat.zero_le _, rfl, rfl⟩
  case round =>
    obtain ⟨k, hk, rfl, rfl⟩ := hrel
    by_cases hks : k < s.size
    · have hlt : numOf ((textOf s).take k) < 1099511627776 := by
        refine Nat.lt_of_lt_of_le (numOf_lt _ (fun x hx => textOf_lt s x (List.mem_of_mem_take hx))) ?_
        rw [List.length_take, textOf_len]
        exact Nat.pow_le_pow_right (n := 256) (j := 5) (by decide) (by omega)
      have hfin : Hid (numOf ((textOf s).take (k + 1)) = 256 * numOf ((textOf s).take k) + (s[k]).toNat) := by
        show numOf _ = _
        rw [textOf_take s k hks, numOf_snoc]
      have hb : (s[k]).toNat < 256 := (s[k]).toNat_lt
      generalize numOf ((textOf s).take k) = r at *
      go_wp2
      go_round
      case rel => exact ⟨k + 1, by omega, by go_num, by rw [hfin.out]; go_num⟩
      case measure => simp [intOf]; omega
    · have hkk : k = s.size := by omega
      subst hkk
      have he : Hid ((textOf s).take s.size = textOf s) := by show _ = _; rw [← textOf_len, List.take_length]
      go_wp2
      go_ret
      exact ⟨by rw [he.out]; rfl, rfl⟩
set_option maxHeartbeats 1000000 in
theorem refSectors_any (n : Nat) (hn : n ≤ 1000000) (w : World) :
    Calls Tryz.prog 127 #[.int .i64 (n : Nat)] w fun e w' => e = .returned (.int .i64 ((11 + n + 63) / 64 : Nat)) ∧ w = w' := by
  go_enter Tryz.func127, Tryz.ntmps127
  go_wp2
  go_ret
  exact ⟨by go_num, rfl⟩
/-- An archive's place in the document's memory: who makes, its disk, where the next record is, its number, the last one's sum. -/
def ArRow (m : Value) (q at_ seq chain : Nat) (hs is v : Value) (dn : Bool) : List Value := [m, .pointer (some ⟨q, 0, none⟩), .int .i64 (at_ : Nat), .int .i64 (seq : Nat), .int .i64 (chain : Nat), hs, is, v, .bool dn]
set_option maxRecDepth 100000 in
set_option maxHeartbeats 2000000 in
theorem refNext_zero {w : World} {r : RD} {S : Dk} {left : Int} {lit : Bool} (h : RefAt w r S left lit) (ok : S.Ok) (p at_ : Nat) (c1 : w.cell? ⟨p, 1, none⟩ = some (.pointer (some ⟨r.q, 0, none⟩))) (c2 : w.cell? ⟨p, 2, none⟩ = some (.int .i64 (at_ : Nat))) (ha : at_ < S.safe.length) (hz : S.seen.getD at_ ByteArray.empty = zero64) :
    Calls Tryz.prog 191 #[.pointer (some ⟨p, 0, none⟩)] w fun e w' => e = .returned (.tuple #[.int .i64 0, .string ⟨#[]⟩, .int .i64 0, .bool false]) ∧ Below w.heap.size w w' := by
  have hmost := ok.most
  have d1 : w.cell? ⟨r.q, 1, none⟩ = some (.slice (some ⟨r.gE, 0, none⟩) S.safe.length r.cE) := h.row.cell 1
  have cy : w.cell? ⟨r.gE, at_, none⟩ = some (.string zero64) := by
    have := h.seen.cell at_ (by rw [strs_length, S.seen_length]; omega)
    rw [strs_get _ _ (by rw [S.seen_length]; omega), hz] at this
    exact this
  have z1 := zero64_size
  have HN : Hid (∀ w1, Calls Tryz.prog 252 #[.string (zero64.extract 0 2)] w1 fun e w' => e = .returned (.int .i64 0) ∧ w1 = w') := fun w1 => by
    have hN := refNumber_any (zero64.extract 0 2) w1 (by decide +kernel)
    rw [show numOf (textOf (zero64.extract 0 2)) = 0 by decide +kernel] at hN
    exact hN
  have HS : Hid (∀ w1, Calls Tryz.prog 127 #[.int .i64 0] w1 fun e w' => e = .returned (.int .i64 1) ∧ w1 = w') := fun w1 => refSectors_any 0 (by decide) w1
  have hb2 : ∀ (hx : 2 < zero64.size), (zero64[2]'hx).toNat = 0 := by
    intro hx
    have e : (zero64[2]'(by decide +kernel)).toNat = 0 := by decide +kernel
    exact e
  have a0 : (0 : Int) ≤ (at_ : Int) := by omega
  have a1 : (at_ : Int) < (S.safe.length : Int) := by omega
  have a2 : ¬ (S.safe.length : Int) ≤ (at_ : Int) := by omega
  clear h hz
  generalize zero64 = z at *
  have hk := hb2 (by omega)
  go_enter Tryz.func191, Tryz.ntmps191
  go_wp2
  go_region
  go_wp2
  go_region
  go_wp2_with (first
    | (go_at_call 252; refine (HN.out _).mono ?_; rintro e w1 ⟨rfl, rfl⟩)
    | (go_at_call 127; refine (HS.out _).mono ?_; rintro e w1 ⟨rfl, rfl⟩))
  go_quiet (fail)
  go_wp2
  refine bodyPost_ret (results_four rfl _ _ _) rfl ?_
  exact ⟨rfl, (((Below.refl _ _).drew).drew).trans ⟨rfl, rfl, rfl, Nat.le_refl _, fun _ _ => rfl⟩⟩
end Go.Proofs.YtdidjdoifpfmmaaGreatDoor
/- The document's MountDisk where there is no record. -/
namespace Go.Proofs.YtdidjdoifpfmmaaGreatDoor
open Go.RowKit
set_option maxRecDepth 100000 in
set_option maxHeartbeats 2000000 in
theorem refMount_none {w : World} {r : RD} {S : Dk} {left : Int} {lit : Bool} (h : RefAt w r S left lit) (ok : S.Ok) (m : Value) (hno : S.safe.length < 4 ∨ S.seen.getD 0 ByteArray.empty ≠ superT S.safe.length) :
    Calls Tryz.prog 122 #[m, .pointer (some ⟨r.q, 0, none⟩)] w fun e w' => e = .returned (.tuple #[.pointer none, .int .i64 3]) ∧ Below w.heap.size w w' := by
  have hmost := ok.most
  have hpos := ok.pos
  have c1 : w.cell? ⟨r.q, 1, none⟩ = some (.slice (some ⟨r.gE, 0, none⟩) S.safe.length r.cE) := h.row.cell 1
  have hS := refSuper_any S.safe.length (by omega) w
  have C : Hid (∀ w1, Below w.heap.size w w1 → w1.cell? ⟨r.q, 1, none⟩ = some (.slice (some ⟨r.gE, 0, none⟩) S.safe.length r.cE) ∧ w1.cell? ⟨r.gE, 0, none⟩ = some (.string (S.seen.getD 0 ByteArray.empty))) := fun w1 hb => by
    have h1 := h.below hb
    refine ⟨h1.row.cell 1, ?_⟩
    have := h1.seen.cell 0 (by rw [strs_length, S.seen_length]; omega)
    rw [strs_get _ _ (by rw [S.seen_length]; omega)] at this
    exact this
  clear h
  have hb0 : Hid (4 ≤ S.safe.length → ((S.seen.getD 0 ByteArray.empty).toList == (superT S.safe.length).toList) = false) := fun h4 => by
    rw [str_beq]
    exact decide_eq_false (hno.resolve_left (by omega))
  clear hno
  generalize superT S.safe.length = st at *
  generalize superSum S.safe.length = sc at *
  generalize S.seen.getD 0 ByteArray.empty = y at *
  by_cases h4 : S.safe.length < 4
  · have h4' : (S.safe.length : Int) < 4 := by omega
    go_enter Tryz.func122, Tryz.ntmps122
    go_wp2_with (go_at_call 190; refine hS.mono ?_; rintro e w1 ⟨rfl, hb⟩; clear hS; obtain ⟨x1, x2⟩ := C.out w1 hb)
    refine bodyPost_ret (results_tmp2 rfl _ _ _) rfl ?_
    exact ⟨rfl, hb⟩
  · have h4' : ¬ (S.safe.length : Int) < 4 := by omega
    have hbe := hb0.out (by omega)
    go_enter Tryz.func122, Tryz.ntmps122
    go_wp2_with (go_at_call 190; refine hS.mono ?_; rintro e w1 ⟨rfl, hb⟩; clear hS; obtain ⟨x1, x2⟩ := C.out w1 hb)
    refine bodyPost_ret (results_tmp2 rfl _ _ _) rfl ?_
    exact ⟨rfl, hb⟩
end Go.Proofs.YtdidjdoifpfmmaaGreatDoor
/- The document's MountDisk where there is the head alone. -/
namespace Go.Proofs.YtdidjdoifpfmmaaGreatDoor
open Go.RowKit
/-- A new archive of the document's, with no record. -/
def MountedAt (w w' : World) (r : RD) (S' : Dk) (lit : Bool) (m : Value) (sc : Nat) (p : Nat) : Prop :=
  ∃ r' left', w.heap.size ≤ p ∧ RowIs w' p 213 (ArRow m r.q 1 1 sc (.slice none 0 0) (.slice none 0 0) (.slice none 0 0) false) ∧ RefAt w' r' S' left' lit ∧ r'.q = r.q ∧ (∀ b ∈ r'.blocks, b ∈ r.blocks ∨ w.heap.size ≤ b) ∧ p ∉ r'.blocks ∧ Fr w w' r.blocks
set_option maxRecDepth 100000 in
set_option maxHeartbeats 2000000 in
theorem refMount_head {w : World} {r : RD} {S : Dk} {left : Int} {lit : Bool} (h : RefAt w r S left lit) (ok : S.Ok) (mp : Option Addr) (h4 : 4 ≤ S.safe.length) (hw : S.wait.length ≤ 900000) (h0 : S.seen.getD 0 ByteArray.empty = superT S.safe.length) (h1 : S.seen.getD 1 ByteArray.empty = zero64) (hc : (wipeOf S 1).2 = 0) :
    Calls Tryz.prog 122 #[.pointer mp, .pointer (some ⟨r.q, 0, none⟩)] w fun e w' => ∃ p, e = .returned (.tuple #[.pointer (some ⟨p, 0, none⟩), .int .i64 0]) ∧ MountedAt w w' r (wipeOf S 1).1 lit (.pointer mp) (superSum S.safe.length) p := by
  have hmost := ok.most
  have c1 : w.cell? ⟨r.q, 1, none⟩ = some (.slice (some ⟨r.gE, 0, none⟩) S.safe.length r.cE) := h.row.cell 1
  have hS := refSuper_any S.safe.length (by omega) w
  have C : Hid (∀ w1, Below w.heap.size w w1 → w1.cell? ⟨r.q, 1, none⟩ = some (.slice (some ⟨r.gE, 0, none⟩) S.safe.length r.cE) ∧ w1.cell? ⟨r.gE, 0, none⟩ = some (.string (superT S.safe.length))) := fun w1 hb => by
    have h1 := h.below hb
    refine ⟨h1.row.cell 1, ?_⟩
    have := h1.seen.cell 0 (by rw [strs_length, S.seen_length]; omega)
    rw [strs_get _ _ (by rw [S.seen_length]; omega), h0] at this
    exact this
  have HN : Hid (∀ w1 p, Below w.heap.size w w1 → w1.cell? ⟨p, 1, none⟩ = some (.pointer (some ⟨r.q, 0, none⟩)) → w1.cell? ⟨p, 2, none⟩ = some (.int .i64 1) → Calls Tryz.prog 191 #[.pointer (some ⟨p, 0, none⟩)] w1 fun e w' => e = .returned (.tuple #[.int .i64 0, .string ⟨#[]⟩, .int .i64 0, .bool false]) ∧ Below w1.heap.size w1 w') := fun w1 p hb x1 x2 => refNext_zero (h.below hb) ok p 1 x1 x2 (by omega) h1
  have HW : Hid (∀ w1, Below w.heap.size w w1 → Calls Tryz.prog 189 #[.pointer (some ⟨r.q, 0, none⟩), .int .i64 1] w1 fun e w' => e = .returned (.int .i64 0) ∧ RefDone w1 w' r (wipeOf S 1).1 lit) := fun w1 hb => by
    have := refWipe_any (h.below hb) ok hw 1 (by omega)
    rw [hc] at this
    exact this
  have HL : Hid _ := h.lt
  clear h h0 h1 hc
  have hb0 : ((superT S.safe.length).toList == (superT S.safe.length).toList) = true := by simp
  generalize superT S.safe.length = st at *
  generalize superSum S.safe.length = sc at *
  generalize (wipeOf S 1).1 = S' at *
  have h4' : ¬ (S.safe.length : Int) < 4 := by omega
  go_enter Tryz.func122, Tryz.ntmps122
  go_wp2_with (go_at_call 190; refine hS.mono ?_; rintro e w1 ⟨rfl, hb⟩; clear hS; obtain ⟨x1, x2⟩ := C.out w1 hb)
  show Code.wp _ _ _ _ (w1.alloc (.cells (ArRow (.pointer mp) r.q 1 1 sc (.slice none 0 0) (.slice none 0 0) (.slice none 0 0) false).toArray 213))
  have r0 := RowIs.new w1 213 (ArRow (.pointer mp) r.q 1 1 sc (.slice none 0 0) (.slice none 0 0) (.slice none 0 0) false)
  have b0 : Below w.heap.size w (w1.alloc (.cells (ArRow (.pointer mp) r.q 1 1 sc (.slice none 0 0) (.slice none 0 0) (.slice none 0 0) false).toArray 213)) := hb.alloc hb.size _
  have hps : Hid (w.heap.size ≤ w1.heap.size) := hb.size
  generalize w1.alloc (.cells (ArRow (.pointer mp) r.q 1 1 sc (.slice none 0 0) (.slice none 0 0) (.slice none 0 0) false).toArray 213) = WA at r0 b0 ⊢
  generalize w1.heap.size = p at *
  clear x1 x2 C c1
  have hN := HN.out WA p b0 (r0.cell 1) (r0.cell 2)
  have R0 : Hid _ := r0
  have B0 : Hid _ := b0
  clear r0 b0 HN hb
  go_loopw [9, 10, 11, 12] (fun _ _ _ _ wr => wr = WA) (fun _ _ _ _ _ => 0)
  case atStart => rfl
  case round =>
    subst hrel
    go_wp2_with (first
      | (go_at_call 191; refine hN.mono ?_; rintro e w2 ⟨rfl, hb2⟩; clear hN; have R1 : Hid _ := R0.out.below hb2 R0.out.lt; have cc : w2.cell? ⟨p, 2, none⟩ = some (.int .i64 1) := R1.out.cell 2; have B1 : Hid _ := B0.out.trans (hb2.mono B0.out.size); have hW := HW.out w2 B1.out)
      | (go_at_call 189; refine hW.mono ?_; rintro e w3 ⟨rfl, hd⟩; clear hW))
    refine bodyPost_ret (results_tmp2 rfl _ _ _) rfl ?_
    obtain ⟨r', left', a1, a2, a3, a4⟩ := hd
    have hp1 := hps.out
    refine ⟨p, rfl, r', left', hp1, a4.row R1.out (fun hm => ?_), a1, a2, fun b hb => (a3 b hb).imp id (fun h => Nat.le_trans B1.out.size h), fun hm => ?_, (Fr.of_below B1.out r.blocks).trans a4 (fun x hx _ => hx)⟩
    · have := HL.out p hm; omega
    · rcases a3 p hm with hx | hx
      · have := HL.out p hx; omega
      · have := R1.out.lt; omega
end Go.Proofs.YtdidjdoifpfmmaaGreatDoor
