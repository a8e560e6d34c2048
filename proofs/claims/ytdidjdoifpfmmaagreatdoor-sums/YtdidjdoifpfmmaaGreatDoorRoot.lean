import Derived.Test.YtdidjdoifpfmmaaGreatDoorBelow3
namespace Go.Proofs.YtdidjdoifpfmmaaGreatDoor
open Go.RowKit Digits

theorem wholeFrom_stop (p k f m : Nat) (h : ¬ (m + 1) ^ k ≤ p) : wholeFrom p k f m = m := by
  cases f <;> simp [wholeFrom, h]
theorem wholeFrom_go (p k f m : Nat) (hf : 0 < f) (h : (m + 1) ^ k ≤ p) : wholeFrom p k f m = wholeFrom p k (f - 1) (m + 1) := by
  obtain ⟨g, rfl⟩ : ∃ g, f = g + 1 := ⟨f - 1, by omega⟩
  simp [wholeFrom, h]
theorem le_pow2 (m : Nat) (h : (m + 1) ^ 2 ≤ 1000) : m + 1 ≤ 31 := by
  rcases Nat.lt_or_ge 31 (m + 1) with h1 | h1
  · have := Nat.pow_le_pow_left (show 32 ≤ m + 1 from h1) 2
    exact absurd (Nat.le_trans this h) (by decide)
  · exact h1
theorem le_pow3 (m : Nat) (h : (m + 1) ^ 3 ≤ 1000) : m + 1 ≤ 31 := by
  rcases Nat.lt_or_ge 31 (m + 1) with h1 | h1
  · have := Nat.pow_le_pow_left (show 32 ≤ m + 1 from h1) 3
    exact absurd (Nat.le_trans this h) (by decide)
  · exact h1
theorem wrap_pow (q : Nat) (hq : q ≤ 31) : wrap64 ((2 : Int) ^ q) = ((2 ^ q : Nat) : Int) := by
  have h1 : 2 ^ q ≤ 2 ^ 31 := Nat.pow_le_pow_right (by decide) hq
  have h2 : (2 : Int) ^ q = ((2 ^ q : Nat) : Int) := by simp
  rw [h2]
  generalize 2 ^ q = x at *
  unfold wrap64
  omega
theorem bits_step (wh p k q : Nat) (hq : q < 32) : bitsTo wh p k (32 - q) = (if belowB wh (bitsTo wh p k (31 - q) + 2 ^ q) p k then bitsTo wh p k (31 - q) + 2 ^ q else bitsTo wh p k (31 - q)) := by
  have h1 : 32 - q = (31 - q) + 1 := by omega
  have h2 : 31 - (31 - q) = q := by omega
  rw [h1]
  simp only [bitsTo, h2]

set_option maxHeartbeats 2000000 in
set_option maxRecDepth 3000 in
theorem root_two (p : Nat) (w : World) (hp : p ≤ 311) :
    Calls Tryz.prog 108 #[.int .i64 p, .int .i64 2] w fun e w' => e = .returned (.int .i64 (rootOf p 2)) ∧ Below w.heap.size w w' := by
  go_enter Tryz.func108, Tryz.ntmps108
  go_wp2
  go_loop [5] (fun i => ∃ m f : Nat, m + f = 50 ∧ 1 ≤ m ∧ m ≤ 31 ∧ i = .int .i64 m ∧ Hid (wholeFrom p 2 f m = wholeOf p 2)) (fun i => 60 - (intOf i).toNat)
  case atStart => exact ⟨1, 49, rfl, by omega, by omega, rfl, show wholeFrom _ _ _ _ = _ from rfl⟩
  case round =>
    obtain ⟨m, f, hmf, hm1, hm, rfl, hW⟩ := hrel
    have hP := power_two (m + 1) w (by omega)
    have e1 : ((m + 1 : Nat) : Int) = (m : Int) + 1 := by omega
    rw [e1] at hP
    by_cases hle : (m + 1) ^ 2 ≤ p
    · have hm2 := le_pow2 m (by omega)
      have hg : Hid _ := wholeFrom_go p 2 f m (by omega) hle
      have hle' : (((m + 1) ^ 2 : Nat) : Int) ≤ (p : Int) := by omega
      have hbd : (m + 1) ^ 2 ≤ 1000 := by omega
      generalize (m + 1) ^ 2 = z at *
      go_wp2_with (go_at_call 181; refine hP.mono ?_; rintro e w' ⟨rfl, rfl⟩)
      go_round
      case rel => exact ⟨m + 1, f - 1, by omega, by omega, by omega, by go_num, hg.out.symm.trans hW.out⟩
      case measure => simp [intOf]; omega
    · have hs : Hid (wholeOf p 2 = m) := hW.out.symm.trans (wholeFrom_stop p 2 f m hle)
      have hle' : ¬ (((m + 1) ^ 2 : Nat) : Int) ≤ (p : Int) := by omega
      generalize (m + 1) ^ 2 = z at *
      go_wp2_with (go_at_call 181; refine hP.mono ?_; rintro e w' ⟨rfl, rfl⟩)
      clear hP hle hle' hW hmf e1
      go_loopw [6, 7] (fun v b wr => ∃ q : Nat, q ≤ 32 ∧ b = .int .i64 ((q : Int) - 1) ∧ v = .int .i64 (bitsTo m p 2 (32 - q)) ∧ Below w.heap.size w wr) (fun _ b _ => (intOf b + 1).toNat)
      case atStart => exact ⟨32, Nat.le_refl _, rfl, rfl, Below.refl _ _⟩
      case round =>
        obtain ⟨q, hq, hi, rfl, hb⟩ := hrel
        rcases q with _ | q
        · have hi' : u7 = .int .i64 (-1) := by rw [hi]; rfl
          subst hi'
          clear hi
          go_wp2
          go_ret
          exact ⟨by unfold rootOf; rw [hs.out]; rfl, hb⟩
        · have hi' : u7 = .int .i64 (q : Int) := by rw [hi]; congr 1; omega
          subst hi'
          clear hi
          have h1 : 32 - (q + 1) = 31 - q := by omega
          rw [h1]
          have hst : Hid _ := bits_step m p 2 q (by omega)
          have hbd := bitsTo_mod m p 2 (31 - q) (by omega)
          have h2 : 32 - (31 - q) = q + 1 := by omega
          rw [h2, Nat.pow_succ] at hbd
          have hbl := below_two m (bitsTo m p 2 (31 - q) + 2 ^ q) p wr (by omega) (by have : 0 < 2 ^ q := Nat.pow_pos (by decide); omega) (by omega)
          generalize bitsTo m p 2 (31 - q) = v at *
          have hw1 : wrap64 ((2 : Int) ^ q) = ((2 ^ q : Nat) : Int) := wrap_pow q (by omega)
          generalize 2 ^ q = x at *
          rw [show ((v + x : Nat) : Int) = (v : Int) + (x : Int) by omega] at hbl
          cases hB : belowB m (v + x) p 2
          · rw [hB] at hbl
            have hst' : Hid (bitsTo m p 2 (32 - q) = v) := by rw [show bitsTo m p 2 (32 - q) = _ from hst.out, hB]; rfl
            clear hst hB
            go_wp2_with (go_at_call 182; refine hbl.mono ?_; rintro e w' ⟨rfl, hb1⟩)
            go_roundw
            case rel => exact ⟨q, by omega, rfl, by rw [hst'.out], hb.trans (hb1.mono hb.size)⟩
            case measure => simp [intOf]
          · rw [hB] at hbl
            have hst' : Hid (bitsTo m p 2 (32 - q) = v + x) := by rw [show bitsTo m p 2 (32 - q) = _ from hst.out, hB]; rfl
            clear hst hB
            go_wp2_with (go_at_call 182; refine hbl.mono ?_; rintro e w' ⟨rfl, hb1⟩)
            go_roundw
            case rel => exact ⟨q, by omega, rfl, by rw [hst'.out]; go_num, hb.trans (hb1.mono hb.size)⟩
            case measure => simp [intOf]

set_option maxHeartbeats 2000000 in
set_option maxRecDepth 3000 in
theorem root_three (p : Nat) (w : World) (hp : p ≤ 311) :
    Calls Tryz.prog 108 #[.int .i64 p, .int .i64 3] w fun e w' => e = .returned (.int .i64 (rootOf p 3)) ∧ Below w.heap.size w w' := by
  go_enter Tryz.func108, Tryz.ntmps108
  go_wp2
  go_loop [5] (fun i => ∃ m f : Nat, m + f = 50 ∧ 1 ≤ m ∧ m ≤ 31 ∧ i = .int .i64 m ∧ Hid (wholeFrom p 3 f m = wholeOf p 3)) (fun i => 60 - (intOf i).toNat)
  case atStart => exact ⟨1, 49, rfl, by omega, by omega, rfl, show wholeFrom _ _ _ _ = _ from rfl⟩
  case round =>
    obtain ⟨m, f, hmf, hm1, hm, rfl, hW⟩ := hrel
    have hP := power_three (m + 1) w (by omega)
    have e1 : ((m + 1 : Nat) : Int) = (m : Int) + 1 := by omega
    rw [e1] at hP
    by_cases hle : (m + 1) ^ 3 ≤ p
    · have hm2 := le_pow3 m (by omega)
      have hg : Hid _ := wholeFrom_go p 3 f m (by omega) hle
      have hle' : (((m + 1) ^ 3 : Nat) : Int) ≤ (p : Int) := by omega
      have hbd : (m + 1) ^ 3 ≤ 1000 := by omega
      generalize (m + 1) ^ 3 = z at *
      go_wp2_with (go_at_call 181; refine hP.mono ?_; rintro e w' ⟨rfl, rfl⟩)
      go_round
      case rel => exact ⟨m + 1, f - 1, by omega, by omega, by omega, by go_num, hg.out.symm.trans hW.out⟩
      case measure => simp [intOf]; omega
    · have hs : Hid (wholeOf p 3 = m) := hW.out.symm.trans (wholeFrom_stop p 3 f m hle)
      have hle' : ¬ (((m + 1) ^ 3 : Nat) : Int) ≤ (p : Int) := by omega
      generalize (m + 1) ^ 3 = z at *
      go_wp2_with (go_at_call 181; refine hP.mono ?_; rintro e w' ⟨rfl, rfl⟩)
      clear hP hle hle' hW hmf e1
      go_loopw [6, 7] (fun v b wr => ∃ q : Nat, q ≤ 32 ∧ b = .int .i64 ((q : Int) - 1) ∧ v = .int .i64 (bitsTo m p 3 (32 - q)) ∧ Below w.heap.size w wr) (fun _ b _ => (intOf b + 1).toNat)
      case atStart => exact ⟨32, Nat.le_refl _, rfl, rfl, Below.refl _ _⟩
      case round =>
        obtain ⟨q, hq, hi, rfl, hb⟩ := hrel
        rcases q with _ | q
        · have hi' : u7 = .int .i64 (-1) := by rw [hi]; rfl
          subst hi'
          clear hi
          go_wp2
          go_ret
          exact ⟨by unfold rootOf; rw [hs.out]; rfl, hb⟩
        · have hi' : u7 = .int .i64 (q : Int) := by rw [hi]; congr 1; omega
          subst hi'
          clear hi
          have h1 : 32 - (q + 1) = 31 - q := by omega
          rw [h1]
          have hst : Hid _ := bits_step m p 3 q (by omega)
          have hbd := bitsTo_mod m p 3 (31 - q) (by omega)
          have h2 : 32 - (31 - q) = q + 1 := by omega
          rw [h2, Nat.pow_succ] at hbd
          have hbl := below_three m (bitsTo m p 3 (31 - q) + 2 ^ q) p wr (by omega) (by have : 0 < 2 ^ q := Nat.pow_pos (by decide); omega) (by omega)
          generalize bitsTo m p 3 (31 - q) = v at *
          have hw1 : wrap64 ((2 : Int) ^ q) = ((2 ^ q : Nat) : Int) := wrap_pow q (by omega)
          generalize 2 ^ q = x at *
          rw [show ((v + x : Nat) : Int) = (v : Int) + (x : Int) by omega] at hbl
          cases hB : belowB m (v + x) p 3
          · rw [hB] at hbl
            have hst' : Hid (bitsTo m p 3 (32 - q) = v) := by rw [show bitsTo m p 3 (32 - q) = _ from hst.out, hB]; rfl
            clear hst hB
            go_wp2_with (go_at_call 182; refine hbl.mono ?_; rintro e w' ⟨rfl, hb1⟩)
            go_roundw
            case rel => exact ⟨q, by omega, rfl, by rw [hst'.out], hb.trans (hb1.mono hb.size)⟩
            case measure => simp [intOf]
          · rw [hB] at hbl
            have hst' : Hid (bitsTo m p 3 (32 - q) = v + x) := by rw [show bitsTo m p 3 (32 - q) = _ from hst.out, hB]; rfl
            clear hst hB
            go_wp2_with (go_at_call 182; refine hbl.mono ?_; rintro e w' ⟨rfl, hb1⟩)
            go_roundw
            case rel => exact ⟨q, by omega, rfl, by rw [hst'.out]; go_num, hb.trans (hb1.mono hb.size)⟩
            case measure => simp [intOf]
end Go.Proofs.YtdidjdoifpfmmaaGreatDoor
