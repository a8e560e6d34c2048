import Derived.Test.YtdidjdoifpfmmaaGreatDoorTimes
import Derived.Test.YtdidjdoifpfmmaaGreatDoorRoots
import Derived.Deep.RegionWith
namespace Go.Proofs.YtdidjdoifpfmmaaGreatDoor
open Go.RowKit Digits

theorem power_two (n : Nat) (w : World) (hn : n ≤ 1000) : Calls Tryz.prog 181 #[.int .i64 n, .int .i64 2] w fun e w' => e = .returned (.int .i64 (n ^ 2 : Nat)) ∧ w = w' := by
  have h1 : n * n ≤ 1000 * 1000 := Nat.mul_le_mul hn hn
  have h2 : (n : Int) * n ≤ 1000000 := by rw [← Int.natCast_mul]; omega
  have h3 : 0 ≤ (n : Int) * n := by rw [← Int.natCast_mul]; omega
  go_enter Tryz.func181, Tryz.ntmps181
  go_wp2
  go_ret
  exact ⟨by rw [Nat.pow_two, Int.natCast_mul]; rfl, rfl⟩
theorem power_three (n : Nat) (w : World) (hn : n ≤ 1000) : Calls Tryz.prog 181 #[.int .i64 n, .int .i64 3] w fun e w' => e = .returned (.int .i64 (n ^ 3 : Nat)) ∧ w = w' := by
  have h1 : n * n ≤ 1000 * 1000 := Nat.mul_le_mul hn hn
  have h4 : n * n * n ≤ 1000 * 1000 * 1000 := Nat.mul_le_mul h1 hn
  have h2 : (n : Int) * n ≤ 1000000 := by rw [← Int.natCast_mul]; omega
  have h3 : 0 ≤ (n : Int) * n := by rw [← Int.natCast_mul]; omega
  have h5 : (n : Int) * n * n ≤ 1000000000 := by rw [← Int.natCast_mul, ← Int.natCast_mul]; omega
  have h6 : 0 ≤ (n : Int) * n * n := by rw [← Int.natCast_mul, ← Int.natCast_mul]; omega
  go_enter Tryz.func181, Tryz.ntmps181
  go_wp2
  go_ret
  exact ⟨by rw [Nat.pow_succ, Nat.pow_two, Int.natCast_mul, Int.natCast_mul]; rfl, rfl⟩

/-- Going over the digits from the top: what is ahead of the point is a number, what is behind it is summed up. -/
def whole (C : List Nat) (pt q : Nat) : Nat := val (C.drop (max q pt))
def rest (C : List Nat) (pt q : Nat) : Nat := ((C.take pt).drop q).sum

theorem whole_step (C : List Nat) (pt q : Nat) (h : q < C.length) (hp : pt ≤ q) : whole C pt q = 65536 * whole C pt (q + 1) + C.getD q 0 := by
  unfold whole
  rw [Nat.max_eq_left hp, Nat.max_eq_left (by omega), val_drop_succ C q h]
  omega
theorem whole_keep (C : List Nat) (pt q : Nat) (hp : q < pt) : whole C pt q = whole C pt (q + 1) := by
  unfold whole
  rw [Nat.max_eq_right (by omega), Nat.max_eq_right (by omega)]
theorem rest_keep (C : List Nat) (pt q : Nat) (hp : pt ≤ q) : rest C pt q = rest C pt (q + 1) := by
  unfold rest
  rw [List.drop_eq_nil_of_le (by simp; omega), List.drop_eq_nil_of_le (by simp; omega)]
theorem rest_step (C : List Nat) (pt q : Nat) (h : q < C.length) (hp : q < pt) : rest C pt q = rest C pt (q + 1) + C.getD q 0 := by
  unfold rest
  rw [List.drop_eq_getElem_cons (by simp; omega), List.sum_cons, List.getElem_take]
  rw [List.getD_eq_getElem?_getD, List.getElem?_eq_getElem h]
  simp; omega
theorem whole_le (C : List Nat) (pt q : Nat) : whole C pt q * 65536 ^ pt ≤ val C := by
  unfold whole
  have h := val_split C (max q pt)
  have h2 : 65536 ^ pt ≤ 65536 ^ (max q pt) := Nat.pow_le_pow_right (by decide) (Nat.le_max_right _ _)
  have h3 : val (C.drop (max q pt)) * 65536 ^ pt ≤ val (C.drop (max q pt)) * 65536 ^ (max q pt) := Nat.mul_le_mul_left _ h2
  rw [Nat.mul_comm _ (65536 ^ max q pt)] at h3
  omega
theorem rest_le (C : List Nat) (pt q : Nat) (hd : ∀ j, C.getD j 0 < 65536) (hl : C.length ≤ 1000) : rest C pt q ≤ 65536000 := by
  unfold rest
  have h := sum_le ((C.take pt).drop q) 65535 (fun d h => by have := mem_lt hd d (List.mem_of_mem_take (List.mem_of_mem_drop h)); omega)
  have : ((C.take pt).drop q).length ≤ 1000 := by simp; omega
  have : 65535 * ((C.take pt).drop q).length ≤ 65535 * 1000 := Nat.mul_le_mul_left _ this
  omega
/-- What is at most 2^20 times the point's power has a whole part of at most 2^20. -/
theorem whole_small (C : List Nat) (pt q : Nat) (h : val C ≤ 1000000 * 65536 ^ pt) : whole C pt q ≤ 1000000 := by
  have h1 := whole_le C pt q
  have hP : 0 < 65536 ^ pt := Nat.pow_pos (by decide)
  exact Nat.le_of_mul_le_mul_right (Nat.le_trans h1 h) hP

theorem whole_start (C : List Nat) (pt q : Nat) (h : C.length = q) : whole C pt q = 0 := by
  unfold whole
  rw [List.drop_eq_nil_of_le (by have := Nat.le_max_left q pt; omega)]; rfl
theorem rest_start (C : List Nat) (pt q : Nat) (h : C.length = q) : rest C pt q = 0 := by
  unfold rest
  rw [List.drop_eq_nil_of_le (by simp; omega)]; rfl

theorem below_end (C : List Nat) (hd : ∀ j, C.getD j 0 < 65536) (pt p V : Nat) (hp : pt ≤ C.length) (hv : val C = V) : (decide (whole C pt 0 < p) || (decide (whole C pt 0 = p) && decide (rest C pt 0 = 0))) = decide (V ≤ p * 65536 ^ pt) := by
  have h := below_iff C (mem_lt hd) pt p hp
  unfold whole rest
  rw [Nat.max_eq_right (Nat.zero_le _), List.drop_zero, ← hv, Bool.eq_iff_iff]
  simp only [Bool.or_eq_true, Bool.and_eq_true, decide_eq_true_eq]
  exact h

set_option maxHeartbeats 4000000 in
set_option maxRecDepth 3000 in
theorem below_two (wh t p : Nat) (w : World) (hw : wh ≤ 100) (ht : t < 4294967296) (hp : p ≤ 1000) :
    Calls Tryz.prog 182 #[.int .i64 wh, .int .i64 t, .int .i64 p, .int .i64 2] w fun e w' => e = .returned (.bool (belowB wh t p 2)) ∧ Below w.heap.size w w' := by
  have hA : RowIs (w.alloc (.cells #[.int .i64 ((t : Int) % 65536), .int .i64 ((t : Int) / 65536), .int .i64 (wh : Int)] 3)) w.heap.size 3 (ints [t % 65536, t / 65536, wh]) := RowIs.new _ _ _
  have dA : ∀ d ∈ [t % 65536, t / 65536, wh], d < 65536 := by
    intro d hd
    simp only [List.mem_cons, List.not_mem_nil, or_false] at hd
    rcases hd with rfl | rfl | rfl <;> omega
  have vA : val [t % 65536, t / 65536, wh] = wh * 4294967296 + t := by simp only [val]; omega
  have hT : Calls Tryz.prog 247 #[.slice (some ⟨w.heap.size, 0, none⟩) 3 3, .slice (some ⟨w.heap.size, 0, none⟩) 3 3] (w.alloc (.cells #[.int .i64 ((t : Int) % 65536), .int .i64 ((t : Int) / 65536), .int .i64 (wh : Int)] 3)) fun e w' => ∃ C, e = .returned (.slice (some ⟨w.heap.size + 1, 0, none⟩) 6 6) ∧
      RowIs w' (w.heap.size + 1) 3 (ints C) ∧ C.length = 6 ∧ (∀ j, C.getD j 0 < 65536) ∧ val C = (wh * 4294967296 + t) ^ 2 ∧ Below w.heap.size w w' := by
    refine (times_any _ _ _ _ _ hA hA dA dA (by simp) (by simp)).mono ?_
    rintro e w' ⟨C, rfl, hR, hl, hd, hv, hb⟩
    exact ⟨C, by simp, by simpa using hR, hl, hd, by rw [hv, vA, Nat.pow_two], ((Below.refl _ _).alloc (Nat.le_refl _) _).trans (hb.mono (by simp))⟩
  go_enter Tryz.func182, Tryz.ntmps182
  go_wp2_with (go_at_call 247; refine hT.mono ?_; rintro e w1 ⟨C, rfl, hR, hl, hd, hv, hb⟩)
  have hvs : val C ≤ 1000000 * 65536 ^ 4 := by
    rw [hv]
    exact Nat.le_trans (Nat.pow_le_pow_left (show wh * 4294967296 + t ≤ 101 * 4294967296 by omega) 2) (by decide)
  go_loop [12, 13, 14] (fun n r i => ∃ q : Nat, q ≤ 6 ∧ i = .int .i64 ((q : Int) - 1) ∧ n = .int .i64 (whole C 4 q) ∧ r = .int .i64 (rest C 4 q)) (fun _ _ i => (intOf i + 1).toNat)
  case atStart => exact ⟨6, Nat.le_refl _, rfl, by rw [whole_start C _ _ (by omega)]; rfl, by rw [rest_start C _ _ (by omega)]; rfl⟩
  case round =>
    obtain ⟨q, hq, hi, rfl, rfl⟩ := hrel
    rcases q with _ | q
    · have hi' : u14 = .int .i64 (-1) := by rw [hi]; rfl
      subst hi'
      clear hi
      have he := below_end C hd 4 p _ (by omega) hv
      have n0 := whole_small C 4 0 hvs
      have r0 := rest_le C 4 0 hd (by omega)
      generalize whole C 4 0 = n at *
      generalize rest C 4 0 = r at *
      have hB : belowB wh t p 2 = (decide (n < p) || (decide (n = p) && decide (r = 0))) := by
        rw [he]; unfold belowB; rw [show 4294967296 ^ 2 = 65536 ^ 4 by decide]
      have HB : Hid _ := hB
      clear hB he hT hA dA vA hv hvs hR hl hd
      rcases Nat.lt_trichotomy n p with c | c | c
      · have f1 : (n : Int) < (p : Int) := by omega
        go_wp2
        go_ret
        exact ⟨by rw [HB.out]; simp [c], hb⟩
      · subst c
        by_cases z : r = 0
        · subst z
          go_wp2
          go_ret
          exact ⟨by rw [HB.out]; simp, hb⟩
        · have f3 : ((r : Int) == 0) = false := by simp; omega
          go_wp2
          go_ret
          exact ⟨by rw [HB.out]; simp [z], hb⟩
      · have f1 : ¬ (n : Int) < (p : Int) := by omega
        have f2 : ((n : Int) == (p : Int)) = false := by simp; omega
        have c1 : ¬ n < p := by omega
        have c2 : ¬ n = p := by omega
        go_wp2
        go_ret
        exact ⟨by rw [HB.out]; simp [c1, c2], hb⟩
    · have hi' : u14 = .int .i64 (q : Int) := by rw [hi]; congr 1; omega
      subst hi'
      clear hi
      have hc := hR.cell q
      rw [ints_get C q (by omega)] at hc
      have dq := hd q
      have n0 := whole_small C 4 (q + 1) hvs
      have r0 := rest_le C 4 (q + 1) hd (by omega)
      have s1 : Hid _ := whole_step C 4 q (by omega)
      have s2 : Hid _ := whole_keep C 4 q
      have s3 : Hid _ := rest_step C 4 q (by omega)
      have s4 : Hid _ := rest_keep C 4 q
      have ec : Hid (C.getD q 0 = C.getD q 0) := rfl
      generalize C.getD q 0 = x at *
      by_cases hpt : 4 ≤ q
      · have hpt' : (4 : Int) ≤ (q : Int) := by omega
        go_wp2
        go_round
        case rel => exact ⟨q, by omega, rfl, by rw [s1.out hpt]; go_num, by rw [s4.out hpt]⟩
        case measure => simp [intOf]
      · have hpt' : ¬ (4 : Int) ≤ (q : Int) := by omega
        go_wp2
        go_round
        case rel => exact ⟨q, by omega, rfl, by rw [s2.out (by omega)], by rw [s3.out (by omega)]; go_num⟩
        case measure => simp [intOf]
end Go.Proofs.YtdidjdoifpfmmaaGreatDoor
