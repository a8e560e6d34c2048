import Derived.Test.YtdidjdoifpfmmaaGreatDoorBelow
namespace Go.Proofs.YtdidjdoifpfmmaaGreatDoor
open Go.RowKit Digits

set_option maxHeartbeats 4000000 in
set_option maxRecDepth 3000 in
theorem below_three (wh t p : Nat) (w : World) (hw : wh ≤ 50) (ht : t < 4294967296) (hp : p ≤ 1000) :
    Calls Tryz.prog 182 #[.int .i64 wh, .int .i64 t, .int .i64 p, .int .i64 3] w fun e w' => e = .returned (.bool (belowB wh t p 3)) ∧ Below w.heap.size w w' := by
  have hA : RowIs (w.alloc (.cells #[.int .i64 ((t : Int) % 65536), .int .i64 ((t : Int) / 65536), .int .i64 (wh : Int)] 3)) w.heap.size 3 (ints [t % 65536, t / 65536, wh]) := RowIs.new _ _ _
  have dA : ∀ d ∈ [t % 65536, t / 65536, wh], d < 65536 := by
    intro d hd
    simp only [List.mem_cons, List.not_mem_nil, or_false] at hd
    rcases hd with rfl | rfl | rfl <;> omega
  have vA : val [t % 65536, t / 65536, wh] = wh * 4294967296 + t := by simp only [val]; omega
  have hT : Calls Tryz.prog 247 #[.slice (some ⟨w.heap.size, 0, none⟩) 3 3, .slice (some ⟨w.heap.size, 0, none⟩) 3 3] (w.alloc (.cells #[.int .i64 ((t : Int) % 65536), .int .i64 ((t : Int) / 65536), .int .i64 (wh : Int)] 3)) fun e w' => ∃ C, e = .returned (.slice (some ⟨w.heap.size + 1, 0, none⟩) 6 6) ∧
      RowIs w' (w.heap.size + 1) 3 (ints C) ∧ C.length = 6 ∧ (∀ j, C.getD j 0 < 65536) ∧ Hid (val C = (wh * 4294967296 + t) ^ 2) ∧ Below w.heap.size w w' ∧ RowIs w' w.heap.size 3 (ints [t % 65536, t / 65536, wh]) := by
    refine (times_any _ _ _ _ _ hA hA dA dA (by simp) (by simp)).mono ?_
    rintro e w' ⟨C, rfl, hR, hl, hd, hv, hb⟩
    exact ⟨C, by simp, by simpa using hR, hl, hd, by show val C = _; rw [hv, vA, Nat.pow_two], ((Below.refl _ _).alloc (Nat.le_refl _) _).trans (hb.mono (by simp)), hA.below hb (by simp)⟩
  have hT2 : ∀ (C : List Nat) (w1 : World), RowIs w1 (w.heap.size + 1) 3 (ints C) → C.length = 6 → (∀ j, C.getD j 0 < 65536) → Hid (val C = (wh * 4294967296 + t) ^ 2) → Below w.heap.size w w1 → RowIs w1 w.heap.size 3 (ints [t % 65536, t / 65536, wh]) →
      Calls Tryz.prog 247 #[.slice (some ⟨w.heap.size + 1, 0, none⟩) 6 6, .slice (some ⟨w.heap.size, 0, none⟩) 3 3] w1 fun e w' => ∃ D, e = .returned (.slice (some ⟨w1.heap.size, 0, none⟩) 9 9) ∧
        RowIs w' w1.heap.size 3 (ints D) ∧ D.length = 9 ∧ (∀ j, D.getD j 0 < 65536) ∧ Hid (val D = (wh * 4294967296 + t) ^ 3) ∧ Below w.heap.size w w' := by
    intro C w1 hR hl hd hv hb hA1
    have h := times_any _ _ _ _ _ hR hA1 (mem_lt hd) dA (by omega) (by simp)
    rw [hl] at h
    refine h.mono ?_
    rintro e w' ⟨D, rfl, hR, hl, hd, hv2, hb2⟩
    exact ⟨D, by simp, hR, hl, hd, (hv2.trans (by rw [hv.out, vA])).trans (Nat.pow_succ (n := wh * 4294967296 + t) (m := 2)).symm, hb.trans (hb2.mono hb.size)⟩
  go_enter Tryz.func182, Tryz.ntmps182
  go_wp2_with (first | (go_at_call 247; refine hT.mono ?_; rintro e w0 ⟨C0, rfl, hR0, hl0, hd0, hv0, hb0, hA0⟩; clear hT) | (go_at_call 247; refine (hT2 C0 w0 hR0 hl0 hd0 hv0 hb0 hA0).mono ?_; rintro e w1 ⟨C, rfl, hR, hl, hd, hv, hb⟩))
  clear hT2 hA dA vA hv0 hR0 hl0 hd0 hA0
  have hvs : Hid (val C ≤ 1000000 * 65536 ^ 6) := by
    show val C ≤ _
    rw [hv.out]
    exact Nat.le_trans (Nat.pow_le_pow_left (show wh * 4294967296 + t ≤ 51 * 4294967296 by omega) 3) (by decide)
  go_loop [12, 13, 14] (fun n r i => ∃ q : Nat, q ≤ 9 ∧ i = .int .i64 ((q : Int) - 1) ∧ n = .int .i64 (whole C 6 q) ∧ r = .int .i64 (rest C 6 q)) (fun _ _ i => (intOf i + 1).toNat)
  case atStart => exact ⟨9, Nat.le_refl _, rfl, by rw [whole_start C _ _ (by omega)]; rfl, by rw [rest_start C _ _ (by omega)]; rfl⟩
  case round =>
    obtain ⟨q, hq, hi, rfl, rfl⟩ := hrel
    rcases q with _ | q
    · have hi' : u14 = .int .i64 (-1) := by rw [hi]; rfl
      subst hi'
      clear hi
      have he := below_end C hd 6 p _ (by omega) hv.out
      have n0 := whole_small C 6 0 hvs.out
      have r0 := rest_le C 6 0 hd (by omega)
      generalize whole C 6 0 = n at *
      generalize rest C 6 0 = r at *
      have hB : belowB wh t p 3 = (decide (n < p) || (decide (n = p) && decide (r = 0))) := by
        rw [he]; unfold belowB; rw [show 4294967296 ^ 3 = 65536 ^ 6 by decide]
      have HB : Hid _ := hB
      clear hB he hv hvs hR hl hd
      rcases Nat.lt_trichotomy n p with c | c | c
      · have f1 : (n : Int) < (p : Int) := by omega
        go_wp2
        go_ret
        exact ⟨by rw [HB.out]; simp [c], hb⟩
      · subst c
        by_cases z : r = 0
        · subst z
          go_wp2
          go_ret
          exact ⟨by rw [HB.out]; simp, hb⟩
        · have f3 : ((r : Int) == 0) = false := by simp; omega
          go_wp2
          go_ret
          exact ⟨by rw [HB.out]; simp [z], hb⟩
      · have f1 : ¬ (n : Int) < (p : Int) := by omega
        have f2 : ((n : Int) == (p : Int)) = false := by simp; omega
        have c1 : ¬ n < p := by omega
        have c2 : ¬ n = p := by omega
        go_wp2
        go_ret
        exact ⟨by rw [HB.out]; simp [c1, c2], hb⟩
    · have hi' : u14 = .int .i64 (q : Int) := by rw [hi]; congr 1; omega
      subst hi'
      clear hi
      have hc := hR.cell q
      rw [ints_get C q (by omega)] at hc
      have dq := hd q
      have n0 := whole_small C 6 (q + 1) hvs.out
      have r0 := rest_le C 6 (q + 1) hd (by omega)
      have s1 : Hid _ := whole_step C 6 q (by omega)
      have s2 : Hid _ := whole_keep C 6 q
      have s3 : Hid _ := rest_step C 6 q (by omega)
      have s4 : Hid _ := rest_keep C 6 q
      have ec : Hid (C.getD q 0 = C.getD q 0) := rfl
      generalize C.getD q 0 = x at *
      by_cases hpt : 6 ≤ q
      · have hpt' : (6 : Int) ≤ (q : Int) := by omega
        go_wp2
        go_round
        case rel => exact ⟨q, by omega, rfl, by rw [s1.out hpt]; go_num, by rw [s4.out hpt]⟩
        case measure => simp [intOf]
      · have hpt' : ¬ (6 : Int) ≤ (q : Int) := by omega
        go_wp2
        go_round
        case rel => exact ⟨q, by omega, rfl, by rw [s2.out (by omega)], by rw [s3.out (by omega)]; go_num⟩
        case measure => simp [intOf]
end Go.Proofs.YtdidjdoifpfmmaaGreatDoor
