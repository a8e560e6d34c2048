import Derived.Test.YtdidjdoifpfmmaaGreatDoorGF2
import Derived.Test.YtdidjdoifpfmmaaGreatDoorGE4
/- The calls of package plain, whatever a disk does; the caller's choice among disks. -/
namespace Go.Proofs.YtdidjdoifpfmmaaGreatDoor
open Go.RowKit
theorem number_nil (w : World) : Calls Tryz.prog 43 #[.nilIface] w fun e w' => e = .returned (.tuple #[.int .i64 0, .int .i64 (-1)]) ∧ w = w' := by
  go_enter Tryz.func43, Tryz.ntmps43
  go_wp2
  refine bodyPost_ret (results_tmp2 rfl _ _ _) rfl ?_
  exact ⟨rfl, rfl⟩
theorem plain_write {w : World} {dp : Nat} {a : Int} {s : ByteArray} {ev : Value} {n m : Int} {N : World → Prop} {dB : List Nat}
    (hW : Calls Tryz.prog 81 #[.pointer (some ⟨dp, 0, none⟩), .int .i64 a, .string s] w fun e w' => e = .returned ev ∧ N w' ∧ Fr w w' dB)
    (hN : ∀ w1, N w1 → Calls Tryz.prog 43 #[ev] w1 fun e w' => e = .returned (.tuple #[.int .i64 n, .int .i64 m]) ∧ N w' ∧ Fr w1 w' []) :
    Calls Tryz.prog 115 #[.pointer (some ⟨dp, 0, none⟩), .int .i64 a, .string s] w fun e w' => e = .returned (.int .i64 n) ∧ N w' ∧ Fr w w' dB := by
  have HN : Hid _ := hN
  clear hN
  go_enter Tryz.func115, Tryz.ntmps115
  go_wp2_with (first
    | (go_at_call 81; refine hW.mono ?_; rintro e w1 ⟨rfl, h1, f1⟩)
    | (go_at_call 43; refine (HN.out _ h1).mono ?_; rintro e w2 ⟨rfl, h2, f2⟩))
  go_ret
  exact ⟨rfl, h2, f1.trans f2 (by simp)⟩
theorem plain_flush {w : World} {dp : Nat} {ev : Value} {n m : Int} {N : World → Prop} {dB : List Nat}
    (hW : Calls Tryz.prog 83 #[.pointer (some ⟨dp, 0, none⟩)] w fun e w' => e = .returned ev ∧ N w' ∧ Fr w w' dB)
    (hN : ∀ w1, N w1 → Calls Tryz.prog 43 #[ev] w1 fun e w' => e = .returned (.tuple #[.int .i64 n, .int .i64 m]) ∧ N w' ∧ Fr w1 w' []) :
    Calls Tryz.prog 117 #[.pointer (some ⟨dp, 0, none⟩)] w fun e w' => e = .returned (.int .i64 n) ∧ N w' ∧ Fr w w' dB := by
  have HN : Hid _ := hN
  clear hN
  go_enter Tryz.func117, Tryz.ntmps117
  go_wp2_with (first
    | (go_at_call 83; refine hW.mono ?_; rintro e w1 ⟨rfl, h1, f1⟩)
    | (go_at_call 43; refine (HN.out _ h1).mono ?_; rintro e w2 ⟨rfl, h2, f2⟩))
  go_ret
  exact ⟨rfl, h2, f1.trans f2 (by simp)⟩
theorem plain_read {w : World} {dp : Nat} {a : Int} {x : ByteArray} {ev : Value} {n m : Int} {N : World → Prop} {dB : List Nat}
    (hW : Calls Tryz.prog 84 #[.pointer (some ⟨dp, 0, none⟩), .int .i64 a] w fun e w' => e = .returned (.tuple #[.string x, ev]) ∧ N w' ∧ Fr w w' dB)
    (hN : ∀ w1, N w1 → Calls Tryz.prog 43 #[ev] w1 fun e w' => e = .returned (.tuple #[.int .i64 n, .int .i64 m]) ∧ N w' ∧ Fr w1 w' []) :
    Calls Tryz.prog 63 #[.pointer (some ⟨dp, 0, none⟩), .int .i64 a] w fun e w' => e = .returned (.tuple #[.string x, .int .i64 n]) ∧ N w' ∧ Fr w w' dB := by
  have HN : Hid _ := hN
  clear hN
  go_enter Tryz.func63, Tryz.ntmps63
  go_wp2_with (first
    | (go_at_call 84; refine hW.mono ?_; rintro e w1 ⟨rfl, h1, f1⟩)
    | (go_at_call 43; refine (HN.out _ h1).mono ?_; rintro e w2 ⟨rfl, h2, f2⟩))
  refine bodyPost_ret (results_tmp2 rfl _ _ _) rfl ?_
  exact ⟨rfl, h2, f1.trans f2 (by simp)⟩
theorem plain_crash {w : World} {dp : Nat} {kv : Value} {N : World → Prop} {dB : List Nat}
    (hW : Calls Tryz.prog 59 #[.pointer (some ⟨dp, 0, none⟩), kv] w fun e w' => e = .returned (.tuple #[]) ∧ N w' ∧ Fr w w' dB) :
    Calls Tryz.prog 34 #[.pointer (some ⟨dp, 0, none⟩), kv] w fun e w' => e = .returned (.tuple #[]) ∧ N w' ∧ Fr w w' dB := by
  go_enter Tryz.func34, Tryz.ntmps34
  go_wp2_with (go_at_call 59; refine hW.mono ?_; rintro e w1 ⟨rfl, h1, f1⟩)
  go_end0
  exact ⟨rfl, h1, f1⟩
/-- Which of n things a number speaks of. -/
def pickOf (c : Int) (n : Nat) : Nat := (if c < 0 then (-(c + 1)) % n else c % n).toNat
theorem pickOf_lt (c : Int) (n : Nat) (hn : 0 < n) : pickOf c n < n := by
  unfold pickOf
  split
  · have h1 := Int.emod_lt_of_pos (-(c + 1)) (by omega : (0 : Int) < n)
    have h2 := Int.emod_nonneg (-(c + 1)) (by omega : (n : Int) ≠ 0)
    omega
  · have h1 := Int.emod_lt_of_pos c (by omega : (0 : Int) < n)
    have h2 := Int.emod_nonneg c (by omega : (n : Int) ≠ 0)
    omega
theorem pick_any (c : Int) (n : Nat) (hn : 0 < n) (hn2 : n ≤ 1000000) (hc : -9223372036854775808 ≤ c ∧ c ≤ 9223372036854775807) (w : World) :
    Calls Tryz.prog 71 #[.int .i64 c, .int .i64 (n : Nat)] w fun e w' => e = .returned (.int .i64 (pickOf c n : Nat)) ∧ w = w' := by
  by_cases h : c < 0
  · go_enter Tryz.func71, Tryz.ntmps71
    have e : -((c + 1).tmod n) = (pickOf c n : Nat) := by
      unfold pickOf
      rw [if_pos h, ← Int.neg_tmod, Int.tmod_eq_emod_of_nonneg (by omega), Int.toNat_of_nonneg (Int.emod_nonneg _ (by omega))]
    go_wp2
    go_ret
    exact ⟨rfl, rfl⟩
  · go_enter Tryz.func71, Tryz.ntmps71
    have e : c % n = (pickOf c n : Nat) := by
      unfold pickOf
      rw [if_neg h, Int.toNat_of_nonneg (Int.emod_nonneg _ (by omega))]
    go_wp2
    go_ret
    exact ⟨rfl, rfl⟩
end Go.Proofs.YtdidjdoifpfmmaaGreatDoor
/- A step of a script, of a disk. -/
namespace Go.Proofs.YtdidjdoifpfmmaaGreatDoor
open Go.RowKit
set_option maxRecDepth 100000 in
set_option maxHeartbeats 1600000 in
theorem step_disk {w : World} (o : OpR) (hk : o.kind = 4 ∨ o.kind = 5 ∨ o.kind = 6 ∨ o.kind = 7 ∨ o.kind = 9 ∨ o.kind = 10 ∨ o.kind = 11) (hd : -9223372036854775808 ≤ o.d ∧ o.d ≤ 9223372036854775807) (p ga n ca : Nat) (hn : 0 < n) (hn2 : n ≤ 1000000)
    (c2 : w.cell? ⟨p, 2, none⟩ = some (.slice (some ⟨ga, 0, none⟩) n ca)) (Post : World → Prop)
    (hD : ∀ w1, Below w.heap.size w w1 → Calls Tryz.prog 72 #[.pointer (some ⟨p, 0, none⟩), .pointer (some ⟨ga, pickOf o.d n * 4, none⟩), OpR.agg o] w1 fun e w' => e = .returned (.bool true) ∧ Post w') :
    Calls Tryz.prog 41 #[.pointer (some ⟨p, 0, none⟩), OpR.agg o] w fun e w' => e = .returned (.bool true) ∧ Post w' := by
  unfold OpR.agg at hD ⊢
  obtain ⟨k, a, b, d, s, t⟩ := o
  simp only at hk hd hD ⊢
  have lp : p < w.heap.size := World.block_lt_of_cell? w _ c2
  have hp := fun w1 => pick_any d n hn hn2 hd w1
  have hpl := pickOf_lt d n hn
  generalize pickOf d n = j at *
  have j0 : (0 : Int) ≤ (j : Int) := by omega
  have j1 : (j : Int) < (n : Int) := by omega
  have HD : Hid _ := hD
  have HP : Hid _ := hp
  clear hD hp
  rcases hk with rfl | rfl | rfl | rfl | rfl | rfl | rfl
  all_goals go_enter Tryz.func41, Tryz.ntmps41
  all_goals go_wp2
  all_goals go_region_held3 (fun w' => w'.cell? ⟨p, 2, none⟩ = some (.slice (some ⟨ga, 0, none⟩) n ca) ∧ w'.cell? ⟨w.heap.size, 3, none⟩ = some (.int .i64 d)) ((go_split_ands; refine ⟨by go_keep, by go_keep⟩))
    ((go_at_call 71; refine (HP.out _).mono ?_; rintro e w2 ⟨rfl, rfl⟩))
  all_goals go_wp2_with (go_at_call 72; refine (HD.out _ ((below_box w _).drew)).mono ?_; rintro e w3 ⟨rfl, h3⟩)
  all_goals go_ret
  all_goals exact ⟨rfl, h3⟩
end Go.Proofs.YtdidjdoifpfmmaaGreatDoor
