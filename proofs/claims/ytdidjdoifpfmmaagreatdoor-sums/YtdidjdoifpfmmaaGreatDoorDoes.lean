import Derived.Test.YtdidjdoifpfmmaaGreatDoorUpTo
namespace Go.Proofs.YtdidjdoifpfmmaaGreatDoor
open Go.RowKit Digits

set_option maxHeartbeats 1000000 in
set_option maxRecDepth 3000 in
theorem does_sums (o : OpR) (w : World) (h1 : 1 ≤ o.kind) (h2 : o.kind ≤ 22) :
    Calls Tryz.prog 40 #[OpR.agg o, .int .i64 6] w fun e w' => e = .returned (.bool (decide (o.kind = 1 ∨ o.kind = 2))) ∧ Below w.heap.size w w' := by
  unfold OpR.agg
  obtain ⟨k, a, b, d, s, t⟩ := o
  simp only at h1 h2 ⊢
  obtain ⟨n, rfl⟩ := Int.eq_ofNat_of_zero_le (show 0 ≤ k by omega)
  have hb : bits .and .i64 ((6 : Int) / 2 ^ n) 1 = if n = 1 ∨ n = 2 then 1 else 0 := by
    have key : ∀ n : Fin 23, 1 ≤ n.val → bits .and .i64 ((6 : Int) / 2 ^ n.val) 1 = if n.val = 1 ∨ n.val = 2 then 1 else 0 := by decide
    exact key ⟨n, by omega⟩ (show 1 ≤ n by omega)
  by_cases hn : n = 1 ∨ n = 2
  · rw [if_pos hn] at hb
    have hd : decide ((n : Int) = 1 ∨ (n : Int) = 2) = true := by simp; omega
    have hne1 : ((n : Int) == 19) = false := by simp; omega
    have hne2 : ((n : Int) == 20) = false := by simp; omega
    go_enter Tryz.func40, Tryz.ntmps40
    go_wp2
    go_ret
    exact ⟨by rw [hd]; rfl, (Below.refl _ _).alloc (Nat.le_refl _) _⟩
  · rw [if_neg hn] at hb
    have hd : decide ((n : Int) = 1 ∨ (n : Int) = 2) = false := by simp; omega
    by_cases e19 : n = 19
    · subst e19
      by_cases ea : a = 0
      · subst ea
        go_enter Tryz.func40, Tryz.ntmps40
        go_wp2
        go_ret
        exact ⟨by rw [hd]; rfl, (Below.refl _ _).alloc (Nat.le_refl _) _⟩
      · have ha : (a == 0) = false := by simpa using ea
        go_enter Tryz.func40, Tryz.ntmps40
        go_wp2
        go_ret
        exact ⟨by rw [hd]; rfl, (Below.refl _ _).alloc (Nat.le_refl _) _⟩
    · by_cases e20 : n = 20
      · subst e20
        by_cases ea : a = 0
        · subst ea
          go_enter Tryz.func40, Tryz.ntmps40
          go_wp2
          go_ret
          exact ⟨by rw [hd]; rfl, (Below.refl _ _).alloc (Nat.le_refl _) _⟩
        · have ha : (a == 0) = false := by simpa using ea
          go_enter Tryz.func40, Tryz.ntmps40
          go_wp2
          go_ret
          exact ⟨by rw [hd]; rfl, (Below.refl _ _).alloc (Nat.le_refl _) _⟩
      · have hne1 : ((n : Int) == 19) = false := by simp; omega
        have hne2 : ((n : Int) == 20) = false := by simp; omega
        go_enter Tryz.func40, Tryz.ntmps40
        go_wp2
        go_ret
        exact ⟨by rw [hd]; rfl, (Below.refl _ _).alloc (Nat.le_refl _) _⟩

set_option maxHeartbeats 1000000 in
set_option maxRecDepth 3000 in
theorem does_disks (o : OpR) (w : World) (h1 : 1 ≤ o.kind) (h2 : o.kind ≤ 22) :
    Calls Tryz.prog 40 #[OpR.agg o, .int .i64 4088] w fun e w' => e = .returned (.bool (decide (3 ≤ o.kind ∧ o.kind ≤ 11))) ∧ Below w.heap.size w w' := by
  unfold OpR.agg
  obtain ⟨k, a, b, d, s, t⟩ := o
  simp only at h1 h2 ⊢
  obtain ⟨n, rfl⟩ := Int.eq_ofNat_of_zero_le (show 0 ≤ k by omega)
  have hb : bits .and .i64 ((4088 : Int) / 2 ^ n) 1 = if 3 ≤ n ∧ n ≤ 11 then 1 else 0 := by
    have key : ∀ n : Fin 23, 1 ≤ n.val → bits .and .i64 ((4088 : Int) / 2 ^ n.val) 1 = if 3 ≤ n.val ∧ n.val ≤ 11 then 1 else 0 := by decide
    exact key ⟨n, by omega⟩ (show 1 ≤ n by omega)
  by_cases hn : 3 ≤ n ∧ n ≤ 11
  · rw [if_pos hn] at hb
    have hd : decide (3 ≤ (n : Int) ∧ (n : Int) ≤ 11) = true := by simp; omega
    have hne1 : ((n : Int) == 19) = false := by simp; omega
    have hne2 : ((n : Int) == 20) = false := by simp; omega
    go_enter Tryz.func40, Tryz.ntmps40
    go_wp2
    go_ret
    exact ⟨by rw [hd]; rfl, (Below.refl _ _).alloc (Nat.le_refl _) _⟩
  · rw [if_neg hn] at hb
    have hd : decide (3 ≤ (n : Int) ∧ (n : Int) ≤ 11) = false := by simp; omega
    by_cases e19 : n = 19
    · subst e19
      by_cases ea : a = 0
      · subst ea
        go_enter Tryz.func40, Tryz.ntmps40
        go_wp2
        go_ret
        exact ⟨by rw [hd]; rfl, (Below.refl _ _).alloc (Nat.le_refl _) _⟩
      · have ha : (a == 0) = false := by simpa using ea
        go_enter Tryz.func40, Tryz.ntmps40
        go_wp2
        go_ret
        exact ⟨by rw [hd]; rfl, (Below.refl _ _).alloc (Nat.le_refl _) _⟩
    · by_cases e20 : n = 20
      · subst e20
        by_cases ea : a = 0
        · subst ea
          go_enter Tryz.func40, Tryz.ntmps40
          go_wp2
          go_ret
          exact ⟨by rw [hd]; rfl, (Below.refl _ _).alloc (Nat.le_refl _) _⟩
        · have ha : (a == 0) = false := by simpa using ea
          go_enter Tryz.func40, Tryz.ntmps40
          go_wp2
          go_ret
          exact ⟨by rw [hd]; rfl, (Below.refl _ _).alloc (Nat.le_refl _) _⟩
      · have hne1 : ((n : Int) == 19) = false := by simp; omega
        have hne2 : ((n : Int) == 20) = false := by simp; omega
        go_enter Tryz.func40, Tryz.ntmps40
        go_wp2
        go_ret
        exact ⟨by rw [hd]; rfl, (Below.refl _ _).alloc (Nat.le_refl _) _⟩
end Go.Proofs.YtdidjdoifpfmmaaGreatDoor
