import Derived.Test.YtdidjdoifpfmmaaGreatDoorRoot
import Derived.Deep.QuietTactic
import Derived.BigQuiet
import Derived.Maps.AppendAt
namespace Go.Proofs.YtdidjdoifpfmmaaGreatDoor
open Go.RowKit Digits

/-- What an owned slice of numbers looks like. -/
theorem owned_cell {w : World} {base : Nat} {v : Value} {l : List Nat} (h : w.ownsRow base 3 1 v l.length (ints l)) (hl : 0 < l.length) :
    ∃ g cap, v = .slice (some ⟨g, 0, none⟩) l.length cap ∧ base ≤ g ∧ g < w.heap.size ∧ l.length ≤ cap ∧ ∀ j, j < l.length → w.cell? ⟨g, j, none⟩ = some (.int .i64 (l.getD j 0 : Nat)) := by
  rcases h.2 with ⟨_, h0⟩ | ⟨g, cap, cur, hv, hb, hg, hn, _, hs, ht⟩
  · omega
  · refine ⟨g, cap, hv, hb, ?_, hn, fun j hj => ?_⟩
    · rcases Nat.lt_or_ge g w.heap.size with h' | h'
      · exact h'
      · rw [Array.getElem?_eq_none h'] at hg; cases hg
    · rw [cell_of_row w g j _ _ _ hg, ← Array.getElem?_toList]
      rw [Nat.mul_one] at ht
      have : cur.toList[j]? = (ints l)[j]? := by rw [← ht, List.getElem?_take, if_pos hj]
      rw [this, ints_get l j hj]

theorem mod_ne (n x : Nat) : (((2 : Int) + (n : Int)) % (x : Int) != 0) = ((2 + n) % x != 0) := by
  have h : ((2 : Int) + (n : Int)) % (x : Int) = (((2 + n) % x : Nat) : Int) := by simp
  rw [h, Bool.eq_iff_iff]
  simp only [bne_iff_ne, ne_eq]
  omega
theorem owned_block {w : World} {base : Nat} {e : TypeId} {size : Nat} {v : Value} {n r : Nat} {xs : List Value} (ho : w.ownsRow base e size v n xs) (h : v.ownBlock = some r) : base ≤ r := by
  rcases ho.2 with ⟨hv, _⟩ | ⟨g, cap, cur, hv, hb, _⟩
  · rw [hv] at h; cases h
  · rw [hv] at h
    simp [Value.ownBlock] at h
    omega
theorem slice_form {w : World} {base : Nat} {e : TypeId} {size : Nat} {v : Value} {n : Nat} {xs : List Value} (ho : w.ownsRow base e size v n xs) : ∃ a c, v = .slice a n c := by
  rcases ho.2 with ⟨hv, hn⟩ | ⟨g, cap, cur, hv, _⟩
  · exact ⟨_, _, by rw [hv, hn]⟩
  · exact ⟨_, _, hv⟩
theorem one_cell (n : Int) : ∀ u ∈ [Value.int .i64 n], u.oneCell' = true := by
  intro u hu; simp at hu; subst hu; rfl
theorem ints_snoc (L : List Nat) (n : Nat) : ints (L ++ [2 + n]) = ints L ++ [.int .i64 (2 + (n : Int))] := by
  simp [ints]
theorem owns_heap {w w' : World} {base : Nat} {e : TypeId} {size : Nat} {v : Value} {n : Nat} {xs : List Value} (h : w'.heap = w.heap) (ho : w.ownsRow base e size v n xs) : w'.ownsRow base e size v n xs := by
  unfold World.ownsRow at *
  rw [h]; exact ho

set_option maxHeartbeats 2000000 in
set_option maxRecDepth 3000 in
theorem primes_gen (P : List Nat) (hP : Hid (P = primesTo 310)) (w : World) :
    Calls Tryz.prog 107 #[.int .i64 64] w fun e w' => ∃ v, e = .returned v ∧ w'.ownsRow w.heap.size 3 1 v P.length (ints P) ∧ Below w.heap.size w w' := by
  obtain ⟨i0, hi, hz0, hz1, hz2⟩ := info_parts intInfo
  go_enter Tryz.func107, Tryz.ntmps107
  go_wp2
  go_loopw [3, 4] (fun v p wr => ∃ n : Nat, n ≤ 310 ∧ p = .int .i64 (2 + n : Nat) ∧ wr.ownsRow w.heap.size 3 1 v (primesTo n).length (ints (primesTo n)) ∧ Below w.heap.size w wr ∧ (∃ a c, v = .slice a (primesTo n).length c)) (fun _ p _ => 400 - (intOf p).toNat)
  case atStart => exact ⟨0, by omega, rfl, World.ownsRow_nil _ _ _ _, Below.refl _ _, _, _, rfl⟩
  case round =>
    obtain ⟨n, hn, rfl, hown, hb, a, c, rfl⟩ := hrel
    have hge : Hid _ := primesTo_ge n
    by_cases hlt : n < 310
    · have hlen := primes_lt n hlt
      have hcell : Hid (∀ j, j < (primesTo n).length → ∃ g, a = some ⟨g, 0, none⟩ ∧ wr.cell? ⟨g, j, none⟩ = some (.int .i64 ((primesTo n).getD j 0 : Nat))) := by
        intro j hj
        obtain ⟨g, cap, hv, _, _, _, hc⟩ := owned_cell hown (by omega)
        simp only [Value.slice.injEq] at hv
        exact ⟨g, hv.1, hc j hj⟩
      have hnext : Hid (primesTo (n + 1) = if okB (primesTo n) (2 + n) then primesTo n ++ [2 + n] else primesTo n) := rfl
      have HO : Hid _ := hown
      have hnx : (2 + n : Nat) ≤ 400 := by omega
      clear hown
      generalize primesTo n = L at *
      go_wp2
      go_loopw [5, 6] (fun ok i wi => ∃ k : Nat, k ≤ L.length ∧ i = .int .i64 k ∧ ok = .bool (okTo L (2 + n) k) ∧ Hid (∀ j, j < k → L.getD j 0 * L.getD j 0 ≤ 2 + n) ∧ wi.heap = wr.heap ∧ Below w.heap.size w wi) (fun _ i _ => L.length - (intOf i).toNat)
      case atStart => exact ⟨0, Nat.zero_le _, rfl, rfl, fun j hj => absurd hj (Nat.not_lt_zero _), rfl, hb⟩
      case round =>
        obtain ⟨k, hk, rfl, rfl, hsq, hhp, hbi⟩ := hrel
        by_cases hkl : k < L.length
        · obtain ⟨g, rfl, hc0⟩ := hcell.out k hkl
          have hc : wr.cell? ⟨g, k, none⟩ = some (.int .i64 (L.getD k 0 : Nat)) := by
            rw [← hc0]; simp only [World.cell?, hhp]
          clear hc0
          have hs : Hid _ := okTo_succ L (2 + n) k hkl
          have hx2 := (hge.out (L.getD k 0) (getD_mem L k hkl))
          by_cases hsm : L.getD k 0 * L.getD k 0 ≤ 2 + n
          · have hsq' : Hid (∀ j, j < k + 1 → L.getD j 0 * L.getD j 0 ≤ 2 + n) := fun j hj => by
              by_cases e : j = k
              · rw [e]; exact hsm
              · exact hsq.out j (by omega)
            generalize L.getD k 0 = x at *
            have hm1 : (x : Int) * x ≤ 2 + n := by rw [← Int.natCast_mul]; omega
            have hm0 : 0 ≤ (x : Int) * x := by rw [← Int.natCast_mul]; omega
            go_wp2
            go_quiet (fail)
            have hh2 : (wr.drewN nq).heap = _ := hhp
            have hb2 : Below w.heap.size w (wr.drewN nq) := below_drewN hbi nq
            have hc2 : (wr.drewN nq).cell? ⟨g, k, none⟩ = some (.int .i64 (x : Int)) := hc
            have hsH : Hid _ := hsq'
            clear hc hcell hsq' hsq
            generalize wr.drewN nq = wq at *
            have hx0 : ((x : Int) == 0) = false := by simp; omega
            cases hbv : okTo L (2 + n) k
            · rw [hbv] at hs
              go_wp2
              go_roundw
              case rel => exact ⟨k + 1, by omega, by go_num, by rw [show okTo L (2 + n) (k + 1) = _ from hs.out]; rfl, hsH.out, hh2, hb2⟩
              case measure => simp [intOf]; omega
            · rw [hbv] at hs
              go_wp2
              go_roundw
              case rel => exact ⟨k + 1, by omega, by go_num, by rw [show okTo L (2 + n) (k + 1) = _ from hs.out, mod_ne, Bool.true_and], hsH.out, hh2, hb2⟩
              case measure => simp [intOf]; omega
          · have hend : Hid (okB L (2 + n) = okTo L (2 + n) k) := okB_end L (2 + n) k hsq.out hk (Or.inr hsm)
            generalize L.getD k 0 = x at *
            have hm1 : ¬ (x : Int) * x ≤ 2 + n := by rw [← Int.natCast_mul]; omega
            have hm0 : 0 ≤ (x : Int) * x := by rw [← Int.natCast_mul]; omega
            have hmb : x * x ≤ 500 * 500 := Nat.mul_le_mul (by omega) (by omega)
            have hm2 : (x : Int) * x ≤ 250000 := by rw [← Int.natCast_mul]; omega
            go_wp2
            go_quiet (fail)
            have hh2 : (wr.drewN nq).heap = _ := hhp
            have hb2 : Below w.heap.size w (wr.drewN nq) := below_drewN hbi nq
            clear hc hcell hsq hs
            generalize wr.drewN nq = wq at *
            cases hbv : okTo L (2 + n) k
            · rw [hbv] at hend
              have hnx1 : Hid (primesTo (n + 1) = L) := by rw [show primesTo (n + 1) = _ from hnext.out, hend.out]; rfl
              clear hbv hend hnext
              go_wp2
              go_roundw
              case rel => exact ⟨n + 1, by omega, by go_num, by rw [hnx1.out]; exact owns_heap hh2 HO.out, hb2, _, _, by rw [hnx1.out]⟩
              case measure => simp [intOf]; omega
            · rw [hbv] at hend
              have hnx1 : Hid (primesTo (n + 1) = L ++ [2 + n]) := by rw [show primesTo (n + 1) = _ from hnext.out, hend.out]; rfl
              have hO2 := owns_heap hh2 HO.out
              clear hbv hend hnext HO hh2 hhp
              generalize wq = wz at *
              go_wp2_with (at_builtin; (refine wpList_append_own _ rfl _ _ 34 rfl w.heap.size 3 i0 (.int .i64 0) 1 8 Tryz.underlying34 hi hz0 hz1 hz2 rfl (by decide) _ _ _ rfl (hO2.alloc _) ⟨wz.heap.size, 0, none⟩ 1 1 [.int .i64 (2 + (n : Int))] rfl rfl (cell_one_new _ _ _) (one_cell _) (by unfold maxLen; omega) (by omega) (by have := hb2.size; simp; omega) ?_); intro v' w1 hown' hgrow _)
              · skip
                have hb3 : Below w.heap.size w w1 := (hb2.alloc hb2.size _).grown hgrow (by have := hb2.size; simp; omega) (fun r hr => owned_block hO2 hr)
                have hform : ∃ a' c', v' = .slice a' (L.length + 1) c' := slice_form hown'
                obtain ⟨a', c', rfl⟩ := hform
                clear hgrow
                go_wp2
                go_roundw
                case rel => exact ⟨n + 1, by omega, by go_num, by rw [hnx1.out, ints_snoc, List.length_append]; exact hown', hb3, a', c', by rw [hnx1.out]; simp⟩
                case measure => simp [intOf]; omega
        · have ek : k = L.length := by omega
          have hend : Hid (okB L (2 + n) = okTo L (2 + n) k) := okB_end L (2 + n) k hsq.out hk (Or.inl ek)
          have hkd : decide ((k : Int) < (L.length : Int)) = false := by simp; omega
          go_wp2
          go_quiet (fail)
          have hh2 : (wr.drewN nq).heap = _ := hhp
          have hb2 : Below w.heap.size w (wr.drewN nq) := below_drewN hbi nq
          clear hcell hsq ek hkd
          generalize wr.drewN nq = wq at *
          cases hbv : okTo L (2 + n) k
          · rw [hbv] at hend
            have hnx1 : Hid (primesTo (n + 1) = L) := by rw [show primesTo (n + 1) = _ from hnext.out, hend.out]; rfl
            clear hbv hend hnext
            go_wp2
            go_roundw
            case rel => exact ⟨n + 1, by omega, by go_num, by rw [hnx1.out]; exact owns_heap hh2 HO.out, hb2, _, _, by rw [hnx1.out]⟩
            case measure => simp [intOf]; omega
          · rw [hbv] at hend
            have hnx1 : Hid (primesTo (n + 1) = L ++ [2 + n]) := by rw [show primesTo (n + 1) = _ from hnext.out, hend.out]; rfl
            have hO2 := owns_heap hh2 HO.out
            clear hbv hend hnext HO hh2 hhp
            generalize wq = wz at *
            go_wp2_with (at_builtin; (refine wpList_append_own _ rfl _ _ 34 rfl w.heap.size 3 i0 (.int .i64 0) 1 8 Tryz.underlying34 hi hz0 hz1 hz2 rfl (by decide) _ _ _ rfl (hO2.alloc _) ⟨wz.heap.size, 0, none⟩ 1 1 [.int .i64 (2 + (n : Int))] rfl rfl (cell_one_new _ _ _) (one_cell _) (by unfold maxLen; omega) (by omega) (by have := hb2.size; simp; omega) ?_); intro v' w1 hown' hgrow _)
            · skip
              have hb3 : Below w.heap.size w w1 := (hb2.alloc hb2.size _).grown hgrow (by have := hb2.size; simp; omega) (fun r hr => owned_block hO2 hr)
              have hform : ∃ a' c', v' = .slice a' (L.length + 1) c' := slice_form hown'
              obtain ⟨a', c', rfl⟩ := hform
              clear hgrow
              go_wp2
              go_roundw
              case rel => exact ⟨n + 1, by omega, by go_num, by rw [hnx1.out, ints_snoc, List.length_append]; exact hown', hb3, a', c', by rw [hnx1.out]; simp⟩
              case measure => simp [intOf]; omega
    · have en : 310 = n := by omega
      have hl : ¬ ((primesTo n).length : Int) < 64 := by have := primes_len; rw [en] at this; omega
      have hPn : P = primesTo n := by rw [← en]; exact hP.out
      subst hPn
      have HO : Hid (wr.ownsRow w.heap.size 3 1 (.slice a (primesTo n).length c) (primesTo n).length (ints (primesTo n))) := hown
      clear hown en hlt hge hP
      go_wp2
      go_ret
      exact ⟨_, rfl, HO.out, hb⟩

theorem primes_any (w : World) :
    Calls Tryz.prog 107 #[.int .i64 64] w fun e w' => ∃ v, e = .returned v ∧ w'.ownsRow w.heap.size 3 1 v (primesTo 310).length (ints (primesTo 310)) ∧ Below w.heap.size w w' :=
  primes_gen _ rfl w
end Go.Proofs.YtdidjdoifpfmmaaGreatDoor
