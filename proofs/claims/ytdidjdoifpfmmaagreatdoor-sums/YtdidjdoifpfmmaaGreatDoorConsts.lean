import Derived.Test.YtdidjdoifpfmmaaGreatDoorPrimes
namespace Go.Proofs.YtdidjdoifpfmmaaGreatDoor
open Go.RowKit Digits

theorem take_map_snoc (P : List Nat) (f : Nat → Nat) (n : Nat) (h : n < P.length) : (P.take (n + 1)).map f = (P.take n).map f ++ [f (P.getD n 0)] := by
  rw [List.take_succ_eq_append_getElem h, List.map_append]
  simp [List.getD_eq_getElem?_getD, h]
theorem ints_app (L M : List Nat) : ints (L ++ M) = ints L ++ ints M := by simp [ints]
theorem getD_map (P : List Nat) (f : Nat → Nat) (j : Nat) (h : j < P.length) : (P.map f).getD j 0 = f (P.getD j 0) := by
  simp [List.getD_eq_getElem?_getD, h]
theorem getD_take (P : List Nat) (n j : Nat) (h : j < n) : (P.take n).getD j 0 = P.getD j 0 := by
  simp [List.getD_eq_getElem?_getD, h]
theorem owns_below {w w' : World} {base : Nat} {e : TypeId} {size : Nat} {v : Value} {n : Nat} {xs : List Value} (ho : w.ownsRow base e size v n xs) (hb : Below w.heap.size w w') : w'.ownsRow base e size v n xs := by
  refine ⟨ho.1, ?_⟩
  rcases ho.2 with h | ⟨g, cap, cur, hv, hg, hh, r⟩
  · exact Or.inl h
  · refine Or.inr ⟨g, cap, cur, hv, hg, ?_, r⟩
    rw [hb.block g ?_]; exact hh
    rcases Nat.lt_or_ge g w.heap.size with h' | h'
    · exact h'
    · rw [Array.getElem?_eq_none h'] at hh; cases hh
theorem rootOf_lt (p k : Nat) : rootOf p k < 4294967296 := by
  have := bitsTo_mod (wholeOf p k) p k 32 (Nat.le_refl _)
  unfold rootOf
  omega

set_option maxHeartbeats 2000000 in
set_option maxRecDepth 3000 in
theorem constants_gen (P : List Nat) (hP : Hid (P = primesTo 310)) (w : World) :
    Calls Tryz.prog 64 #[] w fun e w' => ∃ gk ck gh ch, e = .returned (.tuple #[.slice (some ⟨gk, 0, none⟩) 64 ck, .slice (some ⟨gh, 0, none⟩) 8 ch]) ∧
      (∀ j, j < 64 → w'.cell? ⟨gk, j, none⟩ = some (.int .i64 (rootOf (P.getD j 0) 3 : Nat))) ∧ (∀ j, j < 8 → w'.cell? ⟨gh, j, none⟩ = some (.int .i64 (rootOf (P.getD j 0) 2 : Nat))) ∧ w.heap.size ≤ gk ∧ w.heap.size ≤ gh ∧ Below w.heap.size w w' := by
  obtain ⟨i0, hi, hz0, hz1, hz2⟩ := info_parts intInfo
  have hlen : P.length = 64 := by rw [hP.out]; exact primes_len
  have hge : Hid (∀ j, j < 64 → P.getD j 0 ≤ 311) := fun j hj => by
    have := primesTo_ge 310 (P.getD j 0) (by rw [← hP.out]; exact getD_mem P j (by omega))
    omega
  have hpr := primes_gen P hP w
  rw [hlen] at hpr
  go_enter Tryz.func64, Tryz.ntmps64
  go_wp2_with (go_at_call 107; refine hpr.mono ?_; rintro e w1 ⟨v, rfl, hown, hb1⟩)
  have hown' : w1.ownsRow w.heap.size 3 1 v P.length (ints P) := by rw [hlen]; exact hown
  obtain ⟨gl, cl, rfl, hgl, hgl2, _, hcl⟩ := owned_cell hown' (by omega)
  have HC : Hid _ := hcl
  clear hcl hown hown' hpr hP
  rw [hlen]
  go_loopw [3, 5] (fun v i wr => ∃ n : Nat, n ≤ 64 ∧ i = .int .i64 n ∧ wr.ownsRow w1.heap.size 3 1 v n (ints ((P.take n).map fun p => rootOf p 3)) ∧ Below w1.heap.size w1 wr) (fun _ i _ => 64 - (intOf i).toNat)
  case atStart => exact ⟨0, by omega, rfl, World.ownsRow_nil _ _ _ _, Below.refl _ _⟩
  case round =>
    obtain ⟨n, hn, rfl, hown, hb⟩ := hrel
    by_cases hlt : n < 64
    · have hc : wr.cell? ⟨gl, n, none⟩ = some (.int .i64 (P.getD n 0 : Nat)) := by rw [hb.cell hgl2]; exact HC.out n (by omega)
      have hp := hge.out n hlt
      have hr := root_three (P.getD n 0) wr hp
      have hrl := rootOf_lt (P.getD n 0) 3
      have hsn : Hid _ := take_map_snoc P (fun p => rootOf p 3) n (by omega)
      generalize P.getD n 0 = p at *
      generalize rootOf p 3 = r at *
      have HO : Hid (wr.ownsRow w1.heap.size 3 1 u3 n (ints ((P.take n).map fun p => rootOf p 3))) := hown
      clear hown
      go_wp2_with (first | (go_at_call 108; refine hr.mono ?_; rintro e w2 ⟨rfl, hb2⟩; have hO2 := owns_below HO.out hb2; clear hr HO) | (at_builtin; refine wpList_append_own _ rfl _ _ 34 rfl w1.heap.size 3 i0 (.int .i64 0) 1 8 Tryz.underlying34 hi hz0 hz1 hz2 rfl (by decide) _ _ _ rfl (hO2.alloc _) ⟨w2.heap.size, 0, none⟩ 1 1 [.int .i64 (r : Int)] rfl rfl (cell_one_new _ _ _) (one_cell _) (by unfold maxLen; omega) (by omega) (by have := hb.size; have := hb2.size; simp; omega) ?_; intro v' w3 hown3 hgrow _))
      have hb3 : Below w1.heap.size w1 w3 := ((hb.trans (hb2.mono hb.size)).alloc (Nat.le_trans hb.size hb2.size) _).grown hgrow (by have := hb.size; have := hb2.size; simp; omega) (fun r hr => owned_block hO2 hr)
      clear hgrow
      go_wp2
      go_roundw
      case rel => exact ⟨n + 1, by omega, by go_num, by rw [hsn.out, ints_app]; exact hown3, hb3⟩
      case measure => simp [intOf]; omega
    · have en : n = 64 := by omega
      have en2 : (n : Int) = 64 := by omega
      rw [en2]
      subst en
      rw [List.take_of_length_le (by omega)] at hown
      have hown4 : wr.ownsRow w1.heap.size 3 1 u3 (P.map fun p => rootOf p 3).length (ints (P.map fun p => rootOf p 3)) := by rw [List.length_map, hlen]; exact hown
      obtain ⟨gk, ck, rfl, hgk, hgk2, _, hck⟩ := owned_cell hown4 (by rw [List.length_map]; omega)
      have HK : Hid (∀ j, j < 64 → wr.cell? ⟨gk, j, none⟩ = some (.int .i64 (rootOf (P.getD j 0) 3 : Nat))) := fun j hj => by
        rw [hck j (by rw [List.length_map]; omega), getD_map P _ j (by omega)]
      have HC2 : Hid (∀ j, j < 64 → wr.cell? ⟨gl, j, none⟩ = some (.int .i64 (P.getD j 0 : Nat))) := fun j hj => by
        rw [hb.cell hgl2]; exact HC.out j (by omega)
      have hgl3 : gl < wr.heap.size := Nat.lt_of_lt_of_le hgl2 hb.size
      have hlk : (P.map fun p => rootOf p 3).length = 64 := by rw [List.length_map, hlen]
      rw [hlk]
      have hbA : Below w.heap.size w wr := hb1.trans (hb.mono hb1.size)
      have hgkA : w.heap.size ≤ gk := Nat.le_trans hb1.size hgk
      clear hck hown hown4 HC hb hb1 hgl2 hgk hlk
      generalize wr = wk at *
      go_wp2
      go_loopw [4, 7] (fun v i wr => ∃ n : Nat, n ≤ 8 ∧ i = .int .i64 n ∧ wr.ownsRow wk.heap.size 3 1 v n (ints ((P.take n).map fun p => rootOf p 2)) ∧ Below wk.heap.size wk wr) (fun _ i _ => 8 - (intOf i).toNat)
      case atStart => exact ⟨0, by omega, rfl, World.ownsRow_nil _ _ _ _, Below.refl _ _⟩
      case round =>
        obtain ⟨n, hn, rfl, hown, hb⟩ := hrel
        by_cases hlt : n < 8
        · have hc : wr.cell? ⟨gl, n, none⟩ = some (.int .i64 (P.getD n 0 : Nat)) := by rw [hb.cell hgl3]; exact HC2.out n (by omega)
          have hp := hge.out n (by omega)
          have hr := root_two (P.getD n 0) wr hp
          have hrl := rootOf_lt (P.getD n 0) 2
          have hsn : Hid _ := take_map_snoc P (fun p => rootOf p 2) n (by omega)
          generalize P.getD n 0 = p at *
          generalize rootOf p 2 = r at *
          have HO : Hid (wr.ownsRow wk.heap.size 3 1 u4 n (ints ((P.take n).map fun p => rootOf p 2))) := hown
          clear hown
          go_wp2_with (first | (go_at_call 108; refine hr.mono ?_; rintro e w2 ⟨rfl, hb2⟩; have hO2 := owns_below HO.out hb2; clear hr HO) | (at_builtin; refine wpList_append_own _ rfl _ _ 34 rfl wk.heap.size 3 i0 (.int .i64 0) 1 8 Tryz.underlying34 hi hz0 hz1 hz2 rfl (by decide) _ _ _ rfl (hO2.alloc _) ⟨w2.heap.size, 0, none⟩ 1 1 [.int .i64 (r : Int)] rfl rfl (cell_one_new _ _ _) (one_cell _) (by unfold maxLen; omega) (by omega) (by have := hb.size; have := hb2.size; simp; omega) ?_; intro v' w3 hown3 hgrow _))
          have hb3 : Below wk.heap.size wk w3 := ((hb.trans (hb2.mono hb.size)).alloc (Nat.le_trans hb.size hb2.size) _).grown hgrow (by have := hb.size; have := hb2.size; simp; omega) (fun r hr => owned_block hO2 hr)
          clear hgrow
          go_wp2
          go_roundw
          case rel => exact ⟨n + 1, by omega, by go_num, by rw [hsn.out, ints_app]; exact hown3, hb3⟩
          case measure => simp [intOf]; omega
        · have en : n = 8 := by omega
          have en2 : (n : Int) = 8 := by omega
          rw [en2]
          subst en
          have hown4 : wr.ownsRow wk.heap.size 3 1 u4 ((P.take 8).map fun p => rootOf p 2).length (ints ((P.take 8).map fun p => rootOf p 2)) := by rw [List.length_map, List.length_take, hlen]; exact hown
          obtain ⟨gh, ch, rfl, hgh, _, _, hch⟩ := owned_cell hown4 (by rw [List.length_map, List.length_take]; omega)
          have hlh : ((P.take 8).map fun p => rootOf p 2).length = 8 := by rw [List.length_map, List.length_take, hlen]; rfl
          have HH : Hid (∀ j, j < 8 → wr.cell? ⟨gh, j, none⟩ = some (.int .i64 (rootOf (P.getD j 0) 2 : Nat))) := fun j hj => by
            rw [hch j (by omega), getD_map _ _ j (by rw [List.length_take]; omega), getD_take P 8 j hj]
          have HK2 : Hid (∀ j, j < 64 → wr.cell? ⟨gk, j, none⟩ = some (.int .i64 (rootOf (P.getD j 0) 3 : Nat))) := fun j hj => by
            rw [hb.cell hgk2]; exact HK.out j hj
          rw [hlh]
          clear hch hown hown4 hlh HK HC2
          go_wp2
          go_ret2
          exact ⟨gk, ck, gh, ch, rfl, HK2.out, HH.out, hgkA, Nat.le_trans hbA.size hgh, hbA.trans (hb.mono hbA.size)⟩
end Go.Proofs.YtdidjdoifpfmmaaGreatDoor
