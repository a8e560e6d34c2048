import Derived.Test.YtdidjdoifpfmmaaGreatDoorCrcPure
import Derived.Test.YtdidjdoifpfmmaaGreatDoorNotU
import Derived.Deep.RegionWith
namespace Go.Proofs.YtdidjdoifpfmmaaGreatDoor
open Go.RowKit

set_option maxHeartbeats 1000000 in
set_option maxRecDepth 3000 in
theorem shifted_any (x : Nat) (hx : x < 4294967296) (w : World) :
    Calls Tryz.prog 291 #[.int .u32 (x : Nat)] w fun e w' => e = .returned (.int .u32 (crcBits 4 x : Nat)) ∧ w = w' := by
  go_enter Tryz.func291, Tryz.ntmps291
  go_wp2
  go_loop [0, 4] (fun r i => ∃ m : Nat, m ≤ 4 ∧ i = .int .i64 m ∧ r = .int .u32 (crcBits m x : Nat)) (fun _ i => 4 - (intOf i).toNat)
  case atStart => exact ⟨0, by omega, rfl, rfl⟩
  case round =>
    obtain ⟨m, hm, rfl, rfl⟩ := hrel
    by_cases hm4 : m < 4
    · have hl := crcBits_lt m x hx
      have hnx : Hid (crcBits (m + 1) x = crcBit (crcBits m x)) := rfl
      generalize crcBits m x = q at hl hnx ⊢
      have hxo := u32_xor_nat (q / 2) 3988292384 (by omega) (by decide)
      by_cases hodd : q % 2 = 1
      · have hand : bits .and .u32 (q : Int) (1 : Int) = (1 : Int) := by
          have h := u32_and_nat q 1 hl (by decide)
          rw [Nat.and_one_is_mod, hodd] at h
          exact h
        have hq : Hid (crcBits (m + 1) x = (q / 2) ^^^ 3988292384) := by rw [hnx.out]; unfold crcBit; rw [if_pos hodd]; rfl
        go_wp2
        go_round
        case rel => exact ⟨m + 1, by omega, by go_num, by rw [hq.out]; exact congrArg (Value.int .u32) hxo⟩
        case measure => simp [intOf]; omega
      · have hand : bits .and .u32 (q : Int) (1 : Int) = (0 : Int) := by
          have h := u32_and_nat q 1 hl (by decide)
          rw [Nat.and_one_is_mod, show q % 2 = 0 by omega] at h
          exact h
        have hq : Hid (crcBits (m + 1) x = q / 2) := by rw [hnx.out]; unfold crcBit; rw [if_neg hodd]; rfl
        go_wp2
        go_round
        case rel => exact ⟨m + 1, by omega, by go_num, by rw [hq.out]; rfl⟩
        case measure => simp [intOf]; omega
    · have em : m = 4 := by omega
      subst em
      obtain ⟨q, hq⟩ : ∃ q, Hid (crcBits 4 x = q) := ⟨_, rfl⟩
      rw [hq.out]
      go_wp2
      go_ret
      exact ⟨by rw [hq.out]; rfl, rfl⟩

/-- The table, as far as it is filled. -/
def tabTo (n : Nat) : List Nat := halfTab.take n ++ List.replicate (16 - n) 0
theorem tabTo_step (n : Nat) (h : n < 16) : (tabTo n).set n (crcBits 4 n) = tabTo (n + 1) := by
  have hl : (halfTab.take n).length = n := by simp [halfTab]; omega
  have hg : halfTab.take (n + 1) = halfTab.take n ++ [crcBits 4 n] := by
    rw [List.take_succ_eq_append_getElem (by simp [halfTab]; exact h)]
    simp [halfTab]
  unfold tabTo
  rw [List.set_append_right _ _ (by omega), hl, Nat.sub_self, show 16 - n = (16 - (n + 1)) + 1 by omega, List.replicate_succ, List.set_cons_zero, hg]
  simp
theorem tabTo_len (n : Nat) (h : n ≤ 16) : (tabTo n).length = 16 := by simp [tabTo, halfTab]; omega

set_option maxHeartbeats 1000000 in
set_option maxRecDepth 3000 in
theorem fill_any (b B : Nat) (hB : B ≤ b) (c0 c1 c2 : Value) (w : World) (h : RowIs w b 389 (c0 :: c1 :: c2 :: u32s (tabTo 0))) :
    Calls Tryz.prog 277 #[.pointer (some ⟨b, 0, none⟩)] w fun e w' => e = .returned (.tuple #[]) ∧ RowIs w' b 389 (c0 :: c1 :: c2 :: u32s (tabTo 16)) ∧ Below B w w' := by
  go_enter Tryz.func277, Tryz.ntmps277
  go_wp2
  go_loopw [3] (fun i wr => ∃ n : Nat, n ≤ 16 ∧ i = .int .i64 n ∧ RowIs wr b 389 (c0 :: c1 :: c2 :: u32s (tabTo n)) ∧ Below B w wr) (fun i _ => 16 - (intOf i).toNat)
  case atStart => exact ⟨0, by omega, rfl, h, Below.refl _ _⟩
  case round =>
    clear h
    obtain ⟨n, hn, rfl, hR, hb⟩ := hrel
    by_cases hlt : n < 16
    · have hc := hR.cell (n + 3)
      have hf := hR.frozen (n + 3)
      have hl := tabTo_len n hn
      simp only [List.getElem?_cons_succ] at hc
      rw [u32s_get _ _ (by omega)] at hc
      have e3 : n + 3 = 3 + n := by omega
      have hS : ∀ w, Calls Tryz.prog 291 #[.int .u32 (n : Int)] w fun e w' => e = .returned (.int .u32 (crcBits 4 n : Nat)) ∧ w = w' := fun w => shifted_any n (by omega) w
      have hst : Hid _ := tabTo_step n hlt
      generalize crcBits 4 n = y at hS hst
      have hR2 := (hR.set (n + 3) (.int .u32 (y : Int)))
      simp only [List.set_cons_succ] at hR2
      rw [u32s_set, hst.out] at hR2
      have hb2 := (hb.setCell (p := ⟨b, n + 3, none⟩) hB (.int .u32 (y : Int)))
      rw [e3] at hc hf hR2 hb2
      clear hR hb e3
      generalize (tabTo n).getD n 0 = old at hc
      have hw : IntKind.u32.wrap (n : Int) = (n : Int) := by rw [IntKind.wrap_u32]; omega
      have hS2 : ∀ w, Calls Tryz.prog 291 #[.int .u32 (IntKind.u32.wrap (n : Int))] w fun e w' => e = .returned (.int .u32 (y : Nat)) ∧ w = w' := by rw [hw]; exact hS
      clear hw hS
      go_wp2
      go_region_with (go_at_call 291; refine (hS2 _).mono ?_; rintro e w' ⟨rfl, rfl⟩)
      all_goals go_wp2
      all_goals go_roundw
      all_goals first | exact ⟨n + 1, by omega, by go_num, hR2.drew, hb2.drew⟩ | (simp [intOf]; omega)
    · have en : n = 16 := by omega
      subst en
      go_wp2
      go_end0
      exact ⟨rfl, hR, hb⟩
end Go.Proofs.YtdidjdoifpfmmaaGreatDoor
