import Derived.Test.YtdidjdoifpfmmaaGreatDoorGA4
import Derived.Deep.RegionWith
import Derived.Defers
import Derived.Laws.Pointers
import Derived.Laws.LoneSync
import Derived.RegionCalls
import Derived.Laws.NewBlocks
namespace Go.Proofs.YtdidjdoifpfmmaaGreatDoor
open Go.RowKit

set_option maxHeartbeats 1000000 in
set_option maxRecDepth 3000 in
theorem shifted_any (x : Nat) (hx : x < 4294967296) (w : World) :
    Calls Tryz.prog 291 #[.int .u32 (x : Nat)] w fun e w' => e = .returned (.int .u32 (crcBits 4 x : Nat)) ∧ w = w' := by
  go_enter Tryz.func291, Tryz.ntmps291
  go_wp2
  go_loop [0, 4] (fun r i => ∃ m : Nat, m ≤ 4 ∧ i = .int .i64 m ∧ r = .int .u32 (crcBits m x : Nat)) (fun _ i => 4 - (intOf i).toNat)
  case atStart => exact ⟨0, by omega, rfl, rfl⟩
  case round =>
    obtain ⟨m, hm, rfl, rfl⟩ := hrel
    by_cases hm4 : m < 4
    · have hl := crcBits_lt m x hx
      have hnx : Hid (crcBits (m + 1) x = crcBit (crcBits m x)) := rfl
      generalize crcBits m x = q at hl hnx ⊢
      have hxo := u32_xor_nat (q / 2) 3988292384 (by omega) (by decide)
      by_cases hodd : q % 2 = 1
      · have hand : bits .and .u32 (q : Int) (1 : Int) = (1 : Int) := by
          have h := u32_and_nat q 1 hl (by decide)
          rw [Nat.and_one_is_mod, hodd] at h
          exact h
        have hq : Hid (crcBits (m + 1) x = (q / 2) ^^^ 3988292384) := by rw [hnx.out]; unfold crcBit; rw [if_pos hodd]; rfl
        go_wp2
        go_round
        case rel => exact ⟨m + 1, by omega, by go_num, by rw [hq.out]; exact congrArg (Value.int .u32) hxo⟩
        case measure => simp [intOf]; omega
      · have hand : bits .and .u32 (q : Int) (1 : Int) = (0 : Int) := by
          have h := u32_and_nat q 1 hl (by decide)
          rw [Nat.and_one_is_mod, show q % 2 = 0 by omega] at h
          exact h
        have hq : Hid (crcBits (m + 1) x = q / 2) := by rw [hnx.out]; unfold crcBit; rw [if_neg hodd]; rfl
        go_wp2
        go_round
        case rel => exact ⟨m + 1, by omega, by go_num, by rw [hq.out]; rfl⟩
        case measure => simp [intOf]; omega
    · have em : m = 4 := by omega
      subst em
      obtain ⟨q, hq⟩ : ∃ q, Hid (crcBits 4 x = q) := ⟨_, rfl⟩
      rw [hq.out]
      go_wp2
      go_ret
      exact ⟨by rw [hq.out]; rfl, rfl⟩

/-- The table, as far as it is filled. -/
def tabTo (n : Nat) : List Nat := halfTab.take n ++ List.replicate (16 - n) 0
theorem tabTo_step (n : Nat) (h : n < 16) : (tabTo n).set n (crcBits 4 n) = tabTo (n + 1) := by
  have hl : (halfTab.take n).length = n := by simp [halfTab]; omega
  have hg : halfTab.take (n + 1) = halfTab.take n ++ [crcBits 4 n] := by
    rw [List.take_succ_eq_append_getElem (by simp [halfTab]; exact h)]
    simp [halfTab]
  unfold tabTo
  rw [List.set_append_right _ _ (by omega), hl, Nat.sub_self, show 16 - n = (16 - (n + 1)) + 1 by omega, List.replicate_succ, List.set_cons_zero, hg]
  simp
theorem tabTo_len (n : Nat) (h : n ≤ 16) : (tabTo n).length = 16 := by simp [tabTo, halfTab]; omega

set_option maxHeartbeats 1000000 in
set_option maxRecDepth 3000 in
theorem fill_any (b B : Nat) (hB : B ≤ b) (c0 c1 c2 : Value) (w : World) (h : RowIs w b 389 (c0 :: c1 :: c2 :: u32s (tabTo 0))) :
    Calls Tryz.prog 277 #[.pointer (some ⟨b, 0, none⟩)] w fun e w' => e = .returned (.tuple #[]) ∧ RowIs w' b 389 (c0 :: c1 :: c2 :: u32s (tabTo 16)) ∧ Below B w w' := by
  go_enter Tryz.func277, Tryz.ntmps277
  go_wp2
  go_loopw [3] (fun i wr => ∃ n : Nat, n ≤ 16 ∧ i = .int .i64 n ∧ RowIs wr b 389 (c0 :: c1 :: c2 :: u32s (tabTo n)) ∧ Below B w wr) (fun i _ => 16 - (intOf i).toNat)
  case atStart => exact ⟨0, by omega, rfl, h, Below.refl _ _⟩
  case round =>
    clear h
    obtain ⟨n, hn, rfl, hR, hb⟩ := hrel
    by_cases hlt : n < 16
    · have hc := hR.cell (n + 3)
      have hf := hR.frozen (n + 3)
      have hl := tabTo_len n hn
      simp only [List.getElem?_cons_succ] at hc
      rw [u32s_get _ _ (by omega)] at hc
      have e3 : n + 3 = 3 + n := by omega
      have hS : ∀ w, Calls Tryz.prog 291 #[.int .u32 (n : Int)] w fun e w' => e = .returned (.int .u32 (crcBits 4 n : Nat)) ∧ w = w' := fun w => shifted_any n (by omega) w
      have hst : Hid _ := tabTo_step n hlt
      generalize crcBits 4 n = y at hS hst
      have hR2 := (hR.set (n + 3) (.int .u32 (y : Int)))
      simp only [List.set_cons_succ] at hR2
      rw [u32s_set, hst.out] at hR2
      have hb2 := (hb.setCell (p := ⟨b, n + 3, none⟩) hB (.int .u32 (y : Int)))
      rw [e3] at hc hf hR2 hb2
      clear hR hb e3
      generalize (tabTo n).getD n 0 = old at hc
      have hw : IntKind.u32.wrap (n : Int) = (n : Int) := by rw [IntKind.wrap_u32]; omega
      have hS2 : ∀ w, Calls Tryz.prog 291 #[.int .u32 (IntKind.u32.wrap (n : Int))] w fun e w' => e = .returned (.int .u32 (y : Nat)) ∧ w = w' := by rw [hw]; exact hS
      clear hw hS
      go_wp2
      go_region_with (go_at_call 291; refine (hS2 _).mono ?_; rintro e w' ⟨rfl, rfl⟩)
      all_goals go_wp2
      all_goals go_roundw
      all_goals first | exact ⟨n + 1, by omega, by go_num, hR2.drew, hb2.drew⟩ | (simp [intOf]; omega)
    · have en : n = 16 := by omega
      subst en
      go_wp2
      go_end0
      exact ⟨rfl, hR, hb⟩
end Go.Proofs.YtdidjdoifpfmmaaGreatDoor
namespace Go.Proofs.YtdidjdoifpfmmaaGreatDoor
open Go.RowKit

theorem race_disable (w : World) : (callFunc 172 #[]).run Tryz.prog w = .ok (.value (.tuple #[])) w := run_call_mark0 Tryz.func172 (by kernel_rfl) (by kernel_rfl) (by kernel_rfl) .disable (by kernel_rfl) w
theorem race_enable (w : World) : (callFunc 174 #[]).run Tryz.prog w = .ok (.value (.tuple #[])) w := run_call_mark0 Tryz.func174 (by kernel_rfl) (by kernel_rfl) (by kernel_rfl) .enable (by kernel_rfl) w
theorem race_acquire (a : Addr) (w : World) : (callFunc 175 #[.pointer (some a)]).run Tryz.prog w = .ok (.value (.tuple #[])) w := run_call_marked Tryz.func175 (by kernel_rfl) (by kernel_rfl) (by kernel_rfl) .acquire (by kernel_rfl) a w
theorem race_merge (a : Addr) (w : World) : (callFunc 177 #[.pointer (some a)]).run Tryz.prog w = .ok (.value (.tuple #[])) w := run_call_marked Tryz.func177 (by kernel_rfl) (by kernel_rfl) (by kernel_rfl) .releaseMerge (by kernel_rfl) a w

set_option maxRecDepth 100000 in
set_option maxHeartbeats 1600000 in
/-- The lock, free: it is taken. -/
theorem lock_free (a : Addr) (w : World) (hc : w.cell? a = some (.int .i32 0)) (hz : w.frozen? a = false) :
    Calls Tryz.prog 57 #[.pointer (some a)] w fun e w' => e = .returned (.tuple #[]) ∧ w' = w.setCell a (.int .i32 1) := by
  have hd := race_disable
  have he := race_enable
  have ha := race_acquire
  have hcas := run_call_cas_hit (P := Tryz.prog) Tryz.func173 (by kernel_rfl) (by kernel_rfl) (by kernel_rfl) .i32 (by kernel_rfl) (y := 1) hc hz
  have hc' : (w.setCell a (.int .i32 1)).cell? a = some (.int .i32 1) := World.cell?_setCell_same w a _ hc
  have hcv := run_convert_to_unsafe (P := Tryz.prog) (src := 283) (dst := 239) Tryz.underlying283 Tryz.underlying239 (by kernel_rfl) hc'
  go_enter Tryz.func57, Tryz.ntmps57
  go_wp2
  first | go_end0 | (simp only [Exit.inBlock, Exit.then]; refine bodyPost_ret (results_none rfl _ _ _) rfl ?_) | refine bodyPost_ret (results_none rfl _ _ _) rfl ?_
  go_wp2
  go_end0
  exact ⟨rfl, rfl⟩

set_option maxRecDepth 100000 in
set_option maxHeartbeats 1600000 in
/-- The lock, held: let go, as a deferred call. -/
theorem unlock_deferred (a : Addr) (u : FrameMode) (w : World) (hc : w.cell? a = some (.int .i32 1)) (hz : w.frozen? a = false) :
    CallsD Tryz.prog 58 #[.pointer (some a)] u w fun e u' w' => u' = u ∧ (e = .returned (.tuple #[]) ∧ w' = w.setCell a (.int .i32 0)) := by
  have hd := race_disable
  have he := race_enable
  have hr := race_merge
  have hadd := run_call_add (P := Tryz.prog) Tryz.func178 (by kernel_rfl) (by kernel_rfl) (by kernel_rfl) .i32 (by kernel_rfl) (y := -1) (s := 0) hc hz (by simp [go_sem]; rfl)
  have hcv := run_convert_to_unsafe (P := Tryz.prog) (src := 283) (dst := 239) Tryz.underlying283 Tryz.underlying239 (by kernel_rfl) hc
  go_enter_d Tryz.func58, Tryz.ntmps58
  go_wp2
  go_end0
  go_wp2
  go_end0
  exact ⟨rfl, rfl⟩

theorem store_deferred (a : Addr) (x : Value) (u : FrameMode) (w : World) (hc : w.cell? a = some x) (hz : w.frozen? a = false) :
    CallsD Tryz.prog 308 #[.pointer (some a), .bool true] u w fun e u' w' => u' = u ∧ (e = .returned (.tuple #[]) ∧ w' = w.drew.setCell a (.int .u32 1)) := by
  have hc' : w.drew.cell? a = some x := by go_simp
  have hz' : w.drew.frozen? a = false := by go_simp
  have hst := run_call_store (P := Tryz.prog) Tryz.func320 (by kernel_rfl) (by kernel_rfl) (by kernel_rfl) (by kernel_rfl) (k := .u32) (y := 1) hc' hz'
  go_enter_d Tryz.func308, Tryz.ntmps308
  go_wp2
  go_region_calls
  all_goals (go_end0; exact ⟨rfl, rfl⟩)

set_option maxRecDepth 100000 in
set_option maxHeartbeats 1600000 in
theorem slow_any (b B : Nat) (hB : B ≤ b) (c2 : Value) (w : World) (h : RowIs w b 389 (.int .u32 0 :: .int .i32 0 :: c2 :: u32s (tabTo 0))) :
    Calls Tryz.prog 290 #[.pointer (some ⟨b, 0, none⟩), .func (.func 277) #[.pointer (some ⟨b, 0, none⟩)] #[]] w fun e w' => e = .returned (.tuple #[]) ∧ RowIs w' b 389 (.int .u32 1 :: .int .i32 0 :: c2 :: u32s (tabTo 16)) ∧ Below B w w' := by
  have h1 := h.set 1 (.int .i32 1)
  simp only [List.set_cons_succ, List.set_cons_zero] at h1
  have hl := run_call_load (P := Tryz.prog) Tryz.func307 (by kernel_rfl) (by kernel_rfl) (by kernel_rfl) .u32 (by kernel_rfl) (w := w.setCell ⟨b, 1, none⟩ (.int .i32 1)) (a := ⟨b, 0, none⟩) (x := 0) (h1.cell 0)
  have hf := fill_any b B hB (.int .u32 0) (.int .i32 1) c2 _ h1
  have hb1 : Below B w (w.setCell ⟨b, 1, none⟩ (.int .i32 1)) := (Below.refl _ _).setCell hB _
  have z0 : w.cell? ⟨b, 1, none⟩ = some (.int .i32 0) := h.cell 1
  have z1 := h.frozen 1
  have hnot : ∀ (x : Bool) (w : World), (Op.unary .not (.bool x)).run Tryz.prog w = .ok (.bool (!x)) w := fun _ _ => rfl
  go_enter_defers Tryz.func290, Tryz.ntmps290
  go_wp2_with (first | (go_at_call 57; refine (lock_free ⟨b, 1, none⟩ _ z0 z1).mono ?_; rintro e w' ⟨rfl, rfl⟩) | (go_at_call 277; refine hf.mono ?_; rintro e w2 ⟨rfl, hr2, hb2⟩) | (go_at_call 289; go_in))
  refine leaves_cons (f := 308) (args := #[.pointer (some ⟨b, 0, none⟩), .bool true]) (by simp) (by simp [go_sem]) ?_
  refine (store_deferred ⟨b, 0, none⟩ (.int .u32 0) .returning _ (hr2.cell 0) (hr2.frozen 0)).mono ?_
  rintro e u' w'' ⟨rfl, rfl, rfl⟩
  have hr3 := hr2.drew.set 0 (.int .u32 1)
  simp only [List.set_cons_zero] at hr3
  refine leaves_cons (f := 58) (args := #[.pointer (some ⟨b, 1, none⟩)]) (by simp [settle]) (by simp [go_sem]) ?_
  refine (unlock_deferred ⟨b, 1, none⟩ _ _ (hr3.cell 1) (hr3.frozen 1)).mono ?_
  rintro e u' w'' ⟨rfl, rfl, rfl⟩
  have hr4 := hr3.set 1 (.int .i32 0)
  simp only [List.set_cons_zero, List.set_cons_succ] at hr4
  have hb4 := (((hb1.trans hb2).drew.setCell (p := ⟨b, 0, none⟩) hB (.int .u32 1)).setCell (p := ⟨b, 1, none⟩) hB (.int .i32 0))
  simp [Leaves, settle, results, Tryz.results290]
  exact ⟨hr4, hb4⟩
end Go.Proofs.YtdidjdoifpfmmaaGreatDoor
