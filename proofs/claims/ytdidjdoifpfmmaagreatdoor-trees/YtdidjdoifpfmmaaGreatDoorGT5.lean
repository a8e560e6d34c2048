import Derived.Test.YtdidjdoifpfmmaaGreatDoorGT3
import Derived.Test.YtdidjdoifpfmmaaGreatDoorGT1
import Derived.BigRegion
import Derived.Laws.Tables
import Derived.Deep.RegionWith
import Derived.Deep.Cut
import Derived.Test.YtdidjdoifpfmmaaGreatDoorGT4
import Derived.Defers
import Derived.Laws.Pointers
import Derived.Laws.LoneSync
import Derived.RegionCalls
import Derived.Laws.NewBlocks
import Derived.Maps.OwnOps
import Derived.Maps.OwnSet
namespace Go.Proofs.YtdidjdoifpfmmaaGreatDoor
open Go.RowKit

def u32s (l : List Nat) : List Value := l.map fun n : Nat => Value.int .u32 (n : Int)
def bytes (l : List Nat) : List Value := l.map fun n : Nat => Value.int .u8 (n : Int)
theorem u32s_get (l : List Nat) (j : Nat) (h : j < l.length) : (u32s l)[j]? = some (.int .u32 (l.getD j 0 : Nat)) := by
  simp [u32s, List.getD_eq_getElem?_getD, h]
theorem u32s_set (l : List Nat) (j x : Nat) : (u32s l).set j (.int .u32 (x : Nat)) = u32s (l.set j x) := by simp [u32s, List.map_set]
theorem bytes_get (l : List Nat) (j : Nat) (h : j < l.length) : (bytes l)[j]? = some (.int .u8 (l.getD j 0 : Nat)) := by
  simp [bytes, List.getD_eq_getElem?_getD, h]
theorem bytes_length (l : List Nat) : (bytes l).length = l.length := by simp [bytes]
theorem u32s_length (l : List Nat) : (u32s l).length = l.length := by simp [u32s]
theorem u32s_zeros (n : Nat) : u32s (List.replicate n 0) = List.replicate n (.int .u32 0) := by simp [u32s]

theorem u32s_one (l : List Nat) : (u32s l).toArray.all (·.oneCell') = true := by
  simp [u32s, Value.oneCell']
theorem _root_.Go.RowKit.Below.setRow {B g : Nat} {a w : World} (h : Below B a w) (cs : Array Value) (hg : B ≤ g) : Below B a (w.setRow g cs) :=
  h.trans ⟨rfl, rfl, rfl, by simp, fun k hk => setRow_other w g k cs (by omega)⟩
/-- An element of an array by value, each of one cell. -/
theorem index_agg (w : World) (t e : TypeId) (n : Nat) (vs : List Value) (i : Nat) (v : Value) (h : Tryz.prog.underlying t = some (.array n e)) (hi : i < n) (hsz : ∀ w, (sizeOf e).run Tryz.prog w = .ok 1 w) (hag : ∀ w, (isAgg e).run Tryz.prog w = .ok false w) (hv : vs[i]? = some v) :
    (Instr.index t (.agg vs.toArray) (.int .i64 (i : Int))).run Tryz.prog w = .ok v w := by
  have hn : (0 : Int) ≤ i ∧ (i : Int) < (n : Int) := by omega
  simp [Instr.index, run_underlying h, asIntOf, hn, go_sem, hsz, hag, hi, hv]
theorem or_byte (p x : Nat) (hp : p < 16777216) (hx : x < 256) : bits .or .u32 ((p : Int) * 256) (x : Int) = ((256 * p + x : Nat) : Int) := by
  have h := u32_or_nat (p * 256) x (by omega) (by omega)
  rw [Int.natCast_mul] at h
  rw [show (((256 : Nat)) : Int) = 256 from rfl] at h
  rw [h, nat_join 8 (p * 256) x (by omega) (by omega), Nat.mul_comm]

set_option maxHeartbeats 400000 in
set_option maxRecDepth 3000 in
theorem spread_any (b : List Nat) (hb : b.length = 64) (hd : ∀ x ∈ b, x < 256) (w : World) :
    Calls Tryz.prog 248 #[.agg (bytes b).toArray] w fun e w' => e = .returned (.agg (u32s (laid b 48)).toArray) ∧ Below w.heap.size w w' := by
  go_enter Tryz.func248, Tryz.ntmps248
  go_upto_region 2 with fail
  show Code.wp _ _ _ _ (((w.alloc (.cells (bytes b).toArray 189)).alloc (.cells (u32s (List.replicate 64 0)).toArray 379)).alloc (.cells (u32s (List.replicate 64 0)).toArray 379))
  have hb0 : Below w.heap.size w (((w.alloc (.cells (bytes b).toArray 189)).alloc (.cells (u32s (List.replicate 64 0)).toArray 379)).alloc (.cells (u32s (List.replicate 64 0)).toArray 379)) := (((Below.refl _ _).alloc (Nat.le_refl _) _).alloc (by simp) _).alloc (by simp; omega) _
  have h1 := ((RowIs.new w 189 (bytes b)).below ((Below.refl _ _).alloc (Nat.le_refl _) (.cells (u32s (List.replicate 64 0)).toArray 379)) (by simp)).below ((Below.refl _ _).alloc (Nat.le_refl _) (.cells (u32s (List.replicate 64 0)).toArray 379)) (by simp; omega)
  have h2 := (RowIs.new (w.alloc (.cells (bytes b).toArray 189)) 379 (u32s (List.replicate 64 0))).below ((Below.refl _ _).alloc (Nat.le_refl _) (.cells (u32s (List.replicate 64 0)).toArray 379)) (by simp)
  have h3 := RowIs.new ((w.alloc (.cells (bytes b).toArray 189)).alloc (.cells (u32s (List.replicate 64 0)).toArray 379)) 379 (u32s (List.replicate 64 0))
  generalize (((w.alloc (.cells (bytes b).toArray 189)).alloc (.cells (u32s (List.replicate 64 0)).toArray 379)).alloc (.cells (u32s (List.replicate 64 0)).toArray 379)) = W at *
  simp only [World.size_alloc] at h2 h3
  have hsz : (Tryz.prog.info? 189).map (·.size) = some (bytes b).toArray.size := by rw [List.size_toArray, bytes_length, hb]; kernel_rfl
  rw [← filled_zero b] at h3
  go_wp2_with (refine wpList_load_row rfl 189 _ rfl w.heap.size rfl _ _ _ _ h1.heap Tryz.underlying189 rfl hsz ?_)
  go_loopw [12] (fun i wr => ∃ n : Nat, n ≤ 64 ∧ i = .int .i64 n ∧ RowIs wr (w.heap.size + 1) 379 (u32s (List.replicate 64 0)) ∧ RowIs wr (w.heap.size + 1 + 1) 379 (u32s (filled b n)) ∧ Below w.heap.size w wr) (fun i _ => 64 - (intOf i).toNat)
  case atStart => exact ⟨0, by omega, rfl, h2, h3, hb0⟩
  case round =>
    clear h1 h2 h3 hb0 hsz
    obtain ⟨n, hn, rfl, h2, h3, hbw⟩ := hrel
    by_cases hlt : n < 64
    · have hx : (Instr.index 189 (.agg (bytes b).toArray) (.int .i64 (n : Int))).run Tryz.prog wr = .ok (.int .u8 (b.getD n 0 : Nat)) wr :=
        index_agg wr _ _ 64 _ n _ Tryz.underlying189 hlt (fun _ => by kernel_rfl) (fun _ => by kernel_rfl) (bytes_get b n (by omega))
      have hc := h3.cell (n / 4)
      rw [u32s_get _ _ (by rw [filled_len]; omega), filled_get _ _ _ (by omega)] at hc
      have hf := h3.frozen (n / 4)
      have hst : Hid _ := filled_step b n hb hlt
      have l3 := pw_lt3 b n hd
      have lb : b.getD n 0 < 256 := hd _ (Digits.getD_mem b n (by omega))
      generalize pw b n (n / 4) = p at *
      generalize b.getD n 0 = x at *
      have hor := or_byte p x l3 lb
      go_wp2
      go_roundw
      case rel => exact ⟨n + 1, by omega, by go_num, h2.other _ (by simp), by rw [← hst.out, ← u32s_set]; exact h3.set _ _, hbw.setCell (by simp; omega) _⟩
      case measure => simp [intOf]; omega
    · have en : n = 64 := by omega
      have en2 : (n : Int) = 64 := by omega
      rw [en2]
      subst en
      rw [filled_end] at h3
      go_wp2
      go_loopw [28] (fun i wr => ∃ n : Nat, n ≤ 48 ∧ i = .int .i64 n ∧ RowIs wr (w.heap.size + 1) 379 (u32s (List.replicate 64 0)) ∧ RowIs wr (w.heap.size + 1 + 1) 379 (u32s (laid b n)) ∧ Below w.heap.size w wr) (fun i _ => 48 - (intOf i).toNat)
      case atStart => exact ⟨0, by omega, rfl, h2, h3, hbw⟩
      case round =>
        clear h2 h3 hbw
        obtain ⟨n, hn, rfl, h2, h3, hbw⟩ := hrel
        have hln := laid_len b n hn
        by_cases hlt : n < 48
        · have c1 := h3.cell (n + 1)
          have c14 := h3.cell (n + 14)
          have c0 := h3.cell n
          have c9 := h3.cell (n + 9)
          have f16 := h3.frozen (n + 16)
          rw [u32s_get _ _ (by omega), laid_get _ _ _ (by omega)] at c1 c14 c0 c9
          have c16 := h3.cell (n + 16)
          rw [u32s_get _ _ (by omega)] at c16
          have hst : Hid _ := laid_step b n hlt
          have hs := sched_lt (firstWords b) (fun y hy => first_lt b hd y hy) n
          have hext : Hid _ := ext_at (firstWords b) n (firstWords_len b)
          have l0 := getD_lt32 _ hs n
          have l1 := getD_lt32 _ hs (n + 1)
          have l9 := getD_lt32 _ hs (n + 9)
          have l14 := getD_lt32 _ hs (n + 14)
          generalize ext (sched (firstWords b) n) = ex at *
          generalize (sched (firstWords b) n).getD n 0 = x0 at *
          generalize (sched (firstWords b) n).getD (n + 1) 0 = x1 at *
          generalize (sched (firstWords b) n).getD (n + 9) 0 = x9 at *
          generalize (sched (firstWords b) n).getD (n + 14) 0 = x14 at *
          clear hs
          have r7 : ∀ w, Calls Tryz.prog 275 #[.int .u32 (x1 : Int), .int .i64 7] w fun e w' => e = .returned (.int .u32 (rotr x1 7 : Nat)) ∧ w = w' := fun w => right_any x1 7 l1 (by decide) (by decide) w
          have r18 : ∀ w, Calls Tryz.prog 275 #[.int .u32 (x1 : Int), .int .i64 18] w fun e w' => e = .returned (.int .u32 (rotr x1 18 : Nat)) ∧ w = w' := fun w => right_any x1 18 l1 (by decide) (by decide) w
          have r17 : ∀ w, Calls Tryz.prog 275 #[.int .u32 (x14 : Int), .int .i64 17] w fun e w' => e = .returned (.int .u32 (rotr x14 17 : Nat)) ∧ w = w' := fun w => right_any x14 17 l14 (by decide) (by decide) w
          have r19 : ∀ w, Calls Tryz.prog 275 #[.int .u32 (x14 : Int), .int .i64 19] w fun e w' => e = .returned (.int .u32 (rotr x14 19 : Nat)) ∧ w = w' := fun w => right_any x14 19 l14 (by decide) (by decide) w
          have e1 := u32_xor_nat (rotr x1 7) (rotr x1 18) (rotr_lt _ _) (rotr_lt _ _)
          have e2 : bits .xor .u32 ((rotr x1 7 ^^^ rotr x1 18 : Nat) : Int) ((x1 : Int) / 8) = ((sig0 x1 : Nat) : Int) := u32_xor_nat (rotr x1 7 ^^^ rotr x1 18) (x1 / 8) (xor_lt _ _ (rotr_lt _ _) (rotr_lt _ _)) (by omega)
          have e3 := u32_xor_nat (rotr x14 17) (rotr x14 19) (rotr_lt _ _) (rotr_lt _ _)
          have e4 : bits .xor .u32 ((rotr x14 17 ^^^ rotr x14 19 : Nat) : Int) ((x14 : Int) / 1024) = ((sig1 x14 : Nat) : Int) := u32_xor_nat (rotr x14 17 ^^^ rotr x14 19) (x14 / 1024) (xor_lt _ _ (rotr_lt _ _) (rotr_lt _ _)) (by omega)
          have g0 := sig0_lt x1 l1
          have g1 := sig1_lt x14 l14
          go_wp2
          go_region
          go_wp2_with (first | (go_at_call 275; refine (r7 _).mono ?_; rintro e w' ⟨rfl, rfl⟩; clear r7) | (go_at_call 275; refine (r18 _).mono ?_; rintro e w' ⟨rfl, rfl⟩; clear r18) | (go_at_call 275; refine (r17 _).mono ?_; rintro e w' ⟨rfl, rfl⟩; clear r17) | (go_at_call 275; refine (r19 _).mono ?_; rintro e w' ⟨rfl, rfl⟩; clear r19))
          go_region
          have hv : ((x0 : Int) + (sig0 x1 : Nat) + x9 + (sig1 x14 : Nat)) % 4294967296 = (ex : Int) := by rw [hext.out]; omega
          have h2' := h2.other (a := ⟨w.heap.size + 1 + 1, n + 16, none⟩) (.int .u32 (((x0 : Int) + (sig0 x1 : Nat) + x9 + (sig1 x14 : Nat)) % 4294967296)) (by simp)
          have h3' := h3.set (n + 16) (.int .u32 (((x0 : Int) + (sig0 x1 : Nat) + x9 + (sig1 x14 : Nat)) % 4294967296))
          have hb' := hbw.setCell (p := ⟨w.heap.size + 1 + 1, n + 16, none⟩) (by simp; omega) (.int .u32 (((x0 : Int) + (sig0 x1 : Nat) + x9 + (sig1 x14 : Nat)) % 4294967296))
          have h3'' := h3'.drew.drew
          rw [show (u32s (laid b n)).set (n + 16) (.int .u32 (((x0 : Int) + (sig0 x1 : Nat) + x9 + (sig1 x14 : Nat)) % 4294967296)) = u32s (laid b (n + 1)) by rw [hv, u32s_set, hst.out]] at h3''
          have h2'' := h2'.drew.drew
          have hb'' := hb'.drew.drew
          clear c0 c1 c9 c14 c16 f16 h2 h3 hbw h3' h2' hb' hv e1 e2 e3 e4
          generalize (wr.setCell ⟨w.heap.size + 1 + 1, n + 16, none⟩ (.int .u32 (((x0 : Int) + (sig0 x1 : Nat) + x9 + (sig1 x14 : Nat)) % 4294967296))).drew.drew = w3 at *
          go_wp2
          go_roundw
          case rel => exact ⟨n + 1, by omega, by go_num, h2'', h3'', hb''⟩
          case measure => simp [intOf]; omega
        · have en : n = 48 := by omega
          have en2 : (n : Int) = 48 := by omega
          rw [en2]
          subst en
          have hsz : (Tryz.prog.info? 379).map (·.size) = some (u32s (laid b 48)).toArray.size := by rw [List.size_toArray, u32s_length, hln]; kernel_rfl
          have hz : (u32s (List.replicate 64 0)).toArray.size = (u32s (laid b 48)).toArray.size := by rw [List.size_toArray, List.size_toArray, u32s_length, u32s_length, hln]; simp
          have hone := u32s_one (laid b 48)
          have hB2 : Below w.heap.size w (wr.setRow (w.heap.size + 1) (u32s (laid b 48)).toArray) := hbw.setRow _ (by omega)
          have hg2 := setRow_heap wr (w.heap.size + 1) _ (u32s (laid b 48)).toArray _ _ h2.heap
          generalize hL : laid b 48 = L at *
          have HL : Hid (laid b 48 = L) := hL
          clear hL
          go_wp2_with (first | (refine wpList_load_row rfl 379 _ rfl (w.heap.size + 1 + 1) rfl _ _ _ _ h3.heap Tryz.underlying379 rfl hsz ?_) | (refine wpList_store_row rfl 379 _ _ rfl (w.heap.size + 1) _ rfl rfl _ _ h2.heap hsz hz hone ?_))
          refine bodyPost_ret (v := .agg (u32s L).toArray) ?_ rfl ⟨by rw [HL.out], hB2⟩
          exact results_cell_row (P := Tryz.prog) Tryz.results248 _ _ (w.heap.size + 1) _ _ _ _ rfl hg2 Tryz.underlying379 rfl hsz
end Go.Proofs.YtdidjdoifpfmmaaGreatDoor
namespace Go.Proofs.YtdidjdoifpfmmaaGreatDoor
open Go.RowKit

theorem not_xor (e : Nat) (h : e < 4294967296) : 4294967295 ^^^ e = 4294967295 - e := by
  apply Nat.eq_of_testBit_eq
  intro i
  have h1 : (4294967295 : Nat) = 2 ^ 32 - 1 := by decide
  have h2 : 4294967295 - e = 2 ^ 32 - (e + 1) := by omega
  rw [Nat.testBit_xor, h2, Nat.testBit_two_pow_sub_succ (by omega), h1, Nat.testBit_two_pow_sub_one]
  rcases Nat.lt_or_ge i 32 with hi | hi
  · simp [hi]
  · have : e.testBit i = false := Nat.testBit_lt_two_pow (Nat.lt_of_lt_of_le h (Nat.le_trans (by decide) (Nat.pow_le_pow_right (by decide) hi)))
    simp [this, Nat.not_lt.2 hi]
theorem not_u32 (e : Nat) (h : e < 4294967296) : bits .xor .u32 (if IntKind.u32.signed = true then -1 else IntKind.u32.max) (e : Int) = ((4294967295 - e : Nat) : Int) := by
  have h1 := u32_xor_nat 4294967295 e (by decide) h
  rw [not_xor e h] at h1
  have e1 : (if IntKind.u32.signed = true then (-1 : Int) else IntKind.u32.max) = ((4294967295 : Nat) : Int) := by decide
  rw [e1]
  exact h1
end Go.Proofs.YtdidjdoifpfmmaaGreatDoor
namespace Go.Proofs.YtdidjdoifpfmmaaGreatDoor
open Go.RowKit

set_option maxHeartbeats 1000000 in
set_option maxRecDepth 3000 in
theorem shifted_any (x : Nat) (hx : x < 4294967296) (w : World) :
    Calls Tryz.prog 291 #[.int .u32 (x : Nat)] w fun e w' => e = .returned (.int .u32 (crcBits 4 x : Nat)) ∧ w = w' := by
  go_enter Tryz.func291, Tryz.ntmps291
  go_wp2
  go_loop [0, 4] (fun r i => ∃ m : Nat, m ≤ 4 ∧ i = .int .i64 m ∧ r = .int .u32 (crcBits m x : Nat)) (fun _ i => 4 - (intOf i).toNat)
  case atStart => exact ⟨0, by omega, rfl, rfl⟩
  case round =>
    obtain ⟨m, hm, rfl, rfl⟩ := hrel
    by_cases hm4 : m < 4
    · have hl := crcBits_lt m x hx
      have hnx : Hid (crcBits (m + 1) x = crcBit (crcBits m x)) := rfl
      generalize crcBits m x = q at hl hnx ⊢
      have hxo := u32_xor_nat (q / 2) 3988292384 (by omega) (by decide)
      by_cases hodd : q % 2 = 1
      · have hand : bits .and .u32 (q : Int) (1 : Int) = (1 : Int) := by
          have h := u32_and_nat q 1 hl (by decide)
          rw [Nat.and_one_is_mod, hodd] at h
          exact h
        have hq : Hid (crcBits (m + 1) x = (q / 2) ^^^ 3988292384) := by rw [hnx.out]; unfold crcBit; rw [if_pos hodd]; rfl
        go_wp2
        go_round
        case rel => exact ⟨m + 1, by omega, by go_num, by rw [hq.out]; exact congrArg (Value.int .u32) hxo⟩
        case measure => simp [intOf]; omega
      · have hand : bits .and .u32 (q : Int) (1 : Int) = (0 : Int) := by
          have h := u32_and_nat q 1 hl (by decide)
          rw [Nat.and_one_is_mod, show q % 2 = 0 by omega] at h
          exact h
        have hq : Hid (crcBits (m + 1) x = q / 2) := by rw [hnx.out]; unfold crcBit; rw [if_neg hodd]; rfl
        go_wp2
        go_round
        case rel => exact ⟨m + 1, by omega, by go_num, by rw [hq.out]; rfl⟩
        case measure => simp [intOf]; omega
    · have em : m = 4 := by omega
      subst em
      obtain ⟨q, hq⟩ : ∃ q, Hid (crcBits 4 x = q) := ⟨_, rfl⟩
      rw [hq.out]
      go_wp2
      go_ret
      exact ⟨by rw [hq.out]; rfl, rfl⟩

/-- The table, as far as it is filled. -/
def tabTo (n : Nat) : List Nat := halfTab.take n ++ List.replicate (16 - n) 0
theorem tabTo_step (n : Nat) (h : n < 16) : (tabTo n).set n (crcBits 4 n) = tabTo (n + 1) := by
  have hl : (halfTab.take n).length = n := by simp [halfTab]; omega
  have hg : halfTab.take (n + 1) = halfTab.take n ++ [crcBits 4 n] := by
    rw [List.take_succ_eq_append_getElem (by simp [halfTab]; exact h)]
    simp [halfTab]
  unfold tabTo
  rw [List.set_append_right _ _ (by omega), hl, Nat.sub_self, show 16 - n = (16 - (n + 1)) + 1 by omega, List.replicate_succ, List.set_cons_zero, hg]
  simp
theorem tabTo_len (n : Nat) (h : n ≤ 16) : (tabTo n).length = 16 := by simp [tabTo, halfTab]; omega

set_option maxHeartbeats 1000000 in
set_option maxRecDepth 3000 in
theorem fill_any (b B : Nat) (hB : B ≤ b) (c0 c1 c2 : Value) (w : World) (h : RowIs w b 389 (c0 :: c1 :: c2 :: u32s (tabTo 0))) :
    Calls Tryz.prog 277 #[.pointer (some ⟨b, 0, none⟩)] w fun e w' => e = .returned (.tuple #[]) ∧ RowIs w' b 389 (c0 :: c1 :: c2 :: u32s (tabTo 16)) ∧ Below B w w' := by
  go_enter Tryz.func277, Tryz.ntmps277
  go_wp2
  go_loopw [3] (fun i wr => ∃ n : Nat, n ≤ 16 ∧ i = .int .i64 n ∧ RowIs wr b 389 (c0 :: c1 :: c2 :: u32s (tabTo n)) ∧ Below B w wr) (fun i _ => 16 - (intOf i).toNat)
  case atStart => exact ⟨0, by omega, rfl, h, Below.refl _ _⟩
  case round =>
    clear h
    obtain ⟨n, hn, rfl, hR, hb⟩ := hrel
    by_cases hlt : n < 16
    · have hc := hR.cell (n + 3)
      have hf := hR.frozen (n + 3)
      have hl := tabTo_len n hn
      simp only [List.getElem?_cons_succ] at hc
      rw [u32s_get _ _ (by omega)] at hc
      have e3 : n + 3 = 3 + n := by omega
      have hS : ∀ w, Calls Tryz.prog 291 #[.int .u32 (n : Int)] w fun e w' => e = .returned (.int .u32 (crcBits 4 n : Nat)) ∧ w = w' := fun w => shifted_any n (by omega) w
      have hst : Hid _ := tabTo_step n hlt
      generalize crcBits 4 n = y at hS hst
      have hR2 := (hR.set (n + 3) (.int .u32 (y : Int)))
      simp only [List.set_cons_succ] at hR2
      rw [u32s_set, hst.out] at hR2
      have hb2 := (hb.setCell (p := ⟨b, n + 3, none⟩) hB (.int .u32 (y : Int)))
      rw [e3] at hc hf hR2 hb2
      clear hR hb e3
      generalize (tabTo n).getD n 0 = old at hc
      have hw : IntKind.u32.wrap (n : Int) = (n : Int) := by rw [IntKind.wrap_u32]; omega
      have hS2 : ∀ w, Calls Tryz.prog 291 #[.int .u32 (IntKind.u32.wrap (n : Int))] w fun e w' => e = .returned (.int .u32 (y : Nat)) ∧ w = w' := by rw [hw]; exact hS
      clear hw hS
      go_wp2
      go_region_with (go_at_call 291; refine (hS2 _).mono ?_; rintro e w' ⟨rfl, rfl⟩)
      all_goals go_wp2
      all_goals go_roundw
      all_goals first | exact ⟨n + 1, by omega, by go_num, hR2.drew, hb2.drew⟩ | (simp [intOf]; omega)
    · have en : n = 16 := by omega
      subst en
      go_wp2
      go_end0
      exact ⟨rfl, hR, hb⟩
end Go.Proofs.YtdidjdoifpfmmaaGreatDoor
namespace Go.Proofs.YtdidjdoifpfmmaaGreatDoor
open Go.RowKit

theorem race_disable (w : World) : (callFunc 172 #[]).run Tryz.prog w = .ok (.value (.tuple #[])) w := run_call_mark0 Tryz.func172 (by kernel_rfl) (by kernel_rfl) (by kernel_rfl) .disable (by kernel_rfl) w
theorem race_enable (w : World) : (callFunc 174 #[]).run Tryz.prog w = .ok (.value (.tuple #[])) w := run_call_mark0 Tryz.func174 (by kernel_rfl) (by kernel_rfl) (by kernel_rfl) .enable (by kernel_rfl) w
theorem race_acquire (a : Addr) (w : World) : (callFunc 175 #[.pointer (some a)]).run Tryz.prog w = .ok (.value (.tuple #[])) w := run_call_marked Tryz.func175 (by kernel_rfl) (by kernel_rfl) (by kernel_rfl) .acquire (by kernel_rfl) a w
theorem race_merge (a : Addr) (w : World) : (callFunc 177 #[.pointer (some a)]).run Tryz.prog w = .ok (.value (.tuple #[])) w := run_call_marked Tryz.func177 (by kernel_rfl) (by kernel_rfl) (by kernel_rfl) .releaseMerge (by kernel_rfl) a w

set_option maxRecDepth 100000 in
set_option maxHeartbeats 1600000 in
/-- The lock, free: it is taken. -/
theorem lock_free (a : Addr) (w : World) (hc : w.cell? a = some (.int .i32 0)) (hz : w.frozen? a = false) :
    Calls Tryz.prog 57 #[.pointer (some a)] w fun e w' => e = .returned (.tuple #[]) ∧ w' = w.setCell a (.int .i32 1) := by
  have hd := race_disable
  have he := race_enable
  have ha := race_acquire
  have hcas := run_call_cas_hit (P := Tryz.prog) Tryz.func173 (by kernel_rfl) (by kernel_rfl) (by kernel_rfl) .i32 (by kernel_rfl) (y := 1) hc hz
  have hc' : (w.setCell a (.int .i32 1)).cell? a = some (.int .i32 1) := World.cell?_setCell_same w a _ hc
  have hcv := run_convert_to_unsafe (P := Tryz.prog) (src := 283) (dst := 239) Tryz.underlying283 Tryz.underlying239 (by kernel_rfl) hc'
  go_enter Tryz.func57, Tryz.ntmps57
  go_wp2
  first | go_end0 | (simp only [Exit.inBlock, Exit.then]; refine bodyPost_ret (results_none rfl _ _ _) rfl ?_) | refine bodyPost_ret (results_none rfl _ _ _) rfl ?_
  go_wp2
  go_end0
  exact ⟨rfl, rfl⟩

set_option maxRecDepth 100000 in
set_option maxHeartbeats 1600000 in
/-- The lock, held: let go, as a deferred call. -/
theorem unlock_deferred (a : Addr) (u : FrameMode) (w : World) (hc : w.cell? a = some (.int .i32 1)) (hz : w.frozen? a = false) :
    CallsD Tryz.prog 58 #[.pointer (some a)] u w fun e u' w' => u' = u ∧ (e = .returned (.tuple #[]) ∧ w' = w.setCell a (.int .i32 0)) := by
  have hd := race_disable
  have he := race_enable
  have hr := race_merge
  have hadd := run_call_add (P := Tryz.prog) Tryz.func178 (by kernel_rfl) (by kernel_rfl) (by kernel_rfl) .i32 (by kernel_rfl) (y := -1) (s := 0) hc hz (by simp [go_sem]; rfl)
  have hcv := run_convert_to_unsafe (P := Tryz.prog) (src := 283) (dst := 239) Tryz.underlying283 Tryz.underlying239 (by kernel_rfl) hc
  go_enter_d Tryz.func58, Tryz.ntmps58
  go_wp2
  go_end0
  go_wp2
  go_end0
  exact ⟨rfl, rfl⟩

theorem store_deferred (a : Addr) (x : Value) (u : FrameMode) (w : World) (hc : w.cell? a = some x) (hz : w.frozen? a = false) :
    CallsD Tryz.prog 308 #[.pointer (some a), .bool true] u w fun e u' w' => u' = u ∧ (e = .returned (.tuple #[]) ∧ w' = w.drew.setCell a (.int .u32 1)) := by
  have hc' : w.drew.cell? a = some x := by go_simp
  have hz' : w.drew.frozen? a = false := by go_simp
  have hst := run_call_store (P := Tryz.prog) Tryz.func320 (by kernel_rfl) (by kernel_rfl) (by kernel_rfl) (by kernel_rfl) (k := .u32) (y := 1) hc' hz'
  go_enter_d Tryz.func308, Tryz.ntmps308
  go_wp2
  go_region_calls
  all_goals (go_end0; exact ⟨rfl, rfl⟩)

set_option maxRecDepth 100000 in
set_option maxHeartbeats 1600000 in
theorem slow_any (b B : Nat) (hB : B ≤ b) (c2 : Value) (w : World) (h : RowIs w b 389 (.int .u32 0 :: .int .i32 0 :: c2 :: u32s (tabTo 0))) :
    Calls Tryz.prog 290 #[.pointer (some ⟨b, 0, none⟩), .func (.func 277) #[.pointer (some ⟨b, 0, none⟩)] #[]] w fun e w' => e = .returned (.tuple #[]) ∧ RowIs w' b 389 (.int .u32 1 :: .int .i32 0 :: c2 :: u32s (tabTo 16)) ∧ Below B w w' := by
  have h1 := h.set 1 (.int .i32 1)
  simp only [List.set_cons_succ, List.set_cons_zero] at h1
  have hl := run_call_load (P := Tryz.prog) Tryz.func307 (by kernel_rfl) (by kernel_rfl) (by kernel_rfl) .u32 (by kernel_rfl) (w := w.setCell ⟨b, 1, none⟩ (.int .i32 1)) (a := ⟨b, 0, none⟩) (x := 0) (h1.cell 0)
  have hf := fill_any b B hB (.int .u32 0) (.int .i32 1) c2 _ h1
  have hb1 : Below B w (w.setCell ⟨b, 1, none⟩ (.int .i32 1)) := (Below.refl _ _).setCell hB _
  have z0 : w.cell? ⟨b, 1, none⟩ = some (.int .i32 0) := h.cell 1
  have z1 := h.frozen 1
  have hnot : ∀ (x : Bool) (w : World), (Op.unary .not (.bool x)).run Tryz.prog w = .ok (.bool (!x)) w := fun _ _ => rfl
  go_enter_defers Tryz.func290, Tryz.ntmps290
  go_wp2_with (first | (go_at_call 57; refine (lock_free ⟨b, 1, none⟩ _ z0 z1).mono ?_; rintro e w' ⟨rfl, rfl⟩) | (go_at_call 277; refine hf.mono ?_; rintro e w2 ⟨rfl, hr2, hb2⟩) | (go_at_call 289; go_in))
  refine leaves_cons (f := 308) (args := #[.pointer (some ⟨b, 0, none⟩), .bool true]) (by simp) (by simp [go_sem]) ?_
  refine (store_deferred ⟨b, 0, none⟩ (.int .u32 0) .returning _ (hr2.cell 0) (hr2.frozen 0)).mono ?_
  rintro e u' w'' ⟨rfl, rfl, rfl⟩
  have hr3 := hr2.drew.set 0 (.int .u32 1)
  simp only [List.set_cons_zero] at hr3
  refine leaves_cons (f := 58) (args := #[.pointer (some ⟨b, 1, none⟩)]) (by simp [settle]) (by simp [go_sem]) ?_
  refine (unlock_deferred ⟨b, 1, none⟩ _ _ (hr3.cell 1) (hr3.frozen 1)).mono ?_
  rintro e u' w'' ⟨rfl, rfl, rfl⟩
  have hr4 := hr3.set 1 (.int .i32 0)
  simp only [List.set_cons_zero, List.set_cons_succ] at hr4
  have hb4 := (((hb1.trans hb2).drew.setCell (p := ⟨b, 0, none⟩) hB (.int .u32 1)).setCell (p := ⟨b, 1, none⟩) hB (.int .i32 0))
  simp [Leaves, settle, results, Tryz.results290]
  exact ⟨hr4, hb4⟩
end Go.Proofs.YtdidjdoifpfmmaaGreatDoor
/- The program's disk in memory, and its small calls. -/
namespace Go.Proofs.YtdidjdoifpfmmaaGreatDoor
open Go.RowKit

/-- Where it lies: the disk, its safe sectors, the map of last writes; the slice of the writes that wait. -/
structure DP where
  (p gs gm : Nat)
  wv : Value
def secs (l : List ByteArray) : List Value := l.flatMap fun x => bytes (textOf x)
def wcells (l : List (Nat × ByteArray)) : List Value := l.flatMap fun x => .int .i64 (x.1 : Nat) :: bytes (textOf x.2)
/-- Of each sector that is waited for: the place of its last write. -/
def lastD (l : List (Nat × ByteArray)) : DataW Unit := l.zipIdx.foldl (fun D x => D.put (.int .i64 (x.1.1 : Nat)) (.lit (.int .i64 (x.2 : Nat)))) (.map [])
def DP.blocks (d : DP) : List Nat := d.p :: d.gs :: d.gm :: d.wv.ownBlock.toList
def DP.cells (d : DP) (S : Dk) (lock : Int) : List Value := [.int .i32 lock, .int .u32 0, .slice (some ⟨d.gs, 0, none⟩) S.safe.length S.safe.length, d.wv, .map (some d.gm), .int .i64 (S.fuse : Nat), .bool S.down]
structure DevAt (w : World) (d : DP) (S : Dk) : Prop where
  row : RowIs w d.p 88 (d.cells S 0)
  safe : RowIs w d.gs 190 (secs S.safe)
  wait : w.ownsRow 0 192 65 d.wv S.wait.length (wcells S.wait)
  last : w.ownsMap (H := Unit) Tryz.prog 3 (plainElem Tryz.prog 3) d.gm S.wait.length (lastD S.wait)
  apart : d.blocks.Nodup

set_option maxHeartbeats 1000000 in
theorem devSectors_any {w : World} {d : DP} {S : Dk} (h : DevAt w d S) (ok : S.Ok) :
    Calls Tryz.prog 62 #[.pointer (some ⟨d.p, 0, none⟩)] w fun e w' => e = .returned (.int .i64 (S.safe.length : Nat)) ∧ w = w' := by
  have c2 : w.cell? ⟨d.p, 2, none⟩ = some (.slice (some ⟨d.gs, 0, none⟩) S.safe.length S.safe.length) := h.row.cell 2
  have hn := ok.most
  go_enter Tryz.func62, Tryz.ntmps62
  go_wp2
  go_ret
  exact ⟨rfl, rfl⟩

theorem DevAt.ne {w : World} {d : DP} {S : Dk} (h : DevAt w d S) : d.p ≠ d.gs ∧ d.p ≠ d.gm ∧ d.gs ≠ d.gm ∧ (∀ g, d.wv.ownBlock = some g → d.p ≠ g ∧ d.gs ≠ g ∧ d.gm ≠ g) := by
  have hn := h.apart
  simp only [DP.blocks, List.nodup_cons, List.mem_cons, not_or] at hn
  refine ⟨hn.1.1, hn.1.2.1, hn.2.1.1, fun g hg => ?_⟩
  rw [hg] at hn
  simp at hn
  omega
/-- A disk of which fuse and state have changed alone. -/
theorem DevAt.turn {w : World} {d : DP} {S : Dk} (h : DevAt w d S) {w' : World} {S' : Dk} (hs : S'.safe = S.safe) (hw : S'.wait = S.wait) (hr : RowIs w' d.p 88 (d.cells S' 0)) (hf : Fr w w' [d.p]) : DevAt w' d S' := by
  obtain ⟨n1, n2, n3, n4⟩ := h.ne
  have hg : w.grownBy w' (some d.p) := ⟨hf.os, hf.tape, hf.output, hf.size, fun k hk hne => hf.block k hk (by simpa using hne)⟩
  refine ⟨hr, by rw [hs]; exact hf.row h.safe (by simpa using n1.symm), ?_, ?_, h.apart⟩
  · rw [hw]
    refine h.wait.kept hg ?_
    cases hv : d.wv.ownBlock with
    | none => exact .inl rfl
    | some g => exact .inr (fun e => (n4 g hv).1 (by simpa using e.symm))
  · rw [hw]
    exact h.last.kept hg (by simpa using n2.symm)

set_option maxRecDepth 100000 in
set_option maxHeartbeats 1600000 in
theorem devFuse_any {w : World} {d : DP} {S : Dk} (h : DevAt w d S) (n : Int) :
    Calls Tryz.prog 32 #[.pointer (some ⟨d.p, 0, none⟩), .int .i64 n] w fun e w' => e = .returned (.tuple #[]) ∧ DevAt w' d { S with fuse := n.toNat } ∧ Fr w w' [d.p] := by
  have z0 : w.cell? ⟨d.p, 0, none⟩ = some (.int .i32 0) := h.row.cell 0
  have z1 := h.row.frozen 0
  have h1 := h.row.set 0 (.int .i32 1)
  have c5 : (w.setCell ⟨d.p, 0, none⟩ (.int .i32 1)).cell? ⟨d.p, 5, none⟩ = some (.int .i64 (S.fuse : Nat)) := h1.cell 5
  have f5 := h1.frozen 5
  have h5 : ∀ v : Value, RowIs ((w.setCell ⟨d.p, 0, none⟩ (.int .i32 1)).setCell ⟨d.p, 5, none⟩ v) d.p 88 (((d.cells S 0).set 0 (.int .i32 1)).set 5 v) := fun v => h1.set 5 v
  have key : ∀ v : Int, v = (n.toNat : Nat) → DevAt (((w.setCell ⟨d.p, 0, none⟩ (.int .i32 1)).setCell ⟨d.p, 5, none⟩ (.int .i64 v)).setCell ⟨d.p, 0, none⟩ (.int .i32 0)) d { S with fuse := n.toNat } ∧ Fr w (((w.setCell ⟨d.p, 0, none⟩ (.int .i32 1)).setCell ⟨d.p, 5, none⟩ (.int .i64 v)).setCell ⟨d.p, 0, none⟩ (.int .i32 0)) [d.p] := by
    intro v hv
    have hf : Fr w (((w.setCell ⟨d.p, 0, none⟩ (.int .i32 1)).setCell ⟨d.p, 5, none⟩ (.int .i64 v)).setCell ⟨d.p, 0, none⟩ (.int .i32 0)) [d.p] := (((Fr.refl _ _).setCell _ _ (.inl (by simp))).setCell _ _ (.inl (by simp))).setCell _ _ (.inl (by simp))
    refine ⟨h.turn (S' := { S with fuse := n.toNat }) rfl rfl ?_ hf, hf⟩
    have := (h5 (.int .i64 v)).set 0 (.int .i32 0)
    rw [hv] at this ⊢
    exact this
  have HK : Hid _ := key
  have H5 : Hid _ := h5
  clear key h5 h1
  go_enter_defers Tryz.func32, Tryz.ntmps32
  go_wp2_with (go_at_call 57; refine (lock_free ⟨d.p, 0, none⟩ _ z0 z1).mono ?_; rintro e w' ⟨rfl, rfl⟩)
  all_goals refine leaves_cons (f := 58) (args := #[.pointer (some ⟨d.p, 0, none⟩)]) (by simp) (by simp [go_sem]) ?_
  all_goals refine (unlock_deferred ⟨d.p, 0, none⟩ .returning _ ((H5.out _).cell 0) ((H5.out _).frozen 0)).mono ?_
  all_goals rintro e u' w'' ⟨rfl, rfl, rfl⟩
  all_goals simp [Leaves, settle, results, Tryz.results32]
  all_goals exact HK.out _ (by omega)

set_option maxRecDepth 100000 in
set_option maxHeartbeats 1600000 in
theorem devWaiting_any {w : World} {d : DP} {S : Dk} (h : DevAt w d S) (ok : S.Ok) :
    Calls Tryz.prog 53 #[.pointer (some ⟨d.p, 0, none⟩)] w fun e w' => e = .returned (.int .i64 (S.wait.length : Nat)) ∧ DevAt w' d S ∧ Fr w w' [d.p] := by
  have z0 : w.cell? ⟨d.p, 0, none⟩ = some (.int .i32 0) := h.row.cell 0
  have z1 := h.row.frozen 0
  have h1 := h.row.set 0 (.int .i32 1)
  have hfew := ok.few
  obtain ⟨aw, cw, hwv⟩ : ∃ aw cw, d.wv = .slice aw S.wait.length cw := by
    rcases h.wait.2 with ⟨e, e0⟩ | ⟨g', cap', cur, e, _⟩
    · exact ⟨none, 0, by rw [e, e0]⟩
    · exact ⟨_, _, e⟩
  have c3 : (w.setCell ⟨d.p, 0, none⟩ (.int .i32 1)).cell? ⟨d.p, 3, none⟩ = some (.slice aw S.wait.length cw) := by rw [← hwv]; exact h1.cell 3
  have HF : Hid (Fr w ((w.setCell ⟨d.p, 0, none⟩ (.int .i32 1)).setCell ⟨d.p, 0, none⟩ (.int .i32 0)) [d.p]) := ((Fr.refl _ _).setCell _ _ (.inl (by simp))).setCell _ _ (.inl (by simp))
  have HD : Hid (DevAt ((w.setCell ⟨d.p, 0, none⟩ (.int .i32 1)).setCell ⟨d.p, 0, none⟩ (.int .i32 0)) d S) := h.turn rfl rfl (h1.set 0 (.int .i32 0)) HF.out
  have H1 : Hid _ := h1
  clear h1 h
  go_enter_defers Tryz.func53, Tryz.ntmps53
  go_wp2_with (go_at_call 57; refine (lock_free ⟨d.p, 0, none⟩ _ z0 z1).mono ?_; rintro e w' ⟨rfl, rfl⟩)
  refine leaves_cons (f := 58) (args := #[.pointer (some ⟨d.p, 0, none⟩)]) (by simp) (by simp [go_sem]) ?_
  refine (unlock_deferred ⟨d.p, 0, none⟩ .returning _ (H1.out.cell 0) (H1.out.frozen 0)).mono ?_
  rintro e u' w'' ⟨rfl, rfl, rfl⟩
  exact ⟨_, results_tmp rfl _ _ _, rfl, HD.out, HF.out⟩
end Go.Proofs.YtdidjdoifpfmmaaGreatDoor
namespace Go.Proofs.YtdidjdoifpfmmaaGreatDoor
open Go.RowKit

set_option maxRecDepth 100000 in
set_option maxHeartbeats 1000000 in
theorem refWrite_arg {w : World} {r : RD} {S : Dk} {left : Int} {lit : Bool} (h : RefAt w r S left lit) (ok : S.Ok) (at_ : Int) (d : ByteArray) (hbad : at_ < 0 ∨ S.safe.length ≤ at_ ∨ d.size ≠ 64) (_hdz : d.size ≤ 140737488351232) :
    Calls Tryz.prog 116 #[.pointer (some ⟨r.q, 0, none⟩), .int .i64 at_, .string d] w fun e w' => e = .returned (.int .i64 1) ∧ w = w' := by
  have c1 : w.cell? ⟨r.q, 1, none⟩ = some (.slice (some ⟨r.gE, 0, none⟩) S.safe.length r.cE) := h.row.cell 1
  have hn := ok.most
  by_cases h0 : at_ < 0
  · go_enter Tryz.func116, Tryz.ntmps116
    go_wp2
    go_ret
    exact ⟨rfl, rfl⟩
  · by_cases h1 : (S.safe.length : Int) ≤ at_
    · go_enter Tryz.func116, Tryz.ntmps116
      go_wp2
      go_ret
      exact ⟨rfl, rfl⟩
    · have h2 : ¬ (d.size : Int) = 64 := by omega
      clear hbad
      go_enter Tryz.func116, Tryz.ntmps116
      go_wp2
      go_ret
      exact ⟨rfl, rfl⟩

set_option maxRecDepth 100000 in
set_option maxHeartbeats 1000000 in
theorem refWrite_down {w : World} {r : RD} {S : Dk} {left : Int} {lit : Bool} (h : RefAt w r S left lit) (ok : S.Ok) (k : Nat) (hk : k < S.safe.length) (d : ByteArray) (hd : d.size = 64) (hu : S.tick.down = true) :
    Calls Tryz.prog 116 #[.pointer (some ⟨r.q, 0, none⟩), .int .i64 (k : Nat), .string d] w fun e w' =>
      e = .returned (.int .i64 2) ∧ (∃ left', RefAt w' r S.tick left' lit) ∧ Fr w w' [r.q] := by
  have c1 : w.cell? ⟨r.q, 1, none⟩ = some (.slice (some ⟨r.gE, 0, none⟩) S.safe.length r.cE) := h.row.cell 1
  have hM := refMay_any h
  have hn := ok.most
  rw [hu] at hM
  have hnot : ∀ (x : Bool) (w : World), (Op.unary .not (.bool x)).run Tryz.prog w = .ok (.bool (!x)) w := fun _ _ => rfl
  go_enter Tryz.func116, Tryz.ntmps116
  go_wp2_with (go_at_call 188; refine hM.mono ?_; rintro e w1 ⟨rfl, h1, hf1⟩)
  go_ret
  exact ⟨rfl, h1, hf1⟩

set_option maxRecDepth 100000 in
set_option maxHeartbeats 1000000 in
theorem refFlush_down {w : World} {r : RD} {S : Dk} {left : Int} {lit : Bool} (h : RefAt w r S left lit) (hu : S.tick.down = true) :
    Calls Tryz.prog 118 #[.pointer (some ⟨r.q, 0, none⟩)] w fun e w' =>
      e = .returned (.int .i64 2) ∧ (∃ left', RefAt w' r S.tick left' lit) ∧ Fr w w' [r.q] := by
  have hM := refMay_any h
  rw [hu] at hM
  have hnot : ∀ (x : Bool) (w : World), (Op.unary .not (.bool x)).run Tryz.prog w = .ok (.bool (!x)) w := fun _ _ => rfl
  go_enter Tryz.func118, Tryz.ntmps118
  go_wp2_with (go_at_call 188; refine hM.mono ?_; rintro e w1 ⟨rfl, h1, hf1⟩)
  go_ret
  exact ⟨rfl, h1, hf1⟩

/-- The first i of one list, the rest of another. -/
def upto (a b : List ByteArray) (i : Nat) : List ByteArray := b.take i ++ a.drop i
theorem upto_len (a b : List ByteArray) (i : Nat) (h : a.length = b.length) : (upto a b i).length = a.length := by simp [upto]; omega
theorem upto_step (a b : List ByteArray) (i : Nat) (h : a.length = b.length) (hi : i < a.length) : (upto a b i).set i (b.getD i ByteArray.empty) = upto a b (i + 1) := by
  have hl : (b.take i).length = i := by simp; omega
  have e : b.take (i + 1) = b.take i ++ [b.getD i ByteArray.empty] := by
    rw [List.take_succ_eq_append_getElem (show i < b.length by omega)]
    simp [List.getD_eq_getElem?_getD, show i < b.length by omega]
  unfold upto
  rw [List.set_append_right _ _ (by omega), hl, Nat.sub_self, List.drop_eq_getElem_cons (by omega), List.set_cons_zero, e]
  simp
theorem upto_end (a b : List ByteArray) (h : a.length = b.length) : upto a b a.length = b := by
  unfold upto
  rw [List.drop_length, List.append_nil, h, List.take_length]

set_option maxRecDepth 100000 in
set_option maxHeartbeats 2000000 in
theorem refFlush_ok {w : World} {r : RD} {S : Dk} {left : Int} {lit : Bool} (h : RefAt w r S left lit) (ok : S.Ok) (hu : S.tick.down = false) :
    Calls Tryz.prog 118 #[.pointer (some ⟨r.q, 0, none⟩)] w fun e w' =>
      e = .returned (.int .i64 0) ∧ (∃ r' left', RefAt w' r' { S.tick with safe := S.seen, wait := [] } left' lit ∧ r'.q = r.q ∧ (∀ b ∈ r'.blocks, b ∈ r.blocks ∨ w.heap.size ≤ b)) ∧ Fr w w' r.blocks := by
  have hM := refMay_any h
  rw [hu] at hM
  obtain ⟨n1, n2, n3, n4⟩ := h.ne
  have hn := ok.most
  have hlen := S.seen_length
  have hnot : ∀ (x : Bool) (w : World), (Op.unary .not (.bool x)).run Tryz.prog w = .ok (.bool (!x)) w := fun _ _ => rfl
  have HN4 : Hid _ := n4
  clear n4
  go_enter Tryz.func118, Tryz.ntmps118
  go_wp2_with (go_at_call 188; refine hM.mono ?_; rintro e w1 ⟨rfl, ⟨l1, h1⟩, hf1⟩; clear hM)
  have m0 := h1.row
  have mS := h1.safe
  have mE := h1.seen
  rw [S.tick_safe] at m0 mS
  rw [S.tick_seen] at mE
  have hcaps := h1.caps
  have hlit := h1.lit
  have hsm := h1.small
  go_loopw [4] (fun i wr => ∃ j : Nat, j ≤ S.safe.length ∧ i = .int .i64 j ∧ RowIs wr r.q 139 [.slice (some ⟨r.gS, 0, none⟩) S.safe.length r.cS, .slice (some ⟨r.gE, 0, none⟩) S.safe.length r.cE, r.wv, .int .i64 l1, .bool lit, .bool S.tick.down] ∧ Has wr r.gS 9 r.cS 1 (strs (upto S.safe S.seen j)) ∧ Has wr r.gE 9 r.cE 1 (strs S.seen) ∧ Fr w wr r.blocks) (fun i _ => S.safe.length - (intOf i).toNat)
  case atStart => exact ⟨0, Nat.zero_le _, rfl, m0, mS, mE, hf1.wider (by simp [RD.blocks])⟩
  case round =>
    clear m0 mS mE h1 hf1
    obtain ⟨j, hj, rfl, m0, mS, mE, hf⟩ := hrel
    have c0 : wr.cell? ⟨r.q, 0, none⟩ = some (.slice (some ⟨r.gS, 0, none⟩) S.safe.length r.cS) := m0.cell 0
    have c1 : wr.cell? ⟨r.q, 1, none⟩ = some (.slice (some ⟨r.gE, 0, none⟩) S.safe.length r.cE) := m0.cell 1
    by_cases hlt : j < S.safe.length
    · have ce := mE.cell j (by rw [strs_length, hlen]; exact hlt)
      rw [strs_get _ _ (by rw [hlen]; exact hlt)] at ce
      have cs := mS.cell j (by rw [strs_length, upto_len _ _ _ hlen.symm]; exact hlt)
      rw [strs_get _ _ (by rw [upto_len _ _ _ hlen.symm]; exact hlt)] at cs
      have fs := mS.frozen j
      have hst : Hid _ := upto_step S.safe S.seen j hlen.symm hlt
      generalize S.seen.getD j ByteArray.empty = x at ce hst
      generalize (upto S.safe S.seen j).getD j ByteArray.empty = old at cs
      have s0 : Hid (RowIs (wr.setCell ⟨r.gS, j, none⟩ (.string x)).drew r.q 139 [.slice (some ⟨r.gS, 0, none⟩) S.safe.length r.cS, .slice (some ⟨r.gE, 0, none⟩) S.safe.length r.cE, r.wv, .int .i64 l1, .bool lit, .bool S.tick.down]) := (m0.other (a := ⟨r.gS, j, none⟩) _ n1).drew
      have sS : Hid (Has (wr.setCell ⟨r.gS, j, none⟩ (.string x)).drew r.gS 9 r.cS 1 (strs (upto S.safe S.seen (j + 1)))) := by
        have := mS.set j (.string x)
        rw [strs_set, hst.out] at this
        exact this.keep rfl
      have sE : Hid (Has (wr.setCell ⟨r.gS, j, none⟩ (.string x)).drew r.gE 9 r.cE 1 (strs S.seen)) := (mE.other (a := ⟨r.gS, j, none⟩) (.string x) n3.symm).keep rfl
      have sF : Hid (Fr w (wr.setCell ⟨r.gS, j, none⟩ (.string x)).drew r.blocks) := (hf.setCell _ _ (.inl (by simp [RD.blocks]))).drew
      clear m0 mS mE hf
      go_wp2
      go_region
      go_wp2
      go_roundw
      case rel => exact ⟨j + 1, by omega, by go_num, s0.out, sS.out, sE.out, sF.out⟩
      case measure => simp [intOf]; omega
    · have ej : j = S.safe.length := by omega
      subst ej
      rw [upto_end _ _ hlen.symm] at mS
      have f2 := m0.frozen 2
      have c2 : wr.cell? ⟨r.q, 2, none⟩ = some r.wv := m0.cell 2
      have s0 := m0.set 2 (.slice none 0 0)
      have sS := mS.other (a := ⟨r.q, 2, none⟩) (.slice none 0 0) n1.symm
      have sE := mE.other (a := ⟨r.q, 2, none⟩) (.slice none 0 0) n2.symm
      have sF := hf.setCell ⟨r.q, 2, none⟩ (.slice none 0 0) (.inl (by simp [RD.blocks]))
      have HS : Hid _ := s0
      have HS2 : Hid _ := sS
      have HS3 : Hid _ := sE
      have HS4 : Hid _ := sF
      clear m0 mS mE hf s0 sS sE sF
      go_wp2
      go_ret
      refine ⟨rfl, ⟨⟨r.q, r.gS, r.cS, r.gE, r.cE, .slice none 0 0⟩, l1, ⟨?_, ?_, ?_, ?_, ?_, hcaps, hlit, hsm⟩, rfl, ?_⟩, HS4.out⟩
      · rw [hlen]; exact HS.out
      · exact HS2.out
      · exact HS3.out
      · exact World.ownsRow_nil _ _ _ _
      · show (r.q :: r.gS :: r.gE :: []).Nodup
        simp only [List.nodup_cons, List.mem_cons, List.not_mem_nil, or_false, not_or, not_false_eq_true, List.nodup_nil, and_true]
        exact ⟨⟨n1, n2⟩, n3⟩
      · intro b hb
        have hb' : b ∈ (r.q :: r.gS :: r.gE :: []) := hb
        simp only [List.mem_cons, List.not_mem_nil, or_false] at hb'
        left
        rcases hb' with rfl | rfl | rfl <;> simp [RD.blocks]
end Go.Proofs.YtdidjdoifpfmmaaGreatDoor
