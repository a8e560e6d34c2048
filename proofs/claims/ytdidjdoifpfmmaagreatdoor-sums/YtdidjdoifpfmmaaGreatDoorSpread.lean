import Derived.Test.YtdidjdoifpfmmaaGreatDoorSha
import Derived.Test.YtdidjdoifpfmmaaGreatDoorDigits
import Derived.BigRegion
import Derived.Laws.Tables
import Derived.Deep.RegionWith
import Derived.Deep.Cut
namespace Go.Proofs.YtdidjdoifpfmmaaGreatDoor
open Go.RowKit

def u32s (l : List Nat) : List Value := l.map fun n : Nat => Value.int .u32 (n : Int)
def bytes (l : List Nat) : List Value := l.map fun n : Nat => Value.int .u8 (n : Int)
theorem u32s_get (l : List Nat) (j : Nat) (h : j < l.length) : (u32s l)[j]? = some (.int .u32 (l.getD j 0 : Nat)) := by
  simp [u32s, List.getD_eq_getElem?_getD, h]
theorem u32s_set (l : List Nat) (j x : Nat) : (u32s l).set j (.int .u32 (x : Nat)) = u32s (l.set j x) := by simp [u32s, List.map_set]
theorem bytes_get (l : List Nat) (j : Nat) (h : j < l.length) : (bytes l)[j]? = some (.int .u8 (l.getD j 0 : Nat)) := by
  simp [bytes, List.getD_eq_getElem?_getD, h]
theorem bytes_length (l : List Nat) : (bytes l).length = l.length := by simp [bytes]
theorem u32s_length (l : List Nat) : (u32s l).length = l.length := by simp [u32s]
theorem u32s_zeros (n : Nat) : u32s (List.replicate n 0) = List.replicate n (.int .u32 0) := by simp [u32s]

theorem u32s_one (l : List Nat) : (u32s l).toArray.all (·.oneCell') = true := by
  simp [u32s, Value.oneCell']
theorem _root_.Go.RowKit.Below.setRow {B g : Nat} {a w : World} (h : Below B a w) (cs : Array Value) (hg : B ≤ g) : Below B a (w.setRow g cs) :=
  h.trans ⟨rfl, rfl, rfl, by simp, fun k hk => setRow_other w g k cs (by omega)⟩
/-- An element of an array by value, each of one cell. -/
theorem index_agg (w : World) (t e : TypeId) (n : Nat) (vs : List Value) (i : Nat) (v : Value) (h : Tryz.prog.underlying t = some (.array n e)) (hi : i < n) (hsz : ∀ w, (sizeOf e).run Tryz.prog w = .ok 1 w) (hag : ∀ w, (isAgg e).run Tryz.prog w = .ok false w) (hv : vs[i]? = some v) :
    (Instr.index t (.agg vs.toArray) (.int .i64 (i : Int))).run Tryz.prog w = .ok v w := by
  have hn : (0 : Int) ≤ i ∧ (i : Int) < (n : Int) := by omega
  simp [Instr.index, run_underlying h, asIntOf, hn, go_sem, hsz, hag, hi, hv]
theorem or_byte (p x : Nat) (hp : p < 16777216) (hx : x < 256) : bits .or .u32 ((p : Int) * 256) (x : Int) = ((256 * p + x : Nat) : Int) := by
  have h := u32_or_nat (p * 256) x (by omega) (by omega)
  rw [Int.natCast_mul] at h
  rw [show (((256 : Nat)) : Int) = 256 from rfl] at h
  rw [h, nat_join 8 (p * 256) x (by omega) (by omega), Nat.mul_comm]

set_option maxHeartbeats 400000 in
set_option maxRecDepth 3000 in
theorem spread_any (b : List Nat) (hb : b.length = 64) (hd : ∀ x ∈ b, x < 256) (w : World) :
    Calls Tryz.prog 248 #[.agg (bytes b).toArray] w fun e w' => e = .returned (.agg (u32s (laid b 48)).toArray) ∧ Below w.heap.size w w' := by
  go_enter Tryz.func248, Tryz.ntmps248
  go_upto_region 2 with fail
  show Code.wp _ _ _ _ (((w.alloc (.cells (bytes b).toArray 189)).alloc (.cells (u32s (List.replicate 64 0)).toArray 379)).alloc (.cells (u32s (List.replicate 64 0)).toArray 379))
  have hb0 : Below w.heap.size w (((w.alloc (.cells (bytes b).toArray 189)).alloc (.cells (u32s (List.replicate 64 0)).toArray 379)).alloc (.cells (u32s (List.replicate 64 0)).toArray 379)) := (((Below.refl _ _).alloc (Nat.le_refl _) _).alloc (by simp) _).alloc (by simp; omega) _
  have h1 := ((RowIs.new w 189 (bytes b)).below ((Below.refl _ _).alloc (Nat.le_refl _) (.cells (u32s (List.replicate 64 0)).toArray 379)) (by simp)).below ((Below.refl _ _).alloc (Nat.le_refl _) (.cells (u32s (List.replicate 64 0)).toArray 379)) (by simp; omega)
  have h2 := (RowIs.new (w.alloc (.cells (bytes b).toArray 189)) 379 (u32s (List.replicate 64 0))).below ((Below.refl _ _).alloc (Nat.le_refl _) (.cells (u32s (List.replicate 64 0)).toArray 379)) (by simp)
  have h3 := RowIs.new ((w.alloc (.cells (bytes b).toArray 189)).alloc (.cells (u32s (List.replicate 64 0)).toArray 379)) 379 (u32s (List.replicate 64 0))
  generalize (((w.alloc (.cells (bytes b).toArray 189)).alloc (.cells (u32s (List.replicate 64 0)).toArray 379)).alloc (.cells (u32s (List.replicate 64 0)).toArray 379)) = W at *
  simp only [World.size_alloc] at h2 h3
  have hsz : (Tryz.prog.info? 189).map (·.size) = some (bytes b).toArray.size := by rw [List.size_toArray, bytes_length, hb]; kernel_rfl
  rw [← filled_zero b] at h3
  go_wp2_with (refine wpList_load_row rfl 189 _ rfl w.heap.size rfl _ _ _ _ h1.heap Tryz.underlying189 rfl hsz ?_)
  go_loopw [12] (fun i wr => ∃ n : Nat, n ≤ 64 ∧ i = .int .i64 n ∧ RowIs wr (w.heap.size + 1) 379 (u32s (List.replicate 64 0)) ∧ RowIs wr (w.heap.size + 1 + 1) 379 (u32s (filled b n)) ∧ Below w.heap.size w wr) (fun i _ => 64 - (intOf i).toNat)
  case atStart => exact ⟨0, by omega, rfl, h2, h3, hb0⟩
  case round =>
    clear h1 h2 h3 hb0 hsz
    obtain ⟨n, hn, rfl, h2, h3, hbw⟩ := hrel
    by_cases hlt : n < 64
    · have hx : (Instr.index 189 (.agg (bytes b).toArray) (.int .i64 (n : Int))).run Tryz.prog wr = .ok (.int .u8 (b.getD n 0 : Nat)) wr :=
        index_agg wr _ _ 64 _ n _ Tryz.underlying189 hlt (fun _ => by kernel_rfl) (fun _ => by kernel_rfl) (bytes_get b n (by omega))
      have hc := h3.cell (n / 4)
      rw [u32s_get _ _ (by rw [filled_len]; omega), filled_get _ _ _ (by omega)] at hc
      have hf := h3.frozen (n / 4)
      have hst : Hid _ := filled_step b n hb hlt
      have l3 := pw_lt3 b n hd
      have lb : b.getD n 0 < 256 := hd _ (Digits.getD_mem b n (by omega))
      generalize pw b n (n / 4) = p at *
      generalize b.getD n 0 = x at *
      have hor := or_byte p x l3 lb
      go_wp2
      go_roundw
      case rel => exact ⟨n + 1, by omega, by go_num, h2.other _ (by simp), by rw [← hst.out, ← u32s_set]; exact h3.set _ _, hbw.setCell (by simp; omega) _⟩
      case measure => simp [intOf]; omega
    · have en : n = 64 := by omega
      have en2 : (n : Int) = 64 := by omega
      rw [en2]
      subst en
      rw [filled_end] at h3
      go_wp2
      go_loopw [28] (fun i wr => ∃ n : Nat, n ≤ 48 ∧ i = .int .i64 n ∧ RowIs wr (w.heap.size + 1) 379 (u32s (List.replicate 64 0)) ∧ RowIs wr (w.heap.size + 1 + 1) 379 (u32s (laid b n)) ∧ Below w.heap.size w wr) (fun i _ => 48 - (intOf i).toNat)
      case atStart => exact ⟨0, by omega, rfl, h2, h3, hbw⟩
      case round =>
        clear h2 h3 hbw
        obtain ⟨n, hn, rfl, h2, h3, hbw⟩ := hrel
        have hln := laid_len b n hn
        by_cases hlt : n < 48
        · have c1 := h3.cell (n + 1)
          have c14 := h3.cell (n + 14)
          have c0 := h3.cell n
          have c9 := h3.cell (n + 9)
          have f16 := h3.frozen (n + 16)
          rw [u32s_get _ _ (by omega), laid_get _ _ _ (by omega)] at c1 c14 c0 c9
          have c16 := h3.cell (n + 16)
          rw [u32s_get _ _ (by omega)] at c16
          have hst : Hid _ := laid_step b n hlt
          have hs := sched_lt (firstWords b) (fun y hy => first_lt b hd y hy) n
          have hext : Hid _ := ext_at (firstWords b) n (firstWords_len b)
          have l0 := getD_lt32 _ hs n
          have l1 := getD_lt32 _ hs (n + 1)
          have l9 := getD_lt32 _ hs (n + 9)
          have l14 := getD_lt32 _ hs (n + 14)
          generalize ext (sched (firstWords b) n) = ex at *
          generalize (sched (firstWords b) n).getD n 0 = x0 at *
          generalize (sched (firstWords b) n).getD (n + 1) 0 = x1 at *
          generalize (sched (firstWords b) n).getD (n + 9) 0 = x9 at *
          generalize (sched (firstWords b) n).getD (n + 14) 0 = x14 at *
          clear hs
          have r7 : ∀ w, Calls Tryz.prog 275 #[.int .u32 (x1 : Int), .int .i64 7] w fun e w' => e = .returned (.int .u32 (rotr x1 7 : Nat)) ∧ w = w' := fun w => right_any x1 7 l1 (by decide) (by decide) w
          have r18 : ∀ w, Calls Tryz.prog 275 #[.int .u32 (x1 : Int), .int .i64 18] w fun e w' => e = .returned (.int .u32 (rotr x1 18 : Nat)) ∧ w = w' := fun w => right_any x1 18 l1 (by decide) (by decide) w
          have r17 : ∀ w, Calls Tryz.prog 275 #[.int .u32 (x14 : Int), .int .i64 17] w fun e w' => e = .returned (.int .u32 (rotr x14 17 : Nat)) ∧ w = w' := fun w => right_any x14 17 l14 (by decide) (by decide) w
          have r19 : ∀ w, Calls Tryz.prog 275 #[.int .u32 (x14 : Int), .int .i64 19] w fun e w' => e = .returned (.int .u32 (rotr x14 19 : Nat)) ∧ w = w' := fun w => right_any x14 19 l14 (by decide) (by decide) w
          have e1 := u32_xor_nat (rotr x1 7) (rotr x1 18) (rotr_lt _ _) (rotr_lt _ _)
          have e2 : bits .xor .u32 ((rotr x1 7 ^^^ rotr x1 18 : Nat) : Int) ((x1 : Int) / 8) = ((sig0 x1 : Nat) : Int) := u32_xor_nat (rotr x1 7 ^^^ rotr x1 18) (x1 / 8) (xor_lt _ _ (rotr_lt _ _) (rotr_lt _ _)) (by omega)
          have e3 := u32_xor_nat (rotr x14 17) (rotr x14 19) (rotr_lt _ _) (rotr_lt _ _)
          have e4 : bits .xor .u32 ((rotr x14 17 ^^^ rotr x14 19 : Nat) : Int) ((x14 : Int) / 1024) = ((sig1 x14 : Nat) : Int) := u32_xor_nat (rotr x14 17 ^^^ rotr x14 19) (x14 / 1024) (xor_lt _ _ (rotr_lt _ _) (rotr_lt _ _)) (by omega)
          have g0 := sig0_lt x1 l1
          have g1 := sig1_lt x14 l14
          go_wp2
          go_region
          go_wp2_with (first | (go_at_call 275; refine (r7 _).mono ?_; rintro e w' ⟨rfl, rfl⟩; clear r7) | (go_at_call 275; refine (r18 _).mono ?_; rintro e w' ⟨rfl, rfl⟩; clear r18) | (go_at_call 275; refine (r17 _).mono ?_; rintro e w' ⟨rfl, rfl⟩; clear r17) | (go_at_call 275; refine (r19 _).mono ?_; rintro e w' ⟨rfl, rfl⟩; clear r19))
          go_region
          have hv : ((x0 : Int) + (sig0 x1 : Nat) + x9 + (sig1 x14 : Nat)) % 4294967296 = (ex : Int) := by rw [hext.out]; omega
          have h2' := h2.other (a := ⟨w.heap.size + 1 + 1, n + 16, none⟩) (.int .u32 (((x0 : Int) + (sig0 x1 : Nat) + x9 + (sig1 x14 : Nat)) % 4294967296)) (by simp)
          have h3' := h3.set (n + 16) (.int .u32 (((x0 : Int) + (sig0 x1 : Nat) + x9 + (sig1 x14 : Nat)) % 4294967296))
          have hb' := hbw.setCell (p := ⟨w.heap.size + 1 + 1, n + 16, none⟩) (by simp; omega) (.int .u32 (((x0 : Int) + (sig0 x1 : Nat) + x9 + (sig1 x14 : Nat)) % 4294967296))
          have h3'' := h3'.drew.drew
          rw [show (u32s (laid b n)).set (n + 16) (.int .u32 (((x0 : Int) + (sig0 x1 : Nat) + x9 + (sig1 x14 : Nat)) % 4294967296)) = u32s (laid b (n + 1)) by rw [hv, u32s_set, hst.out]] at h3''
          have h2'' := h2'.drew.drew
          have hb'' := hb'.drew.drew
          clear c0 c1 c9 c14 c16 f16 h2 h3 hbw h3' h2' hb' hv e1 e2 e3 e4
          generalize (wr.setCell ⟨w.heap.size + 1 + 1, n + 16, none⟩ (.int .u32 (((x0 : Int) + (sig0 x1 : Nat) + x9 + (sig1 x14 : Nat)) % 4294967296))).drew.drew = w3 at *
          go_wp2
          go_roundw
          case rel => exact ⟨n + 1, by omega, by go_num, h2'', h3'', hb''⟩
          case measure => simp [intOf]; omega
        · have en : n = 48 := by omega
          have en2 : (n : Int) = 48 := by omega
          rw [en2]
          subst en
          have hsz : (Tryz.prog.info? 379).map (·.size) = some (u32s (laid b 48)).toArray.size := by rw [List.size_toArray, u32s_length, hln]; kernel_rfl
          have hz : (u32s (List.replicate 64 0)).toArray.size = (u32s (laid b 48)).toArray.size := by rw [List.size_toArray, List.size_toArray, u32s_length, u32s_length, hln]; simp
          have hone := u32s_one (laid b 48)
          have hB2 : Below w.heap.size w (wr.setRow (w.heap.size + 1) (u32s (laid b 48)).toArray) := hbw.setRow _ (by omega)
          have hg2 := setRow_heap wr (w.heap.size + 1) _ (u32s (laid b 48)).toArray _ _ h2.heap
          generalize hL : laid b 48 = L at *
          have HL : Hid (laid b 48 = L) := hL
          clear hL
          go_wp2_with (first | (refine wpList_load_row rfl 379 _ rfl (w.heap.size + 1 + 1) rfl _ _ _ _ h3.heap Tryz.underlying379 rfl hsz ?_) | (refine wpList_store_row rfl 379 _ _ rfl (w.heap.size + 1) _ rfl rfl _ _ h2.heap hsz hz hone ?_))
          refine bodyPost_ret (v := .agg (u32s L).toArray) ?_ rfl ⟨by rw [HL.out], hB2⟩
          exact results_cell_row (P := Tryz.prog) Tryz.results248 _ _ (w.heap.size + 1) _ _ _ _ rfl hg2 Tryz.underlying379 rfl hsz
end Go.Proofs.YtdidjdoifpfmmaaGreatDoor
