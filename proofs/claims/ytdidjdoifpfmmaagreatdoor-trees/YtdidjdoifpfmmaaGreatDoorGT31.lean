import Derived.Test.YtdidjdoifpfmmaaGreatDoorGT3
import Derived.Deep.RegionWith
import Derived.Deep.DrawnRows
import Derived.Test.YtdidjdoifpfmmaaGreatDoorGT30
import Derived.Test.YtdidjdoifpfmmaaGreatDoorGT19
import Derived.Test.YtdidjdoifpfmmaaGreatDoorGT9
import Derived.Test.YtdidjdoifpfmmaaGreatDoorCards
import Derived.Test.YtdidjdoifpfmmaaGreatDoorTie
import Derived.WalkKit
import Derived.ProofKit
import Derived.OpenShut
import Derived.Stop.LaidErr
import Derived.LaidHandle
import Derived.LaidSub
namespace Go.Proofs.YtdidjdoifpfmmaaGreatDoor
open Go.RowKit Digits

set_option maxHeartbeats 1000000 in
set_option maxRecDepth 3000 in
theorem does_sums (o : OpR) (w : World) (h1 : 1 ≤ o.kind) (h2 : o.kind ≤ 22) :
    Calls Tryz.prog 40 #[OpR.agg o, .int .i64 6] w fun e w' => e = .returned (.bool (decide (o.kind = 1 ∨ o.kind = 2))) ∧ Below w.heap.size w w' := by
  unfold OpR.agg
  obtain ⟨k, a, b, d, s, t⟩ := o
  simp only at h1 h2 ⊢
  obtain ⟨n, rfl⟩ := Int.eq_ofNat_of_zero_le (show 0 ≤ k by omega)
  have hb : bits .and .i64 ((6 : Int) / 2 ^ n) 1 = if n = 1 ∨ n = 2 then 1 else 0 := by
    have key : ∀ n : Fin 23, 1 ≤ n.val → bits .and .i64 ((6 : Int) / 2 ^ n.val) 1 = if n.val = 1 ∨ n.val = 2 then 1 else 0 := by decide
    exact key ⟨n, by omega⟩ (show 1 ≤ n by omega)
  by_cases hn : n = 1 ∨ n = 2
  · rw [if_pos hn] at hb
    have hd : decide ((n : Int) = 1 ∨ (n : Int) = 2) = true := by simp; omega
    have hne1 : ((n : Int) == 19) = false := by simp; omega
    have hne2 : ((n : Int) == 20) = false := by simp; omega
    go_enter Tryz.func40, Tryz.ntmps40
    go_wp2
    go_ret
    exact ⟨by rw [hd]; rfl, (Below.refl _ _).alloc (Nat.le_refl _) _⟩
  · rw [if_neg hn] at hb
    have hd : decide ((n : Int) = 1 ∨ (n : Int) = 2) = false := by simp; omega
    by_cases e19 : n = 19
    · subst e19
      by_cases ea : a = 0
      · subst ea
        go_enter Tryz.func40, Tryz.ntmps40
        go_wp2
        go_ret
        exact ⟨by rw [hd]; rfl, (Below.refl _ _).alloc (Nat.le_refl _) _⟩
      · have ha : (a == 0) = false := by simpa using ea
        go_enter Tryz.func40, Tryz.ntmps40
        go_wp2
        go_ret
        exact ⟨by rw [hd]; rfl, (Below.refl _ _).alloc (Nat.le_refl _) _⟩
    · by_cases e20 : n = 20
      · subst e20
        by_cases ea : a = 0
        · subst ea
          go_enter Tryz.func40, Tryz.ntmps40
          go_wp2
          go_ret
          exact ⟨by rw [hd]; rfl, (Below.refl _ _).alloc (Nat.le_refl _) _⟩
        · have ha : (a == 0) = false := by simpa using ea
          go_enter Tryz.func40, Tryz.ntmps40
          go_wp2
          go_ret
          exact ⟨by rw [hd]; rfl, (Below.refl _ _).alloc (Nat.le_refl _) _⟩
      · have hne1 : ((n : Int) == 19) = false := by simp; omega
        have hne2 : ((n : Int) == 20) = false := by simp; omega
        go_enter Tryz.func40, Tryz.ntmps40
        go_wp2
        go_ret
        exact ⟨by rw [hd]; rfl, (Below.refl _ _).alloc (Nat.le_refl _) _⟩

set_option maxHeartbeats 1000000 in
set_option maxRecDepth 3000 in
theorem does_disks (o : OpR) (w : World) (h1 : 1 ≤ o.kind) (h2 : o.kind ≤ 22) :
    Calls Tryz.prog 40 #[OpR.agg o, .int .i64 4088] w fun e w' => e = .returned (.bool (decide (3 ≤ o.kind ∧ o.kind ≤ 11))) ∧ Below w.heap.size w w' := by
  unfold OpR.agg
  obtain ⟨k, a, b, d, s, t⟩ := o
  simp only at h1 h2 ⊢
  obtain ⟨n, rfl⟩ := Int.eq_ofNat_of_zero_le (show 0 ≤ k by omega)
  have hb : bits .and .i64 ((4088 : Int) / 2 ^ n) 1 = if 3 ≤ n ∧ n ≤ 11 then 1 else 0 := by
    have key : ∀ n : Fin 23, 1 ≤ n.val → bits .and .i64 ((4088 : Int) / 2 ^ n.val) 1 = if 3 ≤ n.val ∧ n.val ≤ 11 then 1 else 0 := by decide
    exact key ⟨n, by omega⟩ (show 1 ≤ n by omega)
  by_cases hn : 3 ≤ n ∧ n ≤ 11
  · rw [if_pos hn] at hb
    have hd : decide (3 ≤ (n : Int) ∧ (n : Int) ≤ 11) = true := by simp; omega
    have hne1 : ((n : Int) == 19) = false := by simp; omega
    have hne2 : ((n : Int) == 20) = false := by simp; omega
    go_enter Tryz.func40, Tryz.ntmps40
    go_wp2
    go_ret
    exact ⟨by rw [hd]; rfl, (Below.refl _ _).alloc (Nat.le_refl _) _⟩
  · rw [if_neg hn] at hb
    have hd : decide (3 ≤ (n : Int) ∧ (n : Int) ≤ 11) = false := by simp; omega
    by_cases e19 : n = 19
    · subst e19
      by_cases ea : a = 0
      · subst ea
        go_enter Tryz.func40, Tryz.ntmps40
        go_wp2
        go_ret
        exact ⟨by rw [hd]; rfl, (Below.refl _ _).alloc (Nat.le_refl _) _⟩
      · have ha : (a == 0) = false := by simpa using ea
        go_enter Tryz.func40, Tryz.ntmps40
        go_wp2
        go_ret
        exact ⟨by rw [hd]; rfl, (Below.refl _ _).alloc (Nat.le_refl _) _⟩
    · by_cases e20 : n = 20
      · subst e20
        by_cases ea : a = 0
        · subst ea
          go_enter Tryz.func40, Tryz.ntmps40
          go_wp2
          go_ret
          exact ⟨by rw [hd]; rfl, (Below.refl _ _).alloc (Nat.le_refl _) _⟩
        · have ha : (a == 0) = false := by simpa using ea
          go_enter Tryz.func40, Tryz.ntmps40
          go_wp2
          go_ret
          exact ⟨by rw [hd]; rfl, (Below.refl _ _).alloc (Nat.le_refl _) _⟩
      · have hne1 : ((n : Int) == 19) = false := by simp; omega
        have hne2 : ((n : Int) == 20) = false := by simp; omega
        go_enter Tryz.func40, Tryz.ntmps40
        go_wp2
        go_ret
        exact ⟨by rw [hd]; rfl, (Below.refl _ _).alloc (Nat.le_refl _) _⟩
end Go.Proofs.YtdidjdoifpfmmaaGreatDoor
/- Which steps of a script are made, of Trees. -/
namespace Go.Proofs.YtdidjdoifpfmmaaGreatDoor
open Go.RowKit
def treeK (n : Int) : Bool := decide (n = 3 ∨ n = 12 ∨ n = 13 ∨ n = 14 ∨ n = 15 ∨ n = 16 ∨ n = 19 ∨ n = 20)
def treeD (o : OpR) : Bool := treeK o.kind && (decide (o.a = 0) || (decide (o.kind ≠ 19) && decide (o.kind ≠ 20)))
set_option maxHeartbeats 1000000 in
set_option maxRecDepth 3000 in
theorem does_trees (o : OpR) (w : World) (h1 : 1 ≤ o.kind) (h2 : o.kind ≤ 22) :
    Calls Tryz.prog 40 #[OpR.agg o, .int .i64 1699848] w fun e w' => e = .returned (.bool (treeD o)) ∧ Below w.heap.size w w' := by
  unfold OpR.agg treeD
  obtain ⟨k, a, b, d, s, t⟩ := o
  simp only at h1 h2 ⊢
  obtain ⟨n, rfl⟩ := Int.eq_ofNat_of_zero_le (show 0 ≤ k by omega)
  have hb : bits .and .i64 ((1699848 : Int) / 2 ^ n) 1 = if treeK n = true then 1 else 0 := by
    have key : ∀ n : Fin 23, 1 ≤ n.val → bits .and .i64 ((1699848 : Int) / 2 ^ n.val) 1 = if treeK n.val = true then 1 else 0 := by decide
    exact key ⟨n, by omega⟩ (show 1 ≤ n by omega)
  by_cases e19 : n = 19
  · subst e19
    by_cases ea : a = 0
    · subst ea
      go_enter Tryz.func40, Tryz.ntmps40
      go_wp2
      go_ret
      exact ⟨rfl, (Below.refl _ _).alloc (Nat.le_refl _) _⟩
    · have ha : (a == 0) = false := by simpa using ea
      have hd : (treeK (19 : Nat) && (decide (a = 0) || (decide (((19 : Nat) : Int) ≠ 19) && decide (((19 : Nat) : Int) ≠ 20)))) = false := by rw [decide_eq_false ea]; rfl
      go_enter Tryz.func40, Tryz.ntmps40
      go_wp2
      go_ret
      exact ⟨by rw [hd]; rfl, (Below.refl _ _).alloc (Nat.le_refl _) _⟩
  · by_cases e20 : n = 20
    · subst e20
      by_cases ea : a = 0
      · subst ea
        go_enter Tryz.func40, Tryz.ntmps40
        go_wp2
        go_ret
        exact ⟨rfl, (Below.refl _ _).alloc (Nat.le_refl _) _⟩
      · have ha : (a == 0) = false := by simpa using ea
        have hd : (treeK (20 : Nat) && (decide (a = 0) || (decide (((20 : Nat) : Int) ≠ 19) && decide (((20 : Nat) : Int) ≠ 20)))) = false := by rw [decide_eq_false ea]; rfl
        go_enter Tryz.func40, Tryz.ntmps40
        go_wp2
        go_ret
        exact ⟨by rw [hd]; rfl, (Below.refl _ _).alloc (Nat.le_refl _) _⟩
    · have hne1 : ((n : Int) == 19) = false := by simp; omega
      have hne2 : ((n : Int) == 20) = false := by simp; omega
      have hx : (decide (a = 0) || (decide ((n : Int) ≠ 19) && decide ((n : Int) ≠ 20))) = true := by
        rw [decide_eq_true (show (n : Int) ≠ 19 by omega), decide_eq_true (show (n : Int) ≠ 20 by omega)]
        simp
      rw [hx, Bool.and_true]
      have HX : Hid (treeK (n : Int) = treeK (n : Int)) := rfl
      cases hk : treeK (n : Int)
      · rw [hk] at hb
        rw [if_neg (by simp)] at hb
        clear hk HX
        go_enter Tryz.func40, Tryz.ntmps40
        go_wp2
        go_ret
        exact ⟨rfl, (Below.refl _ _).alloc (Nat.le_refl _) _⟩
      · rw [hk] at hb
        rw [if_pos rfl] at hb
        clear hk HX
        go_enter Tryz.func40, Tryz.ntmps40
        go_wp2
        go_ret
        exact ⟨rfl, (Below.refl _ _).alloc (Nat.le_refl _) _⟩
end Go.Proofs.YtdidjdoifpfmmaaGreatDoor
namespace Go.Proofs.YtdidjdoifpfmmaaGreatDoor
open Go.RowKit Digits

/-- No list was handed out: nothing to look at. -/
theorem looks_none (p : Nat) (w : World) (h : w.cell? ⟨p, 3, none⟩ = some (.slice none 0 0)) :
    Calls Tryz.prog 42 #[.pointer (some ⟨p, 0, none⟩)] w fun e w' => e = .returned (.bool true) ∧ w = w' := by
  go_enter Tryz.func42, Tryz.ntmps42
  go_wp2
  refine wp_loop_rounds 1 ?_
  rw [rounds_succ]
  go_wp2
  go_ret
  exact ⟨rfl, rfl⟩

set_option maxHeartbeats 1000000 in
set_option maxRecDepth 20000 in
/-- A step that sums: what the program answers is what the document does. -/
theorem step_sum (o : OpR) (hk : o.kind = 1) (p pm : Nat) (w : World) (hm : w.cell? ⟨p, 0, none⟩ = some (.pointer (some ⟨pm, 0, none⟩))) (x : ByteArray)
    (hD : ∀ w1, Below w.heap.size w w1 → Calls Tryz.prog 65 #[.string o.s] w1 fun e w' => e = .returned (.string x) ∧ Below w1.heap.size w1 w')
    (hR : ∀ w1, Below w.heap.size w w1 → Calls Tryz.prog 66 #[.pointer (some ⟨pm, 0, none⟩), .string o.s] w1 fun e w' => e = .returned (.string x) ∧ Below w1.heap.size w1 w') :
    Calls Tryz.prog 41 #[.pointer (some ⟨p, 0, none⟩), OpR.agg o] w fun e w' => e = .returned (.bool true) ∧ Below w.heap.size w w' := by
  unfold OpR.agg
  obtain ⟨k, a, b, d, s, t⟩ := o
  simp only at hk hD hR ⊢
  subst hk
  have hlt : p < w.heap.size := lt_of_cell hm
  have HD : Hid _ := hD
  have HR : Hid _ := hR
  clear hD hR
  go_enter Tryz.func41, Tryz.ntmps41
  go_wp2_with (go_at_call 65; refine (HD.out _ ((Below.refl _ _).alloc (Nat.le_refl _) _)).mono ?_; rintro e w1 ⟨rfl, hb1⟩; have hm1 : w1.cell? ⟨p, 0, none⟩ = some (.pointer (some ⟨pm, 0, none⟩)) := (by rw [hb1.cell (by simp; omega), World.cell?_alloc_lt _ _ _ hlt]; exact hm); have hs1 : w1.cell? ⟨w.heap.size, 4, none⟩ = some (.string s) := (by rw [hb1.cell (by simp)]; simp); have hb2 : Below w.heap.size w w1 := ((Below.refl _ _).alloc (Nat.le_refl _) _).trans (hb1.mono (by simp)))
  go_region_with (go_at_call 66; refine (HR.out _ hb2.drew).mono ?_; rintro e w2 ⟨rfl, hb3⟩)
  all_goals go_wp2
  all_goals go_ret
  all_goals exact ⟨rfl, hb2.drew.trans (hb3.mono hb2.drew.size)⟩

set_option maxHeartbeats 1000000 in
set_option maxRecDepth 20000 in
/-- A step that asks for a CRC. -/
theorem step_crc (o : OpR) (hk : o.kind = 2) (p : Nat) (w : World) (x : Int) (hs : o.s.size ≤ 1000000)
    (hx : x = (crc (textOf o.s) : Nat))
    (hD : ∀ w1, Below w.heap.size w w1 → Calls Tryz.prog 67 #[.string o.s] w1 fun e w' => e = .returned (.int .i64 x) ∧ Below w1.heap.size w1 w') :
    Calls Tryz.prog 41 #[.pointer (some ⟨p, 0, none⟩), OpR.agg o] w fun e w' => e = .returned (.bool true) ∧ Below w.heap.size w w' := by
  unfold OpR.agg
  obtain ⟨k, a, b, d, s, t⟩ := o
  simp only at hk hD hs hx ⊢
  subst hk
  have hC := crcRef_any s
  rw [← hx] at hC
  have HD : Hid _ := hD
  clear hD hx
  go_enter Tryz.func41, Tryz.ntmps41
  go_wp2_with (first | (go_at_call 67; refine (HD.out _ ((Below.refl _ _).alloc (Nat.le_refl _) _)).mono ?_; rintro e w1 ⟨rfl, hb1⟩; have hs1 : w1.cell? ⟨w.heap.size, 4, none⟩ = some (.string s) := (by rw [hb1.cell (by simp)]; simp); have hb2 : Below w.heap.size w w1 := ((Below.refl _ _).alloc (Nat.le_refl _) _).trans (hb1.mono (by simp)); clear HD) | (go_at_call 68; refine (hC _ hs).mono ?_; rintro e w2 ⟨rfl, rfl⟩))
  go_ret
  exact ⟨rfl, hb2⟩
end Go.Proofs.YtdidjdoifpfmmaaGreatDoor
/- Trees: the loop over a script. -/
namespace Go.Proofs.YtdidjdoifpfmmaaGreatDoor
open Go.RowKit Digits
set_option maxRecDepth 100000 in
set_option maxHeartbeats 1000000 in
theorem trees_upTo (ops : List OpR) (a0 : Option Addr) (b off cap : Nat) (ha : 0 < ops.length → a0 = some ⟨b, off, none⟩) (w : World) (hs : ScriptAt w b off ops) (hbl : b < w.heap.size) (hf : Fits ops) (hfit : ∀ o ∈ ops, o.Fit) {a : Nat → Addr} (hS : Sents a w) (hG : Glob a w) (hg : 18 ≤ w.heap.size) :
    Calls Tryz.prog 23 #[.slice a0 ops.length cap, .int .i64 1699848, .int .i64 1699848, .bool false] w fun e w' => e = .returned (.int .i64 (-1)) ∧ Below w.heap.size w w' := by
  have hlen := hf.1
  refine upTo_gen2 ops a0 b off cap ha 1699848 1699848 false w hs hbl hf.1 (TreesInv a w) treeD treeK ?_ ?_ ?_ ?_ ?_ ?_ ?_ ?_
  · intro w1 pm gk gh ck ch hM hr hb
    refine ⟨rfl, pm, .slice none 0 0, [], 262144, ⟨?_, by simp, Nat.le_refl _, by decide, by decide⟩⟩
    have h0 : Hold w.heap.size w1 ([] ++ [lawP w.heap.size pm (.slice none 0 0) 262144]) := (Hold.nil _ _).snoc hr (by simp [allB]) (fun b hb => by rw [List.mem_singleton.1 hb]; exact Nat.le_refl _)
    have h1 := h0.snoc (Q := pairP (.slice none 0 0) []) (World.ownsRow_nil _ _ _ _) (fun b hb => by simp [pairP, ownP, Value.ownBlock] at hb) (fun b hb => by simp [pairP, ownP, Value.ownBlock] at hb)
    exact h1
  · rintro k w1 p ⟨rfl, mq, av, xs, left, i⟩
    exact ⟨rfl, mq, av, xs, left, i.more⟩
  · rintro k w1 p ⟨rfl, mq, av, xs, left, i⟩
    exact ⟨left, i.row.cell 5⟩
  · intro o w1 h1 h2
    exact does_trees o w1 h1 h2
  · rintro k w1 w2 p ⟨rfl, mq, av, xs, left, i⟩ hb
    exact ⟨rfl, mq, av, xs, left, i.below hb⟩
  · rintro k o w1 hk ho h1 h2 hd hb ⟨_, mq, av, xs, left, i⟩ hl
    have hl' := hl left (i.row.cell 5)
    have hz := hf.2 o ho
    unfold treeD at hd
    rw [Bool.and_eq_true] at hd
    have hk1 := of_decide_eq_true hd.1
    have key : Calls Tryz.prog 41 #[.pointer (some ⟨w.heap.size, 0, none⟩), OpR.agg o] w1 fun e w' => e = .returned (.bool true) ∧ TreesInv a w (k + 1) w' w.heap.size ∧ Below w.heap.size w w' := by
      by_cases h3 : o.kind = 3
      · exact trees_new i hb (by omega) hl' o h3
      · refine trees_call i hb hS hG hg (by omega) hl' o (by omega) (fun h => ?_) (hfit o ho) hz
        have h4 := hd.2
        rw [Bool.or_eq_true, Bool.and_eq_true, decide_eq_true_eq, decide_eq_true_eq, decide_eq_true_eq] at h4
        rcases h4 with h4 | ⟨h4, h5⟩
        · exact h4
        · omega
    refine key.mono ?_
    rintro e w' ⟨rfl, hi, hb'⟩
    exact ⟨true, rfl, fun _ => rfl, hi, hb'⟩
  · rintro k w1 ⟨_, mq, av, xs, left, i⟩ hb
    refine (looks_none w.heap.size w1 (i.row.cell 3)).mono ?_
    rintro e w' ⟨rfl, rfl⟩
    exact ⟨rfl, ⟨rfl, mq, av, xs, left, i⟩, hb⟩
  · intro k h1 h2 hk
    have key : ∀ n : Fin 23, 1 ≤ n.val → treeK n.val = false → bits .and .i64 ((1699848 : Int) / 2 ^ n.val) 1 = 0 := by decide
    obtain ⟨n, rfl⟩ := Int.eq_ofNat_of_zero_le (show 0 ≤ k by omega)
    exact key ⟨n, by omega⟩ (show 1 ≤ n by omega) hk
end Go.Proofs.YtdidjdoifpfmmaaGreatDoor
/- The reasons, out of what is laid. -/
namespace Go.Proofs.YtdidjdoifpfmmaaGreatDoor
open Go.ChangeShapes Go.WideShapes Go.ChangeAt Go.RowKit
theorem cellsErrS : Tryz.prog.cellsOf 470 = 1 := by kernel_rfl
theorem cellsStrE : Tryz.prog.cellsOf 9 = 1 := by kernel_rfl
theorem star : "*" ++ "errors.errorString" = "*errors.errorString" := by decide
theorem rowErrS (u : TypeId) (h : Tryz.prog.typeName? 3 u = some "*errors.errorString") : u = 452 :=
  typeName_ptr_named (nm := "errors.errorString") (by rw [star]; kernel_rfl) (by kernel_rfl) (by decide) u (by rw [star]; exact h)
/-- What a reason is laid as. -/
def mk (x : String × List UInt8) : String × DataW Unit := (x.1, .iface "*errors.errorString" (.ptr (.agg [.lit (.string x.2)])))
set_option maxRecDepth 100000 in
theorem sent_at {W : World} : ∀ (L : List (String × List UInt8)), laidMet Tryz.prog (L.map mk) W → ∀ (k g : Nat) (x : String × List UInt8), L[k]? = some x → Tryz.prog.globalNamed x.1 = some g → (Tryz.prog.globals[g]?).map (·.type) = some 92 →
    ∃ (a : Addr) (s : ByteArray) (c : Array Value) (t : TypeId), W.var? Tryz.prog x.1 = some #[.iface 452 (.pointer (some a))] ∧ W.cell? a = some (.string s) ∧ s.data.toList = x.2 ∧ W.heap[a.block]? = some (.cells c t (0, 0))
  | [], _, k, g, x, hx, _, _ => by simp at hx
  | y :: L, h, k + 1, g, x, hx, hg, ht => sent_at L h.tail k g x (by simpa using hx) hg ht
  | y :: L, h, 0, g, x, hx, hg, ht => by
    obtain rfl : y = x := by simpa using hx
    obtain ⟨ps, ⟨g0, t0, cs0, f0, p0, q0, hg0, ht0, hv0, hd0, _, e0⟩, _, hrows⟩ := h
    obtain rfl := Option.some.inj (hg.symm.trans hg0)
    obtain rfl := Option.some.inj (ht.symm.trans ht0)
    subst e0
    obtain ⟨l0⟩ := cs0
    have ok0 : ∀ u v, l0 = [.iface u v] → Value.okWide Tryz.prog W .any 0 u v := fun u v e => by
      subst e
      exact (hrows g 0 (by simp [MemPlace.row])).2 u v (World.var?_cell hg0 hv0 0)
    obtain ⟨a, s, rfl, hc, hs, _, rfl⟩ := errorString_of_trod Tryz.underlying92 rowErrS Tryz.underlying452 Tryz.underlying470 rfl rfl Tryz.underlying9 cellsErrS cellsStrE hd0 ok0
    obtain ⟨c, t, hb⟩ := (hrows a.block a.off (by simp [MemPlace.row])).1
    exact ⟨a, s, c, t, hv0, hc, hs, hb⟩
def wordsOf : DataW Unit → List UInt8
  | .iface _ (.ptr (.agg [.lit (.string t)])) => t
  | _ => []
def isReason (n : String) : Bool := ["stow/archive.ErrArg", "stow/archive.ErrDown", "stow/archive.ErrFormat", "stow/archive.ErrCorrupt", "stow/archive.ErrPath", "stow/archive.ErrNone", "stow/archive.ErrKind", "stow/archive.ErrAgain", "stow/archive.ErrBusy", "stow/archive.ErrMany", "stow/archive.ErrBig", "stow/archive.ErrFull"].contains n
/-- The reasons' names and texts, off the given row. -/
noncomputable def reasons : List (String × List UInt8) := (Rows.disksRow.laid.filter fun x => isReason x.1).map fun x => (x.1, wordsOf x.2)
theorem reasons_named : ((List.range 12).all fun k => (reasons[k]?).bind (fun x => Tryz.prog.globalNamed x.1) == some k && (Tryz.prog.globals[k]?).map (·.type) == some 92) = true := by kernel_rfl
theorem reasons_sizes : (reasons.all fun x => x.2.length != 0 && decide (x.2.length ≤ 100)) = true := by kernel_rfl
theorem reasons_apart : ((List.range 12).all fun i => (List.range 12).all fun j => i == j || (reasons[i]?).map (·.2) != (reasons[j]?).map (·.2)) = true := by kernel_rfl
theorem errType : Tryz.prog.globalNamed "errors.errorType" = some 12 := by kernel_rfl
theorem rtypeIs : (Tryz.prog.cutTypes.find? (·.1 == "internal/reflectlite.rtype")).map (·.2) = some 325 := by kernel_rfl
theorem oneRow : ((List.range Tryz.prog.types.size).filter fun t => Tryz.prog.rowNamed t [101, 114, 114, 111, 114]) = [92] := by kernel_rfl
theorem handleErr : typeHandle Tryz.prog 92 = .pointer (some ⟨18, 92, none⟩) := by kernel_rfl
theorem handle_of_laid {W : World} (h : handlesMet Tryz.prog [("errors.errorType", Rows.laid_errors_errorType)] W) : W.cell? ⟨12, 0, none⟩ = some (.iface 325 (.agg #[.pointer (some ⟨18, 92, none⟩)])) := by
  obtain ⟨name, u, ty, e1, e2, e3, e4, e5⟩ := h _ (List.mem_singleton.2 rfl)
  have en : name = [101, 114, 114, 111, 114] := (Option.some.inj e1).symm
  subst en
  obtain rfl := Option.some.inj (rtypeIs.symm.trans e2)
  have hm : ty ∈ (List.range Tryz.prog.types.size).filter fun t => Tryz.prog.rowNamed t [101, 114, 114, 111, 114] := List.mem_filter.2 ⟨List.mem_range.2 e3, e4⟩
  rw [oneRow] at hm
  obtain rfl := List.mem_singleton.1 hm
  rw [handleErr] at e5
  simpa using World.var?_cell errType e5 0
theorem sents_of_laid {W : World} (h : laidMetH Tryz.prog Rows.disksRow.laid W) : ∃ a, Sents a W := by
  obtain ⟨h1, h2⟩ := laidMetH_iff.1 h
  have hl := h1.filter (fun x => isReason x.1)
  have el : ((Rows.disksRow.laid.filter fun x => x.2.handleName?.isNone).filter fun x => isReason x.1) = reasons.map mk := by kernel_rfl
  rw [el] at hl
  have eh : (Rows.disksRow.laid.filter fun x => x.2.handleName?.isSome) = [("errors.errorType", Rows.laid_errors_errorType)] := by kernel_rfl
  rw [eh] at h2
  have hx : ∀ k : Nat, ∃ a : Addr, k < 12 → ∃ (x : String × List UInt8) (s : ByteArray) (c : Array Value) (t : TypeId), reasons[k]? = some x ∧ W.cell? ⟨k, 0, none⟩ = some (.iface 452 (.pointer (some a))) ∧ W.cell? a = some (.string s) ∧ s.data.toList = x.2 ∧ W.heap[a.block]? = some (.cells c t (0, 0)) := by
    intro k
    by_cases hk : k < 12
    · have hn := List.all_eq_true.1 reasons_named k (List.mem_range.2 hk)
      simp only [Bool.and_eq_true, beq_iff_eq] at hn
      obtain ⟨hn1, hn2⟩ := hn
      obtain ⟨x, hx, hg⟩ := Option.bind_eq_some_iff.1 hn1
      obtain ⟨a, s, c, t, hv, hc, hs, hb⟩ := sent_at reasons hl k k x hx hg hn2
      exact ⟨a, fun _ => ⟨x, s, c, t, hx, by simpa using World.var?_cell hg hv 0, hc, hs, hb⟩⟩
    · exact ⟨⟨0, 0, none⟩, fun h => absurd h hk⟩
  obtain ⟨a, ha⟩ := Classical.axiomOfChoice hx
  refine ⟨a, fun k hk => ?_, fun k hk => ?_, fun i j hi hj hij e => ?_, fun k hk => ?_, handle_of_laid h2⟩
  · obtain ⟨x, s, c, t, _, hv, _⟩ := ha k hk
    exact hv
  · obtain ⟨x, s, c, t, _, _, _, _, hb⟩ := ha k hk
    exact ⟨c, t, hb⟩
  · obtain ⟨x, s, c, t, hx, _, hc, hs, _⟩ := ha i hi
    obtain ⟨y, s', c', t', hy, _, hc', hs', _⟩ := ha j hj
    have hd := List.all_eq_true.1 (List.all_eq_true.1 reasons_apart i (List.mem_range.2 hi)) j (List.mem_range.2 hj)
    rw [e, hc'] at hc
    have es : s' = s := by simpa using hc
    rw [hx, hy] at hd
    simp only [Option.map_some, Bool.or_eq_true, beq_iff_eq, bne_iff_ne, ne_eq, Option.some.injEq] at hd
    rcases hd with hd | hd
    · exact hij hd
    · exact hd (by rw [← hs, ← hs', es])
  · obtain ⟨x, s, c, t, hx, _, hc, hs, _⟩ := ha k hk
    have hd := List.all_eq_true.1 reasons_sizes x (List.mem_of_getElem? hx)
    simp only [Bool.and_eq_true, bne_iff_ne, ne_eq, decide_eq_true_eq] at hd
    have e : s.size = x.2.length := by rw [← hs]; exact Array.length_toList.symm
    exact ⟨s, hc, by rw [e]; exact hd.1, by rw [e]; exact hd.2⟩
end Go.Proofs.YtdidjdoifpfmmaaGreatDoor
