import Derived.Test.YtdidjdoifpfmmaaGreatDoorDisksFrame
import Derived.Test.YtdidjdoifpfmmaaGreatDoorGF5
import Derived.Test.YtdidjdoifpfmmaaGreatDoorSentsLaid
import Derived.Test.YtdidjdoifpfmmaaGreatDoorGA6
/- Disks: the whole. -/
namespace Go.Proofs.YtdidjdoifpfmmaaGreatDoor
open Go.RowKit Digits
set_option maxRecDepth 100000 in
set_option maxHeartbeats 1000000 in
theorem disks_upTo (ops : List OpR) (a0 : Option Addr) (b off cap : Nat) (ha : 0 < ops.length → a0 = some ⟨b, off, none⟩) (w : World) (hs : ScriptAt w b off ops) (hbl : b < w.heap.size) (hf : Fits ops) (hfit : ∀ o ∈ ops, o.Fit) {a : Nat → Addr} (hS : Sents a w) :
    Calls Tryz.prog 23 #[.slice a0 ops.length cap, .int .i64 4088, .int .i64 4088, .bool false] w fun e w' => e = .returned (.int .i64 (-1)) ∧ Below w.heap.size w w' := by
  have hlen := hf.1
  refine upTo_gen2 ops a0 b off cap ha 4088 4088 false w hs hbl hf.1 DisksInv (fun o => decide (3 ≤ o.kind ∧ o.kind ≤ 11)) (fun k => decide (3 ≤ k ∧ k ≤ 11)) ?_ ?_ ?_ ?_ ?_ ?_ ?_ ?_
  · intro w1 pm gk gh ck ch hM hr hb
    refine ⟨pm, .slice none 0 0, .slice none 0 0, [], [], 262144, hr, World.ownsRow_nil _ _ _ _, Nat.le_refl _, World.ownsRow_nil _ _ _ _, Nat.le_refl _, by decide, by decide, ?_, ?_, ?_, ?_, ?_⟩
    · intro j x hx; simp at hx
    · intro j x hx; simp at hx
    · intro i j x y hx; simp at hx
    · intro b hb; simp [Value.ownBlock] at hb
    · intro b hb; simp [Value.ownBlock] at hb
  · rintro k w1 p ⟨pm, kv, av, ks, xs, left, i⟩
    exact ⟨pm, kv, av, ks, xs, left, i.more⟩
  · rintro k w1 p ⟨pm, kv, av, ks, xs, left, i⟩
    exact ⟨left, i.row.cell 5⟩
  · intro o w1 h1 h2
    exact does_disks o w1 h1 h2
  · rintro k w1 w2 p ⟨pm, kv, av, ks, xs, left, i⟩ hb
    exact ⟨pm, kv, av, ks, xs, left, i.below hb⟩
  · rintro k o w1 hk ho h1 h2 hd hb ⟨pm, kv, av, ks, xs, left, i⟩ hl
    have hl' := hl left (i.row.cell 5)
    have hd' := of_decide_eq_true hd
    have hz := (hf.2 o ho).1
    have key : Calls Tryz.prog 41 #[.pointer (some ⟨w.heap.size, 0, none⟩), OpR.agg o] w1 fun e w' => e = .returned (.bool true) ∧ DisksInv (k + 1) w' w.heap.size ∧ Below w.heap.size w w' := by
      by_cases h3 : o.kind = 3
      · exact disks_new i hb (by omega) hl' o h3
      · by_cases h8 : o.kind = 8
        · exact disks_keep i hb (by omega) o h8
        · exact disks_call i hb hS (by omega) hl' o (by omega) (hfit o ho) (by omega)
    refine key.mono ?_
    rintro e w' ⟨rfl, hi, hb'⟩
    exact ⟨true, rfl, fun _ => rfl, hi, hb'⟩
  · rintro k w1 ⟨pm, kv, av, ks, xs, left, i⟩ hb
    refine (looks_none w.heap.size w1 (i.row.cell 3)).mono ?_
    rintro e w' ⟨rfl, rfl⟩
    exact ⟨rfl, ⟨pm, kv, av, ks, xs, left, i⟩, hb⟩
  · intro k h1 h2 hk
    have key : ∀ n : Fin 23, 1 ≤ n.val → ¬ (3 ≤ n.val ∧ n.val ≤ 11) → bits .and .i64 ((4088 : Int) / 2 ^ n.val) 1 = 0 := by decide
    have hn : ¬ (3 ≤ k.toNat ∧ k.toNat ≤ 11) := by
      have := of_decide_eq_false hk
      omega
    exact key ⟨k.toNat, by omega⟩ (by show 1 ≤ k.toNat; omega) hn
set_option maxRecDepth 100000 in
set_option maxHeartbeats 1000000 in
theorem disks_walk : DisksWalk := by
  intro W ops a0 b off cap ha hs hb hlen hz hfit hL
  obtain ⟨a, hS⟩ := sents_of_laid hL
  -- of an empty script the block is all one
  obtain ⟨b, off, ha, hs, hb⟩ : ∃ b off, (0 < ops.length → a0 = some ⟨b, off, none⟩) ∧ ScriptAt W b off ops ∧ b < W.heap.size := by
    by_cases h0 : 0 < ops.length
    · exact ⟨b, off, ha, hs, hb h0⟩
    · refine ⟨12, 0, fun h => absurd h h0, ?_, hS.size⟩
      intro i o hi
      have : ops = [] := List.eq_nil_of_length_eq_zero (by omega)
      rw [this] at hi
      simp at hi
  have hP := plays_gen ops a0 b off cap ha 4088 4088 false W hs hlen hz (fun w1 hb1 hf => disks_upTo ops a0 b off cap ha w1 (hs.below hb1 hb) (Nat.lt_of_lt_of_le hb hb1.size) hf hfit (hS.below hb1))
  clear hL hs hz hfit hS
  go_enter Tryz.func4, Tryz.ntmps4
  go_wp2_with (go_at_call 13; refine hP.mono ?_; rintro e w1 ⟨rfl, hb1⟩)
  go_ret
  exact ⟨rfl, hb1⟩
theorem disks_card : Rows.DisksCardSaid := disks_card_of disks_walk
end Go.Proofs.YtdidjdoifpfmmaaGreatDoor
