import Derived.Test.YtdidjdoifpfmmaaGreatDoorTreesFrame
import Derived.Test.YtdidjdoifpfmmaaGreatDoorGT31
import Derived.Shelf.Vars
/- Trees: the whole. -/
namespace Go.Proofs.YtdidjdoifpfmmaaGreatDoor
open Go.RowKit Digits
theorem maxLen_at {W : World} (h : W.ShapedOpen Tryz.prog) : ∃ m, W.cell? ⟨15, 0, none⟩ = some (.int .i64 m) :=
  cell_of_shapedOpen_int h (g := 15) (t := 3) (zero := #[.int .i64 0]) (k := .i64) (of_decide_eq_true (by kernel_rfl)) (by kernel_rfl) rfl (by kernel_rfl) (by kernel_rfl) Tryz.underlying3
theorem trees_sents {W : World} (h : laidMetH Tryz.prog Rows.treesRow.laid W) : ∃ a, Sents a W := sents_of_laid h
theorem vars_below {W : World} (h : W.ShapedOpen Tryz.prog) : 18 ≤ W.heap.size := by
  have hs : (((begin Tryz.prog (fun _ _ => 0) default).world.heap[18 - 1]?).bind Obj.row?).isSome = true := by kernel_rfl
  obtain ⟨⟨zero, t⟩, h0⟩ := Option.isSome_iff_exists.1 hs
  obtain ⟨cs, hh, _⟩ := h.1 (18 - 1) zero t (of_decide_eq_true (by kernel_rfl)) h0
  have h1 := (Array.getElem?_eq_some_iff.1 hh).1
  omega
set_option maxRecDepth 100000 in
set_option maxHeartbeats 1000000 in
theorem trees_walk : TreesWalk := by
  intro W ops a0 b off cap ha hs hb hlen hz hfit hL hsh
  obtain ⟨a, hS⟩ := trees_sents hL
  have hG : Glob a W := ⟨fun k hk => hS.var k hk, maxLen_at hsh⟩
  have hg := vars_below hsh
  -- of an empty script the block is all one
  obtain ⟨b, off, ha, hs, hb⟩ : ∃ b off, (0 < ops.length → a0 = some ⟨b, off, none⟩) ∧ ScriptAt W b off ops ∧ b < W.heap.size := by
    by_cases h0 : 0 < ops.length
    · exact ⟨b, off, ha, hs, hb h0⟩
    · refine ⟨12, 0, fun h => absurd h h0, ?_, hS.size⟩
      intro i o hi
      have : ops = [] := List.eq_nil_of_length_eq_zero (by omega)
      rw [this] at hi
      simp at hi
  have hM := mounts_true hS hG hg
  have HP : Hid (∀ w1, Below W.heap.size W w1 → Calls Tryz.prog 13 #[.slice a0 ops.length cap, .int .i64 1699848, .int .i64 1699848, .bool false] w1 fun e w' => e = .returned (.bool true) ∧ Below w1.heap.size w1 w') := fun w1 hb1 =>
    plays_gen ops a0 b off cap ha 1699848 1699848 false w1 (hs.below hb1 hb) hlen hz (fun w2 hb2 hf => by
      have hb3 : Below W.heap.size W w2 := hb1.trans (hb2.mono hb1.size)
      exact trees_upTo ops a0 b off cap ha w2 (hs.below hb3 hb) (Nat.lt_of_lt_of_le hb hb3.size) hf hfit (hS.below hb3) (hG.up hb3) (Nat.le_trans hg hb3.size))
  clear hL hs hz hfit hS hsh hG
  go_enter Tryz.func5, Tryz.ntmps5
  go_wp2_with (first
    | (go_at_call 14; refine hM.mono ?_; rintro e w1 ⟨rfl, hb1⟩; clear hM)
    | (go_at_call 13; refine (HP.out w1 hb1).mono ?_; rintro e w2 ⟨rfl, hb2⟩))
  go_ret
  exact ⟨rfl, hb1.trans (hb2.mono hb1.size)⟩
theorem trees_card : Rows.TreesCardSaid := trees_card_of trees_walk
end Go.Proofs.YtdidjdoifpfmmaaGreatDoor
