import Derived.Test.YtdidjdoifpfmmaaGreatDoorConsts
import Derived.Test.YtdidjdoifpfmmaaGreatDoorCrcRef
namespace Go.Proofs.YtdidjdoifpfmmaaGreatDoor
open Go.RowKit Digits

/-- A Maker in memory: its two tables. -/
structure MakerAt (w : World) (p gk gh ck ch : Nat) (K H : List Nat) : Prop where
  k : w.cell? ⟨p, 0, none⟩ = some (.slice (some ⟨gk, 0, none⟩) 64 ck)
  h : w.cell? ⟨p, 1, none⟩ = some (.slice (some ⟨gh, 0, none⟩) 8 ch)
  ks : ∀ j, j < 64 → w.cell? ⟨gk, j, none⟩ = some (.int .i64 (K.getD j 0 : Nat))
  hs : ∀ j, j < 8 → w.cell? ⟨gh, j, none⟩ = some (.int .i64 (H.getD j 0 : Nat))
theorem MakerAt.below {w w' : World} {p gk gh ck ch : Nat} {K H : List Nat} (m : MakerAt w p gk gh ck ch K H) (hb : Below w.heap.size w w') : MakerAt w' p gk gh ck ch K H where
  k := by rw [hb.cell (lt_of_cell m.k)]; exact m.k
  h := by rw [hb.cell (lt_of_cell m.h)]; exact m.h
  ks j hj := by rw [hb.cell (lt_of_cell (m.ks j hj))]; exact m.ks j hj
  hs j hj := by rw [hb.cell (lt_of_cell (m.hs j hj))]; exact m.hs j hj

theorem MakerAt.other {w : World} {p gk gh ck ch : Nat} {K H : List Nat} (m : MakerAt w p gk gh ck ch K H) (a : Addr) (v : Value) (h1 : a.block ≠ p) (h2 : a.block ≠ gk) (h3 : a.block ≠ gh) : MakerAt (w.setCell a v) p gk gh ck ch K H where
  k := by rw [World.cell?_of_block (Below.heap_setCell _ _ _ _ (Ne.symm h1))]; exact m.k
  h := by rw [World.cell?_of_block (Below.heap_setCell _ _ _ _ (Ne.symm h1))]; exact m.h
  ks j hj := by rw [World.cell?_of_block (Below.heap_setCell _ _ _ _ (Ne.symm h2))]; exact m.ks j hj
  hs j hj := by rw [World.cell?_of_block (Below.heap_setCell _ _ _ _ (Ne.symm h3))]; exact m.hs j hj
theorem kList_get (j : Nat) (h : j < 64) : kList.getD j 0 = rootOf ((primesTo 310).getD j 0) 3 := by
  unfold kList
  exact getD_map _ _ j (by rw [primes_len]; exact h)
theorem hList_get (j : Nat) (h : j < 8) : hList.getD j 0 = rootOf ((primesTo 310).getD j 0) 2 := by
  unfold hList
  rw [getD_map _ _ j (by rw [List.length_take, primes_len]; omega), getD_take _ _ _ h]

set_option maxHeartbeats 1000000 in
theorem newMaker_any (w : World) :
    Calls Tryz.prog 39 #[] w fun e w' => ∃ p gk gh ck ch, e = .returned (.pointer (some ⟨p, 0, none⟩)) ∧ MakerAt w' p gk gh ck ch kList hList ∧ Below w.heap.size w w' ∧ w.heap.size ≤ p ∧ w.heap.size ≤ gk ∧ w.heap.size ≤ gh := by
  have hC := constants_gen _ rfl w
  have hC2 : Calls Tryz.prog 64 #[] w fun e w' => ∃ gk ck gh ch, e = .returned (.tuple #[.slice (some ⟨gk, 0, none⟩) 64 ck, .slice (some ⟨gh, 0, none⟩) 8 ch]) ∧
      (∀ j, j < 64 → w'.cell? ⟨gk, j, none⟩ = some (.int .i64 (kList.getD j 0 : Nat))) ∧ (∀ j, j < 8 → w'.cell? ⟨gh, j, none⟩ = some (.int .i64 (hList.getD j 0 : Nat))) ∧ Below w.heap.size w w' ∧ w.heap.size ≤ gk ∧ w.heap.size ≤ gh := by
    refine hC.mono ?_
    rintro e w' ⟨gk, ck, gh, ch, he, h1, h2, h3, h4, hb⟩
    exact ⟨gk, ck, gh, ch, he, fun j hj => by rw [kList_get j hj]; exact h1 j hj, fun j hj => by rw [hList_get j hj]; exact h2 j hj, hb, h3, h4⟩
  clear hC
  generalize hk : kList = K at hC2 ⊢
  generalize hh : hList = H at hC2 ⊢
  clear hk hh
  go_enter Tryz.func39, Tryz.ntmps39
  go_wp2_with (go_at_call 64; refine hC2.mono ?_; rintro e w1 ⟨gk, ck, gh, ch, rfl, h1, h2, hb, h3, h4⟩; have H1 : Hid _ := h1; have H2 : Hid _ := h2; clear h1 h2 hC2)
  go_ret
  refine ⟨w1.heap.size, gk, gh, ck, ch, rfl, ⟨by simp, by simp, fun j hj => ?_, fun j hj => ?_⟩, hb.alloc hb.size _, hb.size, h3, h4⟩
  · rw [World.cell?_alloc_lt _ _ _ (lt_of_cell (H1.out j hj))]; exact H1.out j hj
  · rw [World.cell?_alloc_lt _ _ _ (lt_of_cell (H2.out j hj))]; exact H2.out j hj
end Go.Proofs.YtdidjdoifpfmmaaGreatDoor
