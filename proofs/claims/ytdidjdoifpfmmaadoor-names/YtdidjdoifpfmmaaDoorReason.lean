import Derived.Test.YtdidjdoifpfmmaaDoorNumber
import Derived.Test.YtdidjdoifpfmmaaDoorFault
namespace Go.Proofs.YtdidjdoifpfmmaaDoor
open Go.RowKit

theorem isEmpty_of_size {s : ByteArray} (h : s.size ≠ 0) : s.toList.isEmpty = false := by
  rw [ByteArray.toList_eq]
  cases hs : s.data.toList with
  | nil => exact absurd (congrArg List.length hs) h
  | cons _ _ => rfl

set_option maxRecDepth 3000 in
set_option maxHeartbeats 4000000 in
theorem reason_plain {a : Nat → Addr} {w : World} (h : Sents a w) (k : Nat) (hk : k < 12) :
    Calls Tryd.prog 4 #[.int .i64 k, .bool false] w fun e w' => e = .returned (.tuple #[.int .i64 (k + 1 : Nat), .int .i64 (-1), .bool true]) ∧ Below w.heap.size w w' := by
  have hB : Below w.heap.size w (w.alloc (.cells (twelve a) 26)) := (Below.refl _ _).alloc (Nat.le_refl _) _
  have hS := h.below hB
  have hN := number_E hS k hk
  have hE : ∀ w' : World, Below (w.alloc (.cells (twelve a) 26)).heap.size (w.alloc (.cells (twelve a) 26)) w' → Calls Tryd.prog 64 #[.pointer (some (a k))] w' fun e w'' => ∃ s : ByteArray, s.toList.isEmpty = false ∧ e = .returned (.string s) ∧ w' = w'' := by
    intro w' hb
    obtain ⟨s, hs, h0, _⟩ := (hS.below hb).text k hk
    exact (error_E (a k) s w' hs).mono fun e w'' hh => ⟨s, isEmpty_of_size h0, hh.1, hh.2.symm⟩
  have hc := twelve_at a w 26 k hk
  dsimp only [twelve] at hc
  have mE := Tryd.methodErrorE
  have h0 := h.var 0 (by decide)
  have h1 := h.var 1 (by decide)
  have h2 := h.var 2 (by decide)
  have h3 := h.var 3 (by decide)
  have h4 := h.var 4 (by decide)
  have h5 := h.var 5 (by decide)
  have h6 := h.var 6 (by decide)
  have h7 := h.var 7 (by decide)
  have h8 := h.var 8 (by decide)
  have h9 := h.var 9 (by decide)
  have h10 := h.var 10 (by decide)
  have h11 := h.var 11 (by decide)
  go_enter Tryd.func4, Tryd.ntmps4
  go_wp2_with (first | (go_at_call 5; refine hN.mono ?_; rintro e w' ⟨rfl, hbw⟩) | (go_at_call 64; refine (hE _ hbw).mono ?_; rintro e w' ⟨s, hse, rfl, rfl⟩))
  go_ret3
  exact ⟨rfl, hB.trans (hbw.mono (by simp))⟩
set_option maxRecDepth 3000 in
set_option maxHeartbeats 4000000 in
theorem reason_wrapped {a : Nat → Addr} {w : World} (h : Sents a w) (k : Nat) (hk : k < 12) :
    Calls Tryd.prog 4 #[.int .i64 k, .bool true] w fun e w' => e = .returned (.tuple #[.int .i64 (k + 1 : Nat), .int .i64 7, .bool true]) ∧ Below w.heap.size w w' := by
  have hB : Below w.heap.size w ((w.alloc (.cells (twelve a) 26)).alloc (.cells #[.int .i64 7, .iface 66 (.pointer (some (a k)))] 30)) := ((Below.refl _ _).alloc (Nat.le_refl _) _).alloc (by simp) _
  have hS := h.below hB
  have hN := number_F hS k (w.heap.size + 1) hk (by simp) (by simp)
  have hE : ∀ w' : World, Below ((w.alloc (.cells (twelve a) 26)).alloc (.cells #[.int .i64 7, .iface 66 (.pointer (some (a k)))] 30)).heap.size ((w.alloc (.cells (twelve a) 26)).alloc (.cells #[.int .i64 7, .iface 66 (.pointer (some (a k)))] 30)) w' → Calls Tryd.prog 33 #[.pointer (some ⟨w.heap.size + 1, 0, none⟩)] w' fun e w'' => ∃ s : ByteArray, s.toList.isEmpty = false ∧ e = .returned (.string s) ∧ Below w'.heap.size w' w'' := by
    intro w' hb
    exact (error_F (hS.below hb) k (w.heap.size + 1) hk (by rw [hb.cell (by simp)]; simp) (by rw [hb.cell (by simp)]; simp)).mono fun e w'' hh => by
      obtain ⟨s, h0, he, hw⟩ := hh
      exact ⟨s, isEmpty_of_size h0, he, hw⟩
  have hc := twelve_at a w 26 k hk
  dsimp only [twelve] at hc
  have mE := Tryd.methodErrorF
  have h0 := h.var 0 (by decide)
  have h1 := h.var 1 (by decide)
  have h2 := h.var 2 (by decide)
  have h3 := h.var 3 (by decide)
  have h4 := h.var 4 (by decide)
  have h5 := h.var 5 (by decide)
  have h6 := h.var 6 (by decide)
  have h7 := h.var 7 (by decide)
  have h8 := h.var 8 (by decide)
  have h9 := h.var 9 (by decide)
  have h10 := h.var 10 (by decide)
  have h11 := h.var 11 (by decide)
  go_enter Tryd.func4, Tryd.ntmps4
  go_wp2_with (first | (go_at_call 5; refine hN.mono ?_; rintro e w' ⟨rfl, hbw⟩) | (go_at_call 33; refine (hE _ hbw).mono ?_; rintro e w' ⟨s, hse, rfl, hbe⟩))
  go_ret3
  exact ⟨rfl, (hB.trans (hbw.mono (by simp; omega))).trans (hbe.mono (Nat.le_trans (Nat.le_trans (by simp; omega) hbw.size) (Nat.le_refl _)))⟩
end Go.Proofs.YtdidjdoifpfmmaaDoor
