import Derived.Test.YtdidjdoifpfmmaaDoorSents
import Derived.Deep.QuietTactic
import Derived.BigQuiet
import Derived.WalkSmall
namespace Go.Proofs.YtdidjdoifpfmmaaDoor
open Go.RowKit
set_option maxHeartbeats 2000000 in
theorem number_E {a : Nat → Addr} {w : World} (h : Sents a w) (k : Nat) (hk : k < 12) :
    Calls Tryd.prog 5 #[.iface 66 (.pointer (some (a k)))] w fun e w' => e = .returned (.tuple #[.int .i64 (k + 1 : Nat), .int .i64 (-1)]) ∧ Below w.heap.size w w' := by
  have hI : ∀ j, j < 12 → Calls Tryd.prog 6 #[.iface 66 (.pointer (some (a k))), .iface 66 (.pointer (some (a j)))] (w.alloc (.cells (twelve a) 26)) fun e w' => e = .returned (.bool (decide (j = k))) ∧ w.alloc (.cells (twelve a) 26) = w' :=
    fun j hj => (is_any (h.below ((Below.refl _ _).alloc (Nat.le_refl _) _)) k j hk hj).mono fun e w' hh => ⟨hh.1, hh.2.symm⟩
  have hA := as_miss (a k) ⟨w.heap.size + 1, 0, none⟩ ((w.alloc (.cells (twelve a) 26)).alloc (.cells #[.pointer none] 28)) (h.below (((Below.refl _ _).alloc (Nat.le_refl _) _).alloc (by simp) _)).et
  have h0 := h.var 0 (by decide)
  have h1 := h.var 1 (by decide)
  have h2 := h.var 2 (by decide)
  have h3 := h.var 3 (by decide)
  have h4 := h.var 4 (by decide)
  have h5 := h.var 5 (by decide)
  have h6 := h.var 6 (by decide)
  have h7 := h.var 7 (by decide)
  have h8 := h.var 8 (by decide)
  have h9 := h.var 9 (by decide)
  have h10 := h.var 10 (by decide)
  have h11 := h.var 11 (by decide)
  go_enter Tryd.func5, Tryd.ntmps5
  go_wp2
  clear h0 h1 h2 h3 h4 h5 h6 h7 h8 h9 h10 h11
  go_loop [4, 24] (fun n i => ∃ j : Nat, j ≤ 12 ∧ i = .int .i64 j ∧ ((j ≤ k ∧ n = .int .i64 0) ∨ (k < j ∧ n = .int .i64 (k + 1 : Nat)))) (fun _ i => 12 - (intOf i).toNat)
  case atStart => exact ⟨0, by omega, rfl, Or.inl ⟨by omega, rfl⟩⟩
  case round =>
    obtain ⟨j, hj, rfl, hn⟩ := hrel
    by_cases hlt : j < 12
    · have hc := twelve_at a w 26 j hlt
      have hIj := hI j hlt
      rcases hn with ⟨hjk, rfl⟩ | ⟨hjk, rfl⟩
      · by_cases e : j = k
        · subst e
          go_wp2_with (go_at_call 6; refine hIj.mono ?_; rintro e w' ⟨rfl, rfl⟩)
          go_round
          case rel => exact ⟨j + 1, by omega, by go_num, Or.inr ⟨by omega, by go_num⟩⟩
          case measure => simp [intOf]; omega
        · have hd : decide (j = k) = false := by simpa using e
          go_wp2_with (go_at_call 6; refine hIj.mono ?_; rintro e w' ⟨rfl, rfl⟩)
          go_round
          case rel => exact ⟨j + 1, by omega, by go_num, Or.inl ⟨by omega, rfl⟩⟩
          case measure => simp [intOf]; omega
      · have hd : decide (j = k) = false := by simp; omega
        go_wp2_with (go_at_call 6; refine hIj.mono ?_; rintro e w' ⟨rfl, rfl⟩)
        go_round
        case rel => exact ⟨j + 1, by omega, by go_num, Or.inr ⟨by omega, rfl⟩⟩
        case measure => simp [intOf]; omega
    · rcases hn with ⟨hjk, rfl⟩ | ⟨hjk, rfl⟩
      · omega
      · have hk0 : ((↑(k + 1) : Int) == 0) = false := by simp; omega
        go_wp2_with (go_at_call 7; refine hA.mono ?_; rintro e w' ⟨rfl, rfl⟩)
        go_ret2
        exact ⟨rfl, (((((Below.refl _ _).alloc (Nat.le_refl _) _).alloc (by simp) _).alloc (by simp; omega) _).alloc (by simp; omega) _).alloc (by simp; omega) _⟩

set_option maxHeartbeats 2000000 in
theorem number_F {a : Nat → Addr} {w : World} (h : Sents a w) (k pb : Nat) (hk : k < 12) (hp0 : w.cell? ⟨pb, 0, none⟩ = some (.int .i64 7)) (hp1 : w.cell? ⟨pb, 1, none⟩ = some (.iface 66 (.pointer (some (a k))))) :
    Calls Tryd.prog 5 #[.iface 28 (.pointer (some ⟨pb, 0, none⟩))] w fun e w' => e = .returned (.tuple #[.int .i64 (k + 1 : Nat), .int .i64 7]) ∧ Below w.heap.size w w' := by
  have hI : ∀ j, j < 12 → Calls Tryd.prog 6 #[.iface 28 (.pointer (some ⟨pb, 0, none⟩)), .iface 66 (.pointer (some (a j)))] (w.alloc (.cells (twelve a) 26)) fun e w' => e = .returned (.bool (decide (j = k))) ∧ w.alloc (.cells (twelve a) 26) = w' :=
    fun j hj => (is_wrapped (h.below ((Below.refl _ _).alloc (Nat.le_refl _) _)) k j pb hk hj (by rw [((Below.refl _ _).alloc (Nat.le_refl _) _ : Below w.heap.size w _).cell (lt_of_cell hp1)]; exact hp1)).mono fun e w' hh => ⟨hh.1, hh.2.symm⟩
  have hB2 : Below w.heap.size w ((w.alloc (.cells (twelve a) 26)).alloc (.cells #[.pointer none] 28)) := ((Below.refl _ _).alloc (Nat.le_refl _) _).alloc (by simp) _
  have hA : Calls Tryd.prog 7 #[.iface 28 (.pointer (some ⟨pb, 0, none⟩)), .iface 36 (.pointer (some ⟨w.heap.size + 1, 0, none⟩))] ((w.alloc (.cells (twelve a) 26)).alloc (.cells #[.pointer none] 28)) fun e w' => e = .returned (.bool true) ∧ Below w.heap.size w w' ∧ w'.cell? ⟨w.heap.size + 1, 0, none⟩ = some (.pointer (some ⟨pb, 0, none⟩)) ∧ w'.cell? ⟨pb, 0, none⟩ = some (.int .i64 7) := by
    refine (as_hit ⟨pb, 0, none⟩ ⟨w.heap.size + 1, 0, none⟩ (.pointer none) _ (h.below hB2).et (by simp) (by simp)).mono ?_
    rintro e w' ⟨rfl, rfl⟩
    have hb := ((((hB2.alloc (by simp; omega) (.cells #[.pointer (some ⟨w.heap.size + 1, 0, none⟩)] 36)).alloc (by simp; omega) (.cells #[.pointer (some ⟨16, 36, none⟩), .pointer (some ⟨((w.alloc (.cells (twelve a) 26)).alloc (.cells #[.pointer none] 28)).heap.size, 0, none⟩), .int .u64 150] 44)).alloc (by simp; omega) (.cells #[.pointer (some ⟨16, 36, none⟩), .pointer (some ⟨((w.alloc (.cells (twelve a) 26)).alloc (.cells #[.pointer none] 28)).heap.size, 0, none⟩), .int .u64 150] 44)).alloc (by simp; omega) (.cells #[.pointer (some ⟨pb, 0, none⟩)] 28)).setCell (p := ⟨w.heap.size + 1, 0, none⟩) (by simp) (.pointer (some ⟨pb, 0, none⟩))
    refine ⟨rfl, hb, ?_, ?_⟩
    · refine World.cell?_setCell_same _ _ _ (u := .pointer none) ?_
      rw [World.cell?_alloc_lt _ _ _ (by simp), World.cell?_alloc_lt _ _ _ (by simp), World.cell?_alloc_lt _ _ _ (by simp), World.cell?_alloc_lt _ _ _ (by simp), World.cell?_alloc_at _ _ _ _ (by simp)]
      rfl
    · rw [hb.cell (lt_of_cell hp0)]; exact hp0
  have h0 := h.var 0 (by decide)
  have h1 := h.var 1 (by decide)
  have h2 := h.var 2 (by decide)
  have h3 := h.var 3 (by decide)
  have h4 := h.var 4 (by decide)
  have h5 := h.var 5 (by decide)
  have h6 := h.var 6 (by decide)
  have h7 := h.var 7 (by decide)
  have h8 := h.var 8 (by decide)
  have h9 := h.var 9 (by decide)
  have h10 := h.var 10 (by decide)
  have h11 := h.var 11 (by decide)
  go_enter Tryd.func5, Tryd.ntmps5
  go_wp2
  clear h0 h1 h2 h3 h4 h5 h6 h7 h8 h9 h10 h11
  go_loop [4, 24] (fun n i => ∃ j : Nat, j ≤ 12 ∧ i = .int .i64 j ∧ ((j ≤ k ∧ n = .int .i64 0) ∨ (k < j ∧ n = .int .i64 (k + 1 : Nat)))) (fun _ i => 12 - (intOf i).toNat)
  case atStart => exact ⟨0, by omega, rfl, Or.inl ⟨by omega, rfl⟩⟩
  case round =>
    obtain ⟨j, hj, rfl, hn⟩ := hrel
    by_cases hlt : j < 12
    · have hc := twelve_at a w 26 j hlt
      have hIj := hI j hlt
      rcases hn with ⟨hjk, rfl⟩ | ⟨hjk, rfl⟩
      · by_cases e : j = k
        · subst e
          go_wp2_with (go_at_call 6; refine hIj.mono ?_; rintro e w' ⟨rfl, rfl⟩)
          go_round
          case rel => exact ⟨j + 1, by omega, by go_num, Or.inr ⟨by omega, by go_num⟩⟩
          case measure => simp [intOf]; omega
        · have hd : decide (j = k) = false := by simpa using e
          go_wp2_with (go_at_call 6; refine hIj.mono ?_; rintro e w' ⟨rfl, rfl⟩)
          go_round
          case rel => exact ⟨j + 1, by omega, by go_num, Or.inl ⟨by omega, rfl⟩⟩
          case measure => simp [intOf]; omega
      · have hd : decide (j = k) = false := by simp; omega
        go_wp2_with (go_at_call 6; refine hIj.mono ?_; rintro e w' ⟨rfl, rfl⟩)
        go_round
        case rel => exact ⟨j + 1, by omega, by go_num, Or.inr ⟨by omega, rfl⟩⟩
        case measure => simp [intOf]; omega
    · rcases hn with ⟨hjk, rfl⟩ | ⟨hjk, rfl⟩
      · omega
      · have hk0 : ((↑(k + 1) : Int) == 0) = false := by simp; omega
        go_wp2_with (go_at_call 7; refine hA.mono ?_; rintro e w' ⟨rfl, hbw, hcf, hc7⟩)
        go_quiet (fail)
        go_wp2
        go_ret2
        exact ⟨rfl, below_drewN hbw _⟩
end Go.Proofs.YtdidjdoifpfmmaaDoor
