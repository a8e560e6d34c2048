import Derived.Test.YtdidjdoifpfmmaaDoorSents
import Derived.WalkLawsBesides
namespace Go.Proofs.YtdidjdoifpfmmaaDoor
open Go.RowKit

theorem error_E (p : Addr) (s : ByteArray) (w : World) (h : w.cell? p = some (.string s)) :
    Calls Tryd.prog 64 #[.pointer (some p)] w fun e w' => e = .returned (.string s) ∧ w' = w := by
  go_enter Tryd.func64, Tryd.ntmps64
  go_wp2
  go_ret
  exact ⟨rfl, rfl⟩

set_option maxHeartbeats 1000000 in
theorem itoa_seven (w : World) :
    Calls Tryd.prog 36 #[.int .i64 7] w fun e w' => e = .returned (.string { data := #[55] }) ∧ w' = w := by
  go_enter Tryd.func36, Tryd.ntmps36
  go_wp2
  go_ret
  exact ⟨rfl, rfl⟩

set_option maxRecDepth 3000 in
set_option maxHeartbeats 2000000 in
theorem reasonText_any {a : Nat → Addr} {w : World} (h : Sents a w) (k : Nat) (hk : k < 12) :
    Calls Tryd.prog 35 #[.iface 66 (.pointer (some (a k)))] w fun e w' => ∃ s : ByteArray, s.size ≤ 100 ∧ e = .returned (.string s) ∧ w' = w.alloc (.cells (twelve a) 26) := by
  obtain ⟨i, hi, hcmp⟩ := Option.map_eq_some_iff.1 Tryd.isComp
  obtain ⟨t, ht, hts⟩ := Option.map_eq_some_iff.1 Tryd.isSize
  have hS := h.below ((Below.refl _ _).alloc (Nat.le_refl _) (.cells (twelve a) 26))
  obtain ⟨s, hs, _, hs1⟩ := hS.text k hk
  have hsame := run_eql_iface_ptr_same (P := Tryd.prog) (w.alloc (.cells (twelve a) 26)) (a k) Tryd.underlying26 Tryd.underlying66 hi hcmp ht
  have hother : ∀ j, j < 12 → j ≠ k → (binOp .eql 26 (.iface 66 (.pointer (some (a k)))) (.iface 66 (.pointer (some (a j))))).run Tryd.prog (w.alloc (.cells (twelve a) 26)) = .ok (.bool false) (w.alloc (.cells (twelve a) 26)) := by
    intro j hj hjk
    obtain ⟨c, t1, hr⟩ := hS.row k hk
    obtain ⟨c', t2, hr'⟩ := hS.row j hj
    exact run_eql_iface_ptr_other (P := Tryd.prog) _ Tryd.underlying26 Tryd.underlying66 hi hcmp ht (by rw [hts]; decide) (h.ne k j hk hj (fun e => hjk e.symm)) hr hr'
  have mE := Tryd.methodErrorE
  have h0 := h.var 0 (by decide)
  have h1 := h.var 1 (by decide)
  have h2 := h.var 2 (by decide)
  have h3 := h.var 3 (by decide)
  have h4 := h.var 4 (by decide)
  have h5 := h.var 5 (by decide)
  have h6 := h.var 6 (by decide)
  have h7 := h.var 7 (by decide)
  have h8 := h.var 8 (by decide)
  have h9 := h.var 9 (by decide)
  have h10 := h.var 10 (by decide)
  have h11 := h.var 11 (by decide)
  go_enter Tryd.func35, Tryd.ntmps35
  go_wp2
  clear h0 h1 h2 h3 h4 h5 h6 h7 h8 h9 h10 h11
  go_loop [19] (fun i => ∃ j : Nat, j ≤ k ∧ i = .int .i64 j) (fun i => 12 - (intOf i).toNat)
  case atStart => exact ⟨0, by omega, rfl⟩
  case round =>
    obtain ⟨j, hj, rfl⟩ := hrel
    have hlt : j < 12 := by omega
    have hc := twelve_at a w 26 j hlt
    dsimp only [twelve] at hsame hother hc
    by_cases e : j = k
    · subst e
      clear hother hi hcmp ht hts
      have hsm : Hid _ := hs
      clear hs
      go_wp2_with (go_at_call 64; refine (error_E (a j) s _ hsm.out).mono ?_; rintro e w' ⟨rfl, rfl⟩)
      go_ret
      exact ⟨s, hs1, rfl, rfl⟩
    · have ho := hother j hlt e
      clear hsame hother hs hi hcmp ht hts
      go_wp2
      go_round
      case rel => exact ⟨j + 1, by omega, by go_num⟩
      case measure => simp [intOf]; omega
end Go.Proofs.YtdidjdoifpfmmaaDoor
