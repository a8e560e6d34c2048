import Derived.Test.YtdidjdoifpfmmaaGreatDoorErrIs
import Derived.Test.YtdidjdoifpfmmaaGreatDoorErrAs
import Derived.Below
import Derived.Deep.QuietTactic
import Derived.BigQuiet
import Derived.WalkSmall
namespace Go.Proofs.YtdidjdoifpfmmaaGreatDoor
open Go.RowKit

/-- The twelve reasons, at their addresses; the handle of the type error. -/
structure Sents (a : Nat → Addr) (w : World) : Prop where
  var : ∀ k, k < 12 → w.cell? ⟨k, 0, none⟩ = some (.iface 452 (.pointer (some (a k))))
  row : ∀ k, k < 12 → ∃ c t, w.heap[(a k).block]? = some (.cells c t (0, 0))
  ne : ∀ i j, i < 12 → j < 12 → i ≠ j → a i ≠ a j
  text : ∀ k, k < 12 → ∃ s, w.cell? (a k) = some (.string s) ∧ s.size ≠ 0 ∧ s.size ≤ 100
  et : w.cell? ⟨12, 0, none⟩ = some (.iface 325 (.agg #[.pointer (some ⟨18, 92, none⟩)]))

theorem lt_of_cellE {w : World} {p : Addr} {v : Value} (h : w.cell? p = some v) : p.block < w.heap.size := by
  rcases Nat.lt_or_ge p.block w.heap.size with h' | h'
  · exact h'
  · simp [World.cell?, Array.getElem?_eq_none h'] at h

theorem Sents.size {a : Nat → Addr} {w : World} (h : Sents a w) : 12 < w.heap.size := lt_of_cellE h.et

theorem Sents.below {a : Nat → Addr} {w w' : World} (h : Sents a w) (hb : Below w.heap.size w w') : Sents a w' where
  var k hk := by rw [hb.cell (lt_of_cellE (h.var k hk))]; exact h.var k hk
  row k hk := by
    obtain ⟨s, hs, _⟩ := h.text k hk
    rw [hb.block _ (lt_of_cellE hs)]; exact h.row k hk
  ne := h.ne
  text k hk := by
    obtain ⟨s, hs, h0⟩ := h.text k hk
    exact ⟨s, by rw [hb.cell (lt_of_cellE hs)]; exact hs, h0⟩
  et := by rw [hb.cell (lt_of_cellE h.et)]; exact h.et

theorem is_any {a : Nat → Addr} {w : World} (h : Sents a w) (k j : Nat) (hk : k < 12) (hj : j < 12) :
    Calls Tryz.prog 78 #[.iface 452 (.pointer (some (a k))), .iface 452 (.pointer (some (a j)))] w fun e w' => e = .returned (.bool (decide (j = k))) ∧ w' = w := by
  by_cases hjk : j = k
  · subst hjk
    simpa using is_same (a j) w
  · obtain ⟨c, t, hr⟩ := h.row k hk
    obtain ⟨c', t', hr'⟩ := h.row j hj
    simpa [hjk] using is_other (a k) (a j) c c' t t' w (h.ne k j hk hj (fun e => hjk e.symm)) hr hr'

theorem is_wrapped {a : Nat → Addr} {w : World} (h : Sents a w) (k j pb : Nat) (hk : k < 12) (hj : j < 12) (h1 : w.cell? ⟨pb, 1, none⟩ = some (.iface 452 (.pointer (some (a k))))) :
    Calls Tryz.prog 78 #[.iface 152 (.pointer (some ⟨pb, 0, none⟩)), .iface 452 (.pointer (some (a j)))] w fun e w' => e = .returned (.bool (decide (j = k))) ∧ w' = w := by
  by_cases hjk : j = k
  · subst hjk
    simpa using is_wrap_same pb 0 (a j) w h1
  · obtain ⟨c, t, hr⟩ := h.row k hk
    obtain ⟨c', t', hr'⟩ := h.row j hj
    simpa [hjk] using is_wrap_other pb 0 (a j) (a k) c c' t t' w h1 (h.ne k j hk hj (fun e => hjk e.symm)) hr hr'

/-- The list of all reasons, as the call lays it down. -/
abbrev twelve (a : Nat → Addr) : Array Value := #[.iface 452 (.pointer (some (a 0))), .iface 452 (.pointer (some (a 1))), .iface 452 (.pointer (some (a 2))), .iface 452 (.pointer (some (a 3))), .iface 452 (.pointer (some (a 4))), .iface 452 (.pointer (some (a 5))), .iface 452 (.pointer (some (a 6))), .iface 452 (.pointer (some (a 7))), .iface 452 (.pointer (some (a 8))), .iface 452 (.pointer (some (a 9))), .iface 452 (.pointer (some (a 10))), .iface 452 (.pointer (some (a 11)))]

theorem twelve_at (a : Nat → Addr) (w : World) (t : TypeId) (j : Nat) (hj : j < 12) : (w.alloc (.cells (twelve a) t)).cell? ⟨w.heap.size, j, none⟩ = some (.iface 452 (.pointer (some (a j)))) := by
  rw [World.cell?_alloc_at _ _ _ _ rfl]
  match j, hj with
  | 0, _ => rfl
  | 1, _ => rfl
  | 2, _ => rfl
  | 3, _ => rfl
  | 4, _ => rfl
  | 5, _ => rfl
  | 6, _ => rfl
  | 7, _ => rfl
  | 8, _ => rfl
  | 9, _ => rfl
  | 10, _ => rfl
  | 11, _ => rfl
end Go.Proofs.YtdidjdoifpfmmaaGreatDoor
namespace Go.Proofs.YtdidjdoifpfmmaaGreatDoor
open Go.RowKit
set_option maxHeartbeats 2000000 in
theorem number_E {a : Nat → Addr} {w : World} (h : Sents a w) (k : Nat) (hk : k < 12) :
    Calls Tryz.prog 43 #[.iface 452 (.pointer (some (a k)))] w fun e w' => e = .returned (.tuple #[.int .i64 (k + 1 : Nat), .int .i64 (-1)]) ∧ Below w.heap.size w w' := by
  have hI : ∀ j, j < 12 → Calls Tryz.prog 78 #[.iface 452 (.pointer (some (a k))), .iface 452 (.pointer (some (a j)))] (w.alloc (.cells (twelve a) 92)) fun e w' => e = .returned (.bool (decide (j = k))) ∧ w.alloc (.cells (twelve a) 92) = w' :=
    fun j hj => (is_any (h.below ((Below.refl _ _).alloc (Nat.le_refl _) _)) k j hk hj).mono fun e w' hh => ⟨hh.1, hh.2.symm⟩
  have hA := as_miss (a k) ⟨w.heap.size + 1, 0, none⟩ ((w.alloc (.cells (twelve a) 92)).alloc (.cells #[.pointer none] 152)) (h.below (((Below.refl _ _).alloc (Nat.le_refl _) _).alloc (by simp) _)).et
  have h0 := h.var 0 (by decide)
  have h1 := h.var 1 (by decide)
  have h2 := h.var 2 (by decide)
  have h3 := h.var 3 (by decide)
  have h4 := h.var 4 (by decide)
  have h5 := h.var 5 (by decide)
  have h6 := h.var 6 (by decide)
  have h7 := h.var 7 (by decide)
  have h8 := h.var 8 (by decide)
  have h9 := h.var 9 (by decide)
  have h10 := h.var 10 (by decide)
  have h11 := h.var 11 (by decide)
  go_enter Tryz.func43, Tryz.ntmps43
  go_wp2
  clear h0 h1 h2 h3 h4 h5 h6 h7 h8 h9 h10 h11
  go_loop [4, 24] (fun n i => ∃ j : Nat, j ≤ 12 ∧ i = .int .i64 j ∧ ((j ≤ k ∧ n = .int .i64 0) ∨ (k < j ∧ n = .int .i64 (k + 1 : Nat)))) (fun _ i => 12 - (intOf i).toNat)
  case atStart => exact ⟨0, by omega, rfl, Or.inl ⟨by omega, rfl⟩⟩
  case round =>
    obtain ⟨j, hj, rfl, hn⟩ := hrel
    by_cases hlt : j < 12
    · have hc := twelve_at a w 92 j hlt
      have hIj := hI j hlt
      rcases hn with ⟨hjk, rfl⟩ | ⟨hjk, rfl⟩
      · by_cases e : j = k
        · subst e
          go_wp2_with (go_at_call 78; refine hIj.mono ?_; rintro e w' ⟨rfl, rfl⟩)
          go_round
          case rel => exact ⟨j + 1, by omega, by go_num, Or.inr ⟨by omega, by go_num⟩⟩
          case measure => simp [intOf]; omega
        · have hd : decide (j = k) = false := by simpa using e
          go_wp2_with (go_at_call 78; refine hIj.mono ?_; rintro e w' ⟨rfl, rfl⟩)
          go_round
          case rel => exact ⟨j + 1, by omega, by go_num, Or.inl ⟨by omega, rfl⟩⟩
          case measure => simp [intOf]; omega
      · have hd : decide (j = k) = false := by simp; omega
        go_wp2_with (go_at_call 78; refine hIj.mono ?_; rintro e w' ⟨rfl, rfl⟩)
        go_round
        case rel => exact ⟨j + 1, by omega, by go_num, Or.inr ⟨by omega, rfl⟩⟩
        case measure => simp [intOf]; omega
    · rcases hn with ⟨hjk, rfl⟩ | ⟨hjk, rfl⟩
      · omega
      · have hk0 : ((↑(k + 1) : Int) == 0) = false := by simp; omega
        go_wp2_with (go_at_call 79; refine hA.mono ?_; rintro e w' ⟨rfl, rfl⟩)
        go_ret2
        exact ⟨rfl, (((((Below.refl _ _).alloc (Nat.le_refl _) _).alloc (by simp) _).alloc (by simp; omega) _).alloc (by simp; omega) _).alloc (by simp; omega) _⟩

set_option maxHeartbeats 2000000 in
theorem number_F {a : Nat → Addr} {w : World} (h : Sents a w) (k pb : Nat) (hk : k < 12) (hp0 : w.cell? ⟨pb, 0, none⟩ = some (.int .i64 7)) (hp1 : w.cell? ⟨pb, 1, none⟩ = some (.iface 452 (.pointer (some (a k))))) :
    Calls Tryz.prog 43 #[.iface 152 (.pointer (some ⟨pb, 0, none⟩))] w fun e w' => e = .returned (.tuple #[.int .i64 (k + 1 : Nat), .int .i64 7]) ∧ Below w.heap.size w w' := by
  have hI : ∀ j, j < 12 → Calls Tryz.prog 78 #[.iface 152 (.pointer (some ⟨pb, 0, none⟩)), .iface 452 (.pointer (some (a j)))] (w.alloc (.cells (twelve a) 92)) fun e w' => e = .returned (.bool (decide (j = k))) ∧ w.alloc (.cells (twelve a) 92) = w' :=
    fun j hj => (is_wrapped (h.below ((Below.refl _ _).alloc (Nat.le_refl _) _)) k j pb hk hj (by rw [((Below.refl _ _).alloc (Nat.le_refl _) _ : Below w.heap.size w _).cell (lt_of_cellE hp1)]; exact hp1)).mono fun e w' hh => ⟨hh.1, hh.2.symm⟩
  have hB2 : Below w.heap.size w ((w.alloc (.cells (twelve a) 92)).alloc (.cells #[.pointer none] 152)) := ((Below.refl _ _).alloc (Nat.le_refl _) _).alloc (by simp) _
  have hA : Calls Tryz.prog 79 #[.iface 152 (.pointer (some ⟨pb, 0, none⟩)), .iface 154 (.pointer (some ⟨w.heap.size + 1, 0, none⟩))] ((w.alloc (.cells (twelve a) 92)).alloc (.cells #[.pointer none] 152)) fun e w' => e = .returned (.bool true) ∧ Below w.heap.size w w' ∧ w'.cell? ⟨w.heap.size + 1, 0, none⟩ = some (.pointer (some ⟨pb, 0, none⟩)) ∧ w'.cell? ⟨pb, 0, none⟩ = some (.int .i64 7) := by
    refine (as_hit ⟨pb, 0, none⟩ ⟨w.heap.size + 1, 0, none⟩ (.pointer none) _ (h.below hB2).et (by simp) (by simp)).mono ?_
    rintro e w' ⟨rfl, rfl⟩
    have hb := ((((hB2.alloc (by simp; omega) (.cells #[.pointer (some ⟨w.heap.size + 1, 0, none⟩)] 154)).alloc (by simp; omega) (.cells #[.pointer (some ⟨18, 154, none⟩), .pointer (some ⟨((w.alloc (.cells (twelve a) 92)).alloc (.cells #[.pointer none] 152)).heap.size, 0, none⟩), .int .u64 150] 242)).alloc (by simp; omega) (.cells #[.pointer (some ⟨18, 154, none⟩), .pointer (some ⟨((w.alloc (.cells (twelve a) 92)).alloc (.cells #[.pointer none] 152)).heap.size, 0, none⟩), .int .u64 150] 242)).alloc (by simp; omega) (.cells #[.pointer (some ⟨pb, 0, none⟩)] 152)).setCell (p := ⟨w.heap.size + 1, 0, none⟩) (by simp) (.pointer (some ⟨pb, 0, none⟩))
    refine ⟨rfl, hb, ?_, ?_⟩
    · refine World.cell?_setCell_same _ _ _ (u := .pointer none) ?_
      rw [World.cell?_alloc_lt _ _ _ (by simp), World.cell?_alloc_lt _ _ _ (by simp), World.cell?_alloc_lt _ _ _ (by simp), World.cell?_alloc_lt _ _ _ (by simp), World.cell?_alloc_at _ _ _ _ (by simp)]
      rfl
    · rw [hb.cell (lt_of_cellE hp0)]; exact hp0
  have h0 := h.var 0 (by decide)
  have h1 := h.var 1 (by decide)
  have h2 := h.var 2 (by decide)
  have h3 := h.var 3 (by decide)
  have h4 := h.var 4 (by decide)
  have h5 := h.var 5 (by decide)
  have h6 := h.var 6 (by decide)
  have h7 := h.var 7 (by decide)
  have h8 := h.var 8 (by decide)
  have h9 := h.var 9 (by decide)
  have h10 := h.var 10 (by decide)
  have h11 := h.var 11 (by decide)
  go_enter Tryz.func43, Tryz.ntmps43
  go_wp2
  clear h0 h1 h2 h3 h4 h5 h6 h7 h8 h9 h10 h11
  go_loop [4, 24] (fun n i => ∃ j : Nat, j ≤ 12 ∧ i = .int .i64 j ∧ ((j ≤ k ∧ n = .int .i64 0) ∨ (k < j ∧ n = .int .i64 (k + 1 : Nat)))) (fun _ i => 12 - (intOf i).toNat)
  case atStart => exact ⟨0, by omega, rfl, Or.inl ⟨by omega, rfl⟩⟩
  case round =>
    obtain ⟨j, hj, rfl, hn⟩ := hrel
    by_cases hlt : j < 12
    · have hc := twelve_at a w 92 j hlt
      have hIj := hI j hlt
      rcases hn with ⟨hjk, rfl⟩ | ⟨hjk, rfl⟩
      · by_cases e : j = k
        · subst e
          go_wp2_with (go_at_call 78; refine hIj.mono ?_; rintro e w' ⟨rfl, rfl⟩)
          go_round
          case rel => exact ⟨j + 1, by omega, by go_num, Or.inr ⟨by omega, by go_num⟩⟩
          case measure => simp [intOf]; omega
        · have hd : decide (j = k) = false := by simpa using e
          go_wp2_with (go_at_call 78; refine hIj.mono ?_; rintro e w' ⟨rfl, rfl⟩)
          go_round
          case rel => exact ⟨j + 1, by omega, by go_num, Or.inl ⟨by omega, rfl⟩⟩
          case measure => simp [intOf]; omega
      · have hd : decide (j = k) = false := by simp; omega
        go_wp2_with (go_at_call 78; refine hIj.mono ?_; rintro e w' ⟨rfl, rfl⟩)
        go_round
        case rel => exact ⟨j + 1, by omega, by go_num, Or.inr ⟨by omega, rfl⟩⟩
        case measure => simp [intOf]; omega
    · rcases hn with ⟨hjk, rfl⟩ | ⟨hjk, rfl⟩
      · omega
      · have hk0 : ((↑(k + 1) : Int) == 0) = false := by simp; omega
        go_wp2_with (go_at_call 79; refine hA.mono ?_; rintro e w' ⟨rfl, hbw, hcf, hc7⟩)
        go_quiet (fail)
        go_wp2
        go_ret2
        exact ⟨rfl, below_drewN hbw _⟩
end Go.Proofs.YtdidjdoifpfmmaaGreatDoor
