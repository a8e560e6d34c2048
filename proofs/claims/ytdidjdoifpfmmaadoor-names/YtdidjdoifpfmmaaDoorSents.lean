import Derived.Test.YtdidjdoifpfmmaaDoorIs
import Derived.Test.YtdidjdoifpfmmaaDoorAs
import Derived.Below
namespace Go.Proofs.YtdidjdoifpfmmaaDoor
open Go.RowKit

/-- The twelve reasons, at their addresses; the handle of the type error. -/
structure Sents (a : Nat → Addr) (w : World) : Prop where
  var : ∀ k, k < 12 → w.cell? ⟨k, 0, none⟩ = some (.iface 66 (.pointer (some (a k))))
  row : ∀ k, k < 12 → ∃ c t, w.heap[(a k).block]? = some (.cells c t (0, 0))
  ne : ∀ i j, i < 12 → j < 12 → i ≠ j → a i ≠ a j
  text : ∀ k, k < 12 → ∃ s, w.cell? (a k) = some (.string s) ∧ s.size ≠ 0 ∧ s.size ≤ 100
  et : w.cell? ⟨12, 0, none⟩ = some (.iface 52 (.agg #[.pointer (some ⟨16, 26, none⟩)]))

theorem lt_of_cell {w : World} {p : Addr} {v : Value} (h : w.cell? p = some v) : p.block < w.heap.size := by
  rcases Nat.lt_or_ge p.block w.heap.size with h' | h'
  · exact h'
  · simp [World.cell?, Array.getElem?_eq_none h'] at h

theorem Sents.size {a : Nat → Addr} {w : World} (h : Sents a w) : 12 < w.heap.size := lt_of_cell h.et

theorem Sents.below {a : Nat → Addr} {w w' : World} (h : Sents a w) (hb : Below w.heap.size w w') : Sents a w' where
  var k hk := by rw [hb.cell (lt_of_cell (h.var k hk))]; exact h.var k hk
  row k hk := by
    obtain ⟨s, hs, _⟩ := h.text k hk
    rw [hb.block _ (lt_of_cell hs)]; exact h.row k hk
  ne := h.ne
  text k hk := by
    obtain ⟨s, hs, h0⟩ := h.text k hk
    exact ⟨s, by rw [hb.cell (lt_of_cell hs)]; exact hs, h0⟩
  et := by rw [hb.cell (lt_of_cell h.et)]; exact h.et

theorem is_any {a : Nat → Addr} {w : World} (h : Sents a w) (k j : Nat) (hk : k < 12) (hj : j < 12) :
    Calls Tryd.prog 6 #[.iface 66 (.pointer (some (a k))), .iface 66 (.pointer (some (a j)))] w fun e w' => e = .returned (.bool (decide (j = k))) ∧ w' = w := by
  by_cases hjk : j = k
  · subst hjk
    simpa using is_same (a j) w
  · obtain ⟨c, t, hr⟩ := h.row k hk
    obtain ⟨c', t', hr'⟩ := h.row j hj
    simpa [hjk] using is_other (a k) (a j) c c' t t' w (h.ne k j hk hj (fun e => hjk e.symm)) hr hr'

theorem is_wrapped {a : Nat → Addr} {w : World} (h : Sents a w) (k j pb : Nat) (hk : k < 12) (hj : j < 12) (h1 : w.cell? ⟨pb, 1, none⟩ = some (.iface 66 (.pointer (some (a k))))) :
    Calls Tryd.prog 6 #[.iface 28 (.pointer (some ⟨pb, 0, none⟩)), .iface 66 (.pointer (some (a j)))] w fun e w' => e = .returned (.bool (decide (j = k))) ∧ w' = w := by
  by_cases hjk : j = k
  · subst hjk
    simpa using is_wrap_same pb 0 (a j) w h1
  · obtain ⟨c, t, hr⟩ := h.row k hk
    obtain ⟨c', t', hr'⟩ := h.row j hj
    simpa [hjk] using is_wrap_other pb 0 (a j) (a k) c c' t t' w h1 (h.ne k j hk hj (fun e => hjk e.symm)) hr hr'

/-- The list of all reasons, as the call lays it down. -/
abbrev twelve (a : Nat → Addr) : Array Value := #[.iface 66 (.pointer (some (a 0))), .iface 66 (.pointer (some (a 1))), .iface 66 (.pointer (some (a 2))), .iface 66 (.pointer (some (a 3))), .iface 66 (.pointer (some (a 4))), .iface 66 (.pointer (some (a 5))), .iface 66 (.pointer (some (a 6))), .iface 66 (.pointer (some (a 7))), .iface 66 (.pointer (some (a 8))), .iface 66 (.pointer (some (a 9))), .iface 66 (.pointer (some (a 10))), .iface 66 (.pointer (some (a 11)))]

theorem twelve_at (a : Nat → Addr) (w : World) (t : TypeId) (j : Nat) (hj : j < 12) : (w.alloc (.cells (twelve a) t)).cell? ⟨w.heap.size, j, none⟩ = some (.iface 66 (.pointer (some (a j)))) := by
  rw [World.cell?_alloc_at _ _ _ _ rfl]
  match j, hj with
  | 0, _ => rfl
  | 1, _ => rfl
  | 2, _ => rfl
  | 3, _ => rfl
  | 4, _ => rfl
  | 5, _ => rfl
  | 6, _ => rfl
  | 7, _ => rfl
  | 8, _ => rfl
  | 9, _ => rfl
  | 10, _ => rfl
  | 11, _ => rfl
end Go.Proofs.YtdidjdoifpfmmaaDoor
