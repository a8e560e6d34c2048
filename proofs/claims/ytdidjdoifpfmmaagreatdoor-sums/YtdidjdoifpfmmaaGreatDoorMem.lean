import Derived.Test.YtdidjdoifpfmmaaGreatDoorProg
import Derived.WalkKit
import Derived.WalkLawsBesides
import Derived.Laws.Rows
import Derived.WalkSmall
/- Blocks whose cells are known whole: rows of numbers. -/
namespace Go.Proofs.YtdidjdoifpfmmaaGreatDoor
open Go.RowKit

theorem lt_of_cell {w : World} {p : Addr} {v : Value} (h : w.cell? p = some v) : p.block < w.heap.size := by
  rcases Nat.lt_or_ge p.block w.heap.size with h' | h'
  · exact h'
  · simp [World.cell?, Array.getElem?_eq_none h'] at h

theorem ret_eq {a b : Value} (h : a = b) : Ending.returned a = .returned b := by rw [h]

/-- Block g holds the cells vs, and may be written. -/
structure RowIs (w : World) (g : Nat) (t : TypeId) (vs : List Value) : Prop where
  heap : w.heap[g]? = some (.cells vs.toArray t (0, 0))

theorem RowIs.lt {w : World} {g : Nat} {t : TypeId} {vs : List Value} (h : RowIs w g t vs) : g < w.heap.size := by
  rcases Nat.lt_or_ge g w.heap.size with h' | h'
  · exact h'
  · have := h.heap; rw [Array.getElem?_eq_none h'] at this; cases this

theorem RowIs.cell {w : World} {g : Nat} {t : TypeId} {vs : List Value} (h : RowIs w g t vs) (j : Nat) : w.cell? ⟨g, j, none⟩ = vs[j]? := by
  rw [cell_of_row w g j _ t _ h.heap]; simp

theorem RowIs.frozen {w : World} {g : Nat} {t : TypeId} {vs : List Value} (h : RowIs w g t vs) (j : Nat) : w.frozen? ⟨g, j, none⟩ = false := by
  simp [World.frozen?, h.heap]

theorem RowIs.set {w : World} {g : Nat} {t : TypeId} {vs : List Value} (h : RowIs w g t vs) (j : Nat) (v : Value) : RowIs (w.setCell ⟨g, j, none⟩ v) g t (vs.set j v) := ⟨by
  simp [World.setCell, Array.getElem?_modify, h.heap]⟩

theorem RowIs.other {w : World} {g : Nat} {t : TypeId} {vs : List Value} (h : RowIs w g t vs) {a : Addr} (v : Value) (ha : g ≠ a.block) : RowIs (w.setCell a v) g t vs := ⟨by
  rw [Below.heap_setCell _ _ _ _ ha]; exact h.heap⟩

theorem RowIs.drew {w : World} {g : Nat} {t : TypeId} {vs : List Value} (h : RowIs w g t vs) : RowIs w.drew g t vs := ⟨h.heap⟩

theorem RowIs.below {w w' : World} {B g : Nat} {t : TypeId} {vs : List Value} (h : RowIs w g t vs) (hb : Below B w w') (hg : g < B) : RowIs w' g t vs := ⟨by rw [hb.block g hg]; exact h.heap⟩

theorem RowIs.new (w : World) (t : TypeId) (vs : List Value) : RowIs (w.alloc (.cells vs.toArray t)) w.heap.size t vs := ⟨by
  show (w.heap.push _)[w.heap.size]? = _
  simp⟩

theorem three_rows (w : World) (t1 t2 t3 : TypeId) (v1 v2 v3 : List Value) :
    Below w.heap.size w (((w.alloc (.cells v1.toArray t1)).alloc (.cells v2.toArray t2)).alloc (.cells v3.toArray t3)) ∧
    RowIs (((w.alloc (.cells v1.toArray t1)).alloc (.cells v2.toArray t2)).alloc (.cells v3.toArray t3)) w.heap.size t1 v1 ∧
    RowIs (((w.alloc (.cells v1.toArray t1)).alloc (.cells v2.toArray t2)).alloc (.cells v3.toArray t3)) (w.heap.size + 1) t2 v2 ∧
    RowIs (((w.alloc (.cells v1.toArray t1)).alloc (.cells v2.toArray t2)).alloc (.cells v3.toArray t3)) (w.heap.size + 1 + 1) t3 v3 ∧
    (((w.alloc (.cells v1.toArray t1)).alloc (.cells v2.toArray t2)).alloc (.cells v3.toArray t3)).heap.size = w.heap.size + 3 := by
  have h1 := ((RowIs.new w t1 v1).below ((Below.refl _ _).alloc (Nat.le_refl _) (.cells v2.toArray t2)) (by simp)).below ((Below.refl _ _).alloc (Nat.le_refl _) (.cells v3.toArray t3)) (by simp; omega)
  have h2 := (RowIs.new (w.alloc (.cells v1.toArray t1)) t2 v2).below ((Below.refl _ _).alloc (Nat.le_refl _) (.cells v3.toArray t3)) (by simp)
  have h3 := RowIs.new ((w.alloc (.cells v1.toArray t1)).alloc (.cells v2.toArray t2)) t3 v3
  simp only [World.size_alloc] at h2 h3
  exact ⟨(((Below.refl _ _).alloc (Nat.le_refl _) _).alloc (by simp) _).alloc (by simp; omega) _, h1, h2, h3, by simp⟩

/-- Numbers as values. -/
abbrev I (n : Nat) : Value := .int .i64 n
def ints (l : List Nat) : List Value := l.map I
theorem ints_get (l : List Nat) (j : Nat) (h : j < l.length) : (ints l)[j]? = some (.int .i64 (l.getD j 0 : Nat)) := by
  simp [ints, List.getD_eq_getElem?_getD, h]
theorem ints_set (l : List Nat) (j x : Nat) : (ints l).set j (.int .i64 (x : Nat)) = ints (l.set j x) := by
  simp [ints, List.map_set]
theorem ints_length (l : List Nat) : (ints l).length = l.length := by simp [ints]
end Go.Proofs.YtdidjdoifpfmmaaGreatDoor
