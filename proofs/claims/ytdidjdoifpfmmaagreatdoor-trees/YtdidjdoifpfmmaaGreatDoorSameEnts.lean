import Derived.Test.YtdidjdoifpfmmaaGreatDoorRefList2
import Derived.Test.YtdidjdoifpfmmaaGreatDoorGT27
import Derived.Test.YtdidjdoifpfmmaaGreatDoorToldArms
/- The statements' comparison of two lists of entries. -/
namespace Go.Proofs.YtdidjdoifpfmmaaGreatDoor
open Go.RowKit
/-- Entries in memory. -/
def EnsAt (w : World) (v : Value) (es : List En) : Prop := ∃ ag g cap, v = .slice ag es.length cap ∧ es.length ≤ cap ∧ (0 < es.length → ag = some ⟨g, 0, none⟩) ∧ ∀ j x, (enCells es)[j]? = some x → w.cell? ⟨g, j, none⟩ = some x
theorem ensAt_of {w : World} {B : Nat} {e : TypeId} {v : Value} {n : Nat} {es : List En} (h : w.ownsRow B e 3 v n (enCells es)) : EnsAt w v es := by
  have hl : es.length = n := by have := h.1; rw [enCells_length] at this; omega
  rcases h.2 with ⟨hv, h0⟩ | ⟨g, cap, cur, hv, _, hb, hc, _, _, ht⟩
  · exact ⟨none, 0, 0, by rw [hv, hl, h0], by omega, fun h => by omega, fun j x hx => by
      have := (List.getElem?_eq_some_iff.1 hx).1
      rw [enCells_length] at this
      omega⟩
  · refine ⟨some ⟨g, 0, none⟩, g, cap, by rw [hv, hl], by omega, fun _ => rfl, fun j x hx => ?_⟩
    have hj : j < n * 3 := by
      have := (List.getElem?_eq_some_iff.1 hx).1
      rw [enCells_length] at this
      omega
    rw [cell_of_row w g j cur _ _ hb]
    have : (cur.toList.take (n * 3))[j]? = (enCells es)[j]? := by rw [ht]
    rw [List.getElem?_take_of_lt hj] at this
    rw [← Array.getElem?_toList, this, hx]
theorem EnsAt.three {w : World} {es : List En} {g : Nat} (h : ∀ j x, (enCells es)[j]? = some x → w.cell? ⟨g, j, none⟩ = some x) (j : Nat) (hj : j < es.length) :
    w.cell? ⟨g, j * 3, none⟩ = some (.string es[j].name) ∧ w.cell? ⟨g, j * 3 + 1, none⟩ = some (.bool es[j].dir) ∧ w.cell? ⟨g, j * 3 + 2, none⟩ = some (.int .i64 (es[j].size : Nat)) := by
  unfold enCells at h
  refine ⟨h _ _ ?_, h _ _ ?_, h _ _ ?_⟩
  · have := flat_get En.cells 3 es (fun _ _ => rfl) j hj 0 (by decide)
    rw [Nat.add_zero] at this
    rw [this]; rfl
  · rw [flat_get En.cells 3 es (fun _ _ => rfl) j hj 1 (by decide)]; rfl
  · rw [flat_get En.cells 3 es (fun _ _ => rfl) j hj 2 (by decide)]; rfl
set_option maxRecDepth 100000 in
set_option maxHeartbeats 1600000 in
theorem sameEntries_true {w : World} {v1 v2 : Value} {es : List En} (h1 : EnsAt w v1 es) (h2 : EnsAt w v2 es) (hl : es.length ≤ 1000000) :
    Calls Tryz.prog 134 #[v1, v2] w fun e w' => e = .returned (.bool true) ∧ Below w.heap.size w w' := by
  obtain ⟨a1, g1, k1, rfl, hk1, ha1, hc1⟩ := h1
  obtain ⟨a2, g2, k2, rfl, hk2, ha2, hc2⟩ := h2
  have e0 : ((es.length : Int) != (es.length : Int)) = false := by simp
  have HL : Hid (∀ wr, Below w.heap.size w wr → ∀ j, j < es.length → ∃ x : En, (wr.cell? ⟨g1, j * 3, none⟩ = some (.string x.name) ∧ wr.cell? ⟨g1, j * 3 + 1, none⟩ = some (.bool x.dir) ∧ wr.cell? ⟨g1, j * 3 + 2, none⟩ = some (.int .i64 (x.size : Nat))) ∧ (wr.cell? ⟨g2, j * 3, none⟩ = some (.string x.name) ∧ wr.cell? ⟨g2, j * 3 + 1, none⟩ = some (.bool x.dir) ∧ wr.cell? ⟨g2, j * 3 + 2, none⟩ = some (.int .i64 (x.size : Nat)))) := fun wr hb j hj => by
    have c1 : ∀ j x, (enCells es)[j]? = some x → wr.cell? ⟨g1, j, none⟩ = some x := fun j x hx => cell_kept (hc1 j x hx) (hb.block _ (World.block_lt_of_cell? _ _ (hc1 j x hx)))
    have c2 : ∀ j x, (enCells es)[j]? = some x → wr.cell? ⟨g2, j, none⟩ = some x := fun j x hx => cell_kept (hc2 j x hx) (hb.block _ (World.block_lt_of_cell? _ _ (hc2 j x hx)))
    exact ⟨es[j], EnsAt.three c1 j hj, EnsAt.three c2 j hj⟩
  clear hc1 hc2
  generalize hn : es.length = n at *
  have HN : Hid _ := hn
  clear hn
  go_enter Tryz.func134, Tryz.ntmps134
  go_wp2
  go_loopw [5] (fun iv wr => ∃ j : Nat, iv = .int .i64 j ∧ j ≤ n ∧ Below w.heap.size w wr) (fun iv _ => n - (intOf iv).toNat)
  case atStart => exact ⟨0, rfl, Nat.zero_le _, Below.refl _ _⟩
  case round =>
    obtain ⟨j, rfl, hjn, hb⟩ := hrel
    by_cases hlt : j < n
    · have j0 : (0 : Int) ≤ (j : Int) := by omega
      have j1 : (j : Int) < (n : Int) := by omega
      obtain ⟨⟨xn, xd, xs⟩, ⟨p0, p1, p2⟩, q0, q1, q2⟩ := HL.out wr hb j hlt
      obtain rfl := ha1 (by omega)
      obtain rfl := ha2 (by omega)
      dsimp only at p0 p1 p2 q0 q1 q2
      go_wp2
      go_region
      go_wp2
      exact ⟨⟨j + 1, by go_num, by omega, hb.drew⟩, by simp [intOf]; omega⟩
    · have ej : j = n := by omega
      subst ej
      have kk1 : ¬ (j : Int) < (j : Int) := by omega
      go_wp2
      go_ret
      exact ⟨rfl, hb⟩
end Go.Proofs.YtdidjdoifpfmmaaGreatDoor
