import Derived.Test.YtdidjdoifpfmmaaDoorNames
import Derived.Test.YtdidjdoifpfmmaaDoorCards
import Derived.Test.YtdidjdoifpfmmaaDoorTie
import Derived.WalkKit
import Derived.ProofKit
import Derived.OpenShut
import Derived.Deep.DeepHandedRow
import Derived.Stop.LaidErr
import Derived.LaidHandle
namespace Go.Proofs.YtdidjdoifpfmmaaDoor
open Go.ChangeShapes Go.WideShapes Go.ChangeAt Go.RowKit

theorem own : ownKnob Tryd.prog.godebug = none := by kernel_rfl
theorem cells107 : Tryd.prog.cellsOf 107 = 1 := by kernel_rfl
theorem cells9 : Tryd.prog.cellsOf 9 = 1 := by kernel_rfl
theorem star : "*" ++ "errors.errorString" = "*errors.errorString" := by decide
theorem row66 (u : TypeId) (h : Tryd.prog.typeName? 3 u = some "*errors.errorString") : u = 66 :=
  typeName_ptr_named (nm := "errors.errorString") (by rw [star]; kernel_rfl) (by kernel_rfl) (by decide) u (by rw [star]; exact h)

/-- What a reason is laid as. -/
def mk (x : String × List UInt8) : String × DataW Unit := (x.1, .iface "*errors.errorString" (.ptr (.agg [.lit (.string x.2)])))

set_option maxRecDepth 100000 in
theorem sent_at {W : World} : ∀ (L : List (String × List UInt8)), laidMet Tryd.prog (L.map mk) W → ∀ (k g : Nat) (x : String × List UInt8), L[k]? = some x → Tryd.prog.globalNamed x.1 = some g → (Tryd.prog.globals[g]?).map (·.type) = some 26 →
    ∃ (a : Addr) (s : ByteArray) (c : Array Value) (t : TypeId), W.var? Tryd.prog x.1 = some #[.iface 66 (.pointer (some a))] ∧ W.cell? a = some (.string s) ∧ s.data.toList = x.2 ∧ W.heap[a.block]? = some (.cells c t (0, 0))
  | [], _, k, g, x, hx, _, _ => by simp at hx
  | y :: L, h, k + 1, g, x, hx, hg, ht => sent_at L h.tail k g x (by simpa using hx) hg ht
  | y :: L, h, 0, g, x, hx, hg, ht => by
    obtain rfl : y = x := by simpa using hx
    obtain ⟨ps, ⟨g0, t0, cs0, f0, p0, q0, hg0, ht0, hv0, hd0, _, e0⟩, _, hrows⟩ := h
    obtain rfl := Option.some.inj (hg.symm.trans hg0)
    obtain rfl := Option.some.inj (ht.symm.trans ht0)
    subst e0
    obtain ⟨l0⟩ := cs0
    have ok0 : ∀ u v, l0 = [.iface u v] → Value.okWide Tryd.prog W .any 0 u v := fun u v e => by
      subst e
      exact (hrows g 0 (by simp [MemPlace.row])).2 u v (World.var?_cell hg0 hv0 0)
    obtain ⟨a, s, rfl, hc, hs, _, rfl⟩ := errorString_of_trod Tryd.underlying26 row66 Tryd.underlying66 Tryd.underlying107 rfl rfl Tryd.underlying9 cells107 cells9 hd0 ok0
    obtain ⟨c, t, hb⟩ := (hrows a.block a.off (by simp [MemPlace.row])).1
    exact ⟨a, s, c, t, hv0, hc, hs, hb⟩

def textOf : DataW Unit → List UInt8
  | .iface _ (.ptr (.agg [.lit (.string t)])) => t
  | _ => []
/-- The reasons' names and texts, off the given row. -/
def reasons : List (String × List UInt8) := Rows.namesRow.laid.tail.map fun x => (x.1, textOf x.2)
theorem reasons_len : reasons.length = 12 := by kernel_rfl
theorem reasons_named : ((List.range 12).all fun k => (reasons[k]?).bind (fun x => Tryd.prog.globalNamed x.1) == some k && (Tryd.prog.globals[k]?).map (·.type) == some 26) = true := by kernel_rfl
theorem reasons_sizes : (reasons.all fun x => x.2.length != 0 && decide (x.2.length ≤ 100)) = true := by kernel_rfl
theorem reasons_apart : ((List.range 12).all fun i => (List.range 12).all fun j => i == j || (reasons[i]?).map (·.2) != (reasons[j]?).map (·.2)) = true := by kernel_rfl
theorem errType : Tryd.prog.globalNamed "errors.errorType" = some 12 := by kernel_rfl
theorem rtypeIs : (Tryd.prog.cutTypes.find? (·.1 == "internal/reflectlite.rtype")).map (·.2) = some 52 := by kernel_rfl
theorem oneRow : ((List.range 119).filter fun t => Tryd.prog.rowNamed t [101, 114, 114, 111, 114]) = [26] := by kernel_rfl
theorem typesSize : Tryd.prog.types.size = 119 := by kernel_rfl
theorem handle26 : typeHandle Tryd.prog 26 = .pointer (some ⟨16, 26, none⟩) := by kernel_rfl

theorem handle_of_laid {W : World} (h : handlesMet Tryd.prog [("errors.errorType", Rows.laid_errors_errorType)] W) : W.cell? ⟨12, 0, none⟩ = some (.iface 52 (.agg #[.pointer (some ⟨16, 26, none⟩)])) := by
  obtain ⟨name, u, ty, e1, e2, e3, e4, e5⟩ := h _ (List.mem_singleton.2 rfl)
  have en : name = [101, 114, 114, 111, 114] := (Option.some.inj e1).symm
  subst en
  obtain rfl := Option.some.inj (rtypeIs.symm.trans e2)
  have hm : ty ∈ (List.range 119).filter fun t => Tryd.prog.rowNamed t [101, 114, 114, 111, 114] := List.mem_filter.2 ⟨List.mem_range.2 (by rw [← typesSize]; exact e3), e4⟩
  rw [oneRow] at hm
  obtain rfl := List.mem_singleton.1 hm
  rw [handle26] at e5
  simpa using World.var?_cell errType e5 0

theorem sents_of_laid {W : World} (h : laidMetH Tryd.prog Rows.namesRow.laid W) : ∃ a, Sents a W := by
  have h' : laidMet Tryd.prog (reasons.map mk) W ∧ handlesMet Tryd.prog [("errors.errorType", Rows.laid_errors_errorType)] W := h
  obtain ⟨hl, hh⟩ := h'
  have hx : ∀ k : Nat, ∃ a : Addr, k < 12 → ∃ (x : String × List UInt8) (s : ByteArray) (c : Array Value) (t : TypeId), reasons[k]? = some x ∧ W.cell? ⟨k, 0, none⟩ = some (.iface 66 (.pointer (some a))) ∧ W.cell? a = some (.string s) ∧ s.data.toList = x.2 ∧ W.heap[a.block]? = some (.cells c t (0, 0)) := by
    intro k
    by_cases hk : k < 12
    · have hn := List.all_eq_true.1 reasons_named k (List.mem_range.2 hk)
      simp only [Bool.and_eq_true, beq_iff_eq] at hn
      obtain ⟨hn1, hn2⟩ := hn
      obtain ⟨x, hx, hg⟩ := Option.bind_eq_some_iff.1 hn1
      obtain ⟨a, s, c, t, hv, hc, hs, hb⟩ := sent_at reasons hl k k x hx hg hn2
      exact ⟨a, fun _ => ⟨x, s, c, t, hx, by simpa using World.var?_cell hg hv 0, hc, hs, hb⟩⟩
    · exact ⟨⟨0, 0, none⟩, fun h => absurd h hk⟩
  obtain ⟨a, ha⟩ := Classical.axiomOfChoice hx
  refine ⟨a, fun k hk => ?_, fun k hk => ?_, fun i j hi hj hij e => ?_, fun k hk => ?_, handle_of_laid hh⟩
  · obtain ⟨x, s, c, t, _, hv, _⟩ := ha k hk
    exact hv
  · obtain ⟨x, s, c, t, _, _, _, _, hb⟩ := ha k hk
    exact ⟨c, t, hb⟩
  · obtain ⟨x, s, c, t, hx, _, hc, hs, _⟩ := ha i hi
    obtain ⟨y, s', c', t', hy, _, hc', hs', _⟩ := ha j hj
    have hd := List.all_eq_true.1 (List.all_eq_true.1 reasons_apart i (List.mem_range.2 hi)) j (List.mem_range.2 hj)
    rw [e, hc'] at hc
    have es : s' = s := by simpa using hc
    rw [hx, hy] at hd
    simp only [Option.map_some, Bool.or_eq_true, beq_iff_eq, bne_iff_ne, ne_eq, Option.some.injEq] at hd
    rcases hd with hd | hd
    · exact hij hd
    · exact hd (by rw [← hs, ← hs', es])
  · obtain ⟨x, s, c, t, hx, _, hc, hs, _⟩ := ha k hk
    have hd := List.all_eq_true.1 reasons_sizes x (List.mem_of_getElem? hx)
    simp only [Bool.and_eq_true, bne_iff_ne, ne_eq, decide_eq_true_eq] at hd
    have e : s.size = x.2.length := by rw [← hs]; exact Array.length_toList.symm
    exact ⟨s, hc, by rw [e]; exact hd.1, by rw [e]; exact hd.2⟩
end Go.Proofs.YtdidjdoifpfmmaaDoor
