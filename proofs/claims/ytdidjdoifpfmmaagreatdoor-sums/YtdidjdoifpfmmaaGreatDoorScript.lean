import Derived.Test.YtdidjdoifpfmmaaGreatDoorPlays
import Derived.Deep.Slices
import Derived.ProofKit
import Derived.OpenShut
/- A script that comes in, opened: the argument of every statement over steps. -/
namespace Go.Proofs.YtdidjdoifpfmmaaGreatDoor
open Go.RowKit Go.Deep Go.ChangeShapes Go.WideShapes

theorem cellsOp : Tryz.prog.cellsOf 67 = 6 := by kernel_rfl
theorem cellsInt : Tryz.prog.cellsOf 3 = 1 := by kernel_rfl
theorem cellsStr : Tryz.prog.cellsOf 9 = 1 := by kernel_rfl

theorem six_of {α : Type} (l : List α) (h : l.length = 6) : ∃ a b c d e f, l = [a, b, c, d, e, f] := by
  match l, h with
  | [a, b, c, d, e, f], _ => exact ⟨a, b, c, d, e, f, rfl⟩

/-- How a step reads. -/
def OpR.datum {H : Type} (o : OpR) : DataW H := .agg [.lit (.int .i64 o.kind), .lit (.int .i64 o.a), .lit (.int .i64 o.b), .lit (.int .i64 o.d), .lit (.string o.s.data.toList), .lit (.string o.t.data.toList)]
theorem weightsAll_mem {H : Type} {e : TypeId} : ∀ {l : List (DataW H)} {d : DataW H} {n : Nat}, d ∈ l → n ∈ d.weights Tryz.prog e → n ∈ DataW.weightsAll Tryz.prog e l
  | x :: l, d, n, hd, hn => by
    simp only [DataW.weightsAll, List.mem_append]
    rcases List.mem_cons.1 hd with rfl | hd
    · exact Or.inl hn
    · exact Or.inr (weightsAll_mem hd hn)
theorem datum_sizes {H : Type} (o : OpR) : o.s.size ∈ (OpR.datum (H := H) o).weights Tryz.prog 67 ∧ o.t.size ∈ (OpR.datum (H := H) o).weights Tryz.prog 67 := by
  simp only [OpR.datum, DataW.weights, Tryz.underlying67]
  simp [DataW.weightsEach, DataW.weights]

section
variable {H : Type} {enc : TypeId × Value → H} {W : World} {base : Nat} {spare : Nat → Bool} {held : Bool}

theorem trod_struct6 {t : TypeId} {f0 f1 f2 f3 f4 f5 : Field} {fuel : Nat} {cs : List Value} {x : DataW H × List MemPlace} (ht : Tryz.prog.underlying t = some (.struct #[f0, f1, f2, f3, f4, f5])) (h : DataW.trod enc Tryz.prog W base spare held fuel t cs = some x) :
    ∃ y0 y1 y2 y3 y4 y5 n, x.1 = .agg [y0.1, y1.1, y2.1, y3.1, y4.1, y5.1] ∧ cs.length = Tryz.prog.cellsOf t ∧ DataW.trod enc Tryz.prog W base spare held n f0.type ((cs.drop f0.offset).take (Tryz.prog.cellsOf f0.type)) = some y0 ∧ DataW.trod enc Tryz.prog W base spare held n f1.type ((cs.drop f1.offset).take (Tryz.prog.cellsOf f1.type)) = some y1 ∧
      DataW.trod enc Tryz.prog W base spare held n f2.type ((cs.drop f2.offset).take (Tryz.prog.cellsOf f2.type)) = some y2 ∧ DataW.trod enc Tryz.prog W base spare held n f3.type ((cs.drop f3.offset).take (Tryz.prog.cellsOf f3.type)) = some y3 ∧
      DataW.trod enc Tryz.prog W base spare held n f4.type ((cs.drop f4.offset).take (Tryz.prog.cellsOf f4.type)) = some y4 ∧ DataW.trod enc Tryz.prog W base spare held n f5.type ((cs.drop f5.offset).take (Tryz.prog.cellsOf f5.type)) = some y5 := by
  obtain ⟨xs, n, _, hx, hl, hlen, hf⟩ := DataW.trod_struct ht h
  obtain ⟨y0, y1, y2, y3, y4, y5, rfl⟩ := six_of xs hlen
  exact ⟨y0, y1, y2, y3, y4, y5, n, by rw [hx]; rfl, hl, by simpa using hf 0 f0 rfl, by simpa using hf 1 f1 rfl, by simpa using hf 2 f2 rfl, by simpa using hf 3 f3 rfl, by simpa using hf 4 f4 rfl, by simpa using hf 5 f5 rfl⟩

/-- Its numbers are ints. -/
def OpR.Fit (o : OpR) : Prop := (-9223372036854775808 ≤ o.kind ∧ o.kind ≤ 9223372036854775807) ∧ (-9223372036854775808 ≤ o.a ∧ o.a ≤ 9223372036854775807) ∧ (-9223372036854775808 ≤ o.b ∧ o.b ≤ 9223372036854775807) ∧ (-9223372036854775808 ≤ o.d ∧ o.d ≤ 9223372036854775807)
theorem int_wf {n : Int} (h : (Lit.int .i64 n).wf = true) : -9223372036854775808 ≤ n ∧ n ≤ 9223372036854775807 := by
  simpa [Lit.wf, IntKind.min, IntKind.max, IntKind.signed, IntKind.bits] using h
theorem op_of_trod {n : Nat} {cs : List Value} {x : DataW H × List MemPlace} (h : DataW.trod enc Tryz.prog W base spare held n 67 cs = some x) :
    ∃ o : OpR, cs = o.vals ∧ x.1 = o.datum ∧ o.Fit := by
  obtain ⟨y0, y1, y2, y3, y4, y5, m, hx, hl, h0, h1, h2, h3, h4, h5⟩ := trod_struct6 Tryz.underlying67 h
  rw [cellsOp] at hl
  obtain ⟨c0, c1, c2, c3, c4, c5, rfl⟩ := six_of cs hl
  simp only [cellsInt, cellsStr, List.drop_zero, List.drop_succ_cons, List.take_succ_cons, List.take_zero] at h0 h1 h2 h3 h4 h5
  obtain ⟨n0, e0, rfl, q0⟩ := DataW.trod_int Tryz.underlying3 h0
  obtain ⟨n1, e1, rfl, q1⟩ := DataW.trod_int Tryz.underlying3 h1
  obtain ⟨n2, e2, rfl, q2⟩ := DataW.trod_int Tryz.underlying3 h2
  obtain ⟨n3, e3, rfl, q3⟩ := DataW.trod_int Tryz.underlying3 h3
  obtain ⟨s4, e4, rfl, _⟩ := DataW.trod_string Tryz.underlying9 h4
  obtain ⟨s5, e5, rfl, _⟩ := DataW.trod_string Tryz.underlying9 h5
  simp only [List.cons.injEq, and_true] at e0 e1 e2 e3 e4 e5
  subst e0 e1 e2 e3 e4 e5
  exact ⟨⟨n0, n1, n2, n3, s4, s5⟩, rfl, hx, int_wf q0, int_wf q1, int_wf q2, int_wf q3⟩

instance : Inhabited OpR := ⟨⟨0, 0, 0, 0, ByteArray.empty, ByteArray.empty⟩⟩

/-- A script that came in. -/
theorem script_of_trod {fuel : Nat} {v : Value} {x : DataW H × List MemPlace} (h : DataW.trod enc Tryz.prog W base spare held fuel 22 [v] = some x) :
    ∃ (ops : List OpR) (a0 : Option Addr) (b off cap : Nat), v = .slice a0 ops.length cap ∧ (0 < ops.length → a0 = some ⟨b, off, none⟩) ∧ ScriptAt W b off ops ∧ (0 < ops.length → b < W.heap.size) ∧ ops.length ≤ maxLen ∧ (ops = [] ∨ ∃ sp, x.1 = .slice (ops.map OpR.datum) sp) ∧ (∀ o ∈ ops, o.Fit) := by
  rcases open_slice Tryz.underlying22 h with ⟨hc, _⟩ | ⟨a, len, cap, m, n, D, Pl, hc, _, hl, hcm, hm, hxd, hx⟩
  · simp only [List.cons.injEq, and_true] at hc
    subst hc
    exact ⟨[], none, 0, 0, 0, rfl, fun h => absurd h (by decide), fun i o hi => by simp at hi, fun h => absurd h (by decide), by decide, Or.inl rfl, fun o ho => by simp at ho⟩
  · simp only [List.cons.injEq, and_true] at hc
    subst hc
    have hlm : len ≤ m := by rw [hm]; split <;> omega
    rw [cellsOp] at hx
    obtain ⟨F, hF⟩ := choose_lt (α := OpR) (n := len) (p := fun i o => (∀ j v, o.vals[j]? = some v → W.cell? (a.add (i * 6 + j)) = some v) ∧ D i = o.datum ∧ o.Fit) (fun i hi => by
      obtain ⟨cs', h1, h2⟩ := hx i (by omega)
      obtain ⟨_, hlen, hcell⟩ := World.cells?_some h1
      obtain ⟨o, rfl, hdat, hfit⟩ := op_of_trod h2
      refine ⟨o, fun j v hj => ?_, hdat, hfit⟩
      have hj6 : j < 6 := by
        rcases Nat.lt_or_ge j 6 with h | h
        · exact h
        · rw [List.getElem?_eq_none (by rw [hlen]; exact h)] at hj; cases hj
      rw [← add_add, hcell j hj6, hj])
    have hlen : ((List.range len).map F).length = len := by simp
    have hget : ∀ i o, ((List.range len).map F)[i]? = some o → i < len ∧ o = F i := by
      intro i o hi
      rcases Nat.lt_or_ge i len with h | h
      · simp [h] at hi; exact ⟨h, hi.symm⟩
      · rw [List.getElem?_eq_none (by simpa using h)] at hi; cases hi
    have hspot : 0 < len → a = ⟨a.block, a.off, none⟩ := fun h0 => by
      have := World.cell?_spot ((hF 0 h0).1 0 _ rfl)
      simp [Addr.add] at this
      cases a
      simp_all
    refine ⟨(List.range len).map F, some a, a.block, a.off, cap, by rw [hlen], fun h0 => by rw [hlen] at h0; exact congrArg some (hspot h0), ?_, ?_, by rw [hlen]; omega, Or.inr ⟨(List.range (m - len)).map fun j => D (len + j), ?_⟩, ?_⟩
    · intro i o hi j v hj
      obtain ⟨hi', rfl⟩ := hget i o hi
      have h := (hF i hi').1 j v hj
      rw [hspot (by omega), add_plain] at h
      rw [Nat.add_assoc]; exact h
    · intro h0
      rw [hlen] at h0
      have h := (hF 0 h0).1 0 _ rfl
      have := lt_of_cell h
      simpa [Addr.add] using this
    · rw [hxd]
      show DataW.slice _ _ = DataW.slice _ _
      congr 1
      rw [List.map_map]
      apply List.map_congr_left
      intro i hi
      exact (hF i (by simpa using hi)).2.1
    · intro o ho
      obtain ⟨i, hi, rfl⟩ := List.mem_map.1 ho
      exact (hF i (by simpa using hi)).2.2

/-- The reach, of a script's texts. -/
theorem script_sizes {ts : List TypeId} {ds : List (DataW H)} {d : DataW H} {ops : List OpR} {sp : List (DataW H)} (h : (DataW.weightsEach Tryz.prog (22 :: ts) (d :: ds)).all (· ≤ reachBytes) = true) (hd : d = .slice (ops.map OpR.datum) sp) :
    ∀ o ∈ ops, o.s.size ≤ 140737488351232 ∧ o.t.size ≤ 140737488351232 := by
  intro o ho
  have key : ∀ n, n ∈ (OpR.datum (H := H) o).weights Tryz.prog 67 → n ≤ 140737488351232 := by
    intro n hn
    have hm : n ∈ d.weights Tryz.prog 22 := by
      rw [hd]
      simp only [DataW.weights, Tryz.underlying22]
      exact List.mem_cons_of_mem _ (List.mem_append_left _ (weightsAll_mem (List.mem_map_of_mem ho) hn))
    have := List.all_eq_true.1 h n (DataW.weights_mem_each (j := 0) rfl rfl n hm)
    have e : reachBytes = 140737488351232 := by decide
    simp only [decide_eq_true_eq] at this
    omega
  exact ⟨key _ (datum_sizes o).1, key _ (datum_sizes o).2⟩
end
end Go.Proofs.YtdidjdoifpfmmaaGreatDoor
