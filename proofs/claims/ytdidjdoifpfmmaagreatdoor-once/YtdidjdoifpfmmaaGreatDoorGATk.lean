import Derived.Test.YtdidjdoifpfmmaaGreatDoorProg
import Derived.WalkKit
import Derived.WalkLawsBesides
import Derived.Laws.Rows
import Derived.WalkSmall
import Derived.Deep.RegionWith
import Derived.Deep.RegionHeld3
set_option maxRecDepth 100000
set_option maxHeartbeats 16000000
namespace Go.Proofs.YtdidjdoifpfmmaaGreatDoor
open Go.Proofs.Tryz List
section
open Go.RowKit
abbrev Za (b o : Nat) : Addr := ⟨b, o, none⟩
abbrev Zs (b : Nat) : Option Addr := some ⟨b, 0, none⟩
abbrev Zp (b : Nat) : Value := .pointer (some ⟨b, 0, none⟩)
abbrev Zy : Type := ByteArray
abbrev Zi (n : Nat) : Value := .int .i64 (n : Nat)
abbrev Zc (f : FuncId) (x : Array Value) (w : World) (R : Ending -> World -> Prop) : Prop := Calls prog f x w R
theorem Zm {α : Type} {a b : α} : a ∈ [b] ↔ a = b := mem_singleton
theorem Zd {w : World} {a : Addr} {v : Value} (h : w.cell? a = some v) : a.block < w.heap.size := World.block_lt_of_cell? _ _ h
theorem Zn {n : Nat} : n <= n := Nat.le_refl n
theorem Zo {α : Type} {a : α} {o : Option α} : a ∈ o.toList ↔ o = some a := Option.mem_toList
theorem Zr {n : Nat} {w : World} : Below n w w := Below.refl n w
theorem Zg {α : Type} {l : List α} {i : Nat} (h : i < l.length) : l[i] ∈ l := getElem_mem h
theorem lA {α : Type} {l : List α} {i : Nat} {a : α} : l.toArray.setIfInBounds i a = (l.set i a).toArray := by simp
theorem lZ {α : Type} {a b : α} {l : List α} : (b :: l).set 0 a = a :: l := rfl
theorem lS {α : Type} {a b : α} {n : Nat} {l : List α} : (b :: l).set (n + 1) a = b :: l.set n a := rfl
theorem Zt {P : Program} {md : Region.Mode} {ops : Array Oper} {Q : Exit -> Act -> World -> Prop} {S : World -> Prop} (i : Nat) (v : Value) {oi : Oper} {fuel : Nat} {listed : Array Bool} {a a' : Act} {w : World} (h : wpAnyH P md ops Q S fuel (listed.setIfInBounds i true) a' w) (hi : ops[i]? = some oi := by (simp only [getElem?_toArray, getElem?_cons_zero, getElem?_cons_succ]; rfl))
    (hs : Region.noSelect ops = true := by kernel_rfl) (hf : Region.free md ops listed i = true := by kernel_rfl) (hr : (Region.ready md ops listed).contains i = true := by kernel_rfl)
    (hQ : ∀ c a w, Q (.panic c) (a.put oi.dst v) w -> Q (.panic c) a w := by exact fun _ _ _ h => h) (hy : YieldsIf P ops S oi v a := by exact Or.inl ⟨by rfl, by intro w hSw; (try dsimp only at hSw); go_simp⟩) (hS : S w := by assumption)
    (ha : a.put oi.dst v = a' := by (simp only [Act.put, setIfInBounds_toArray, set_cons_zero, set_cons_succ]; rfl)) : wpAnyH P md ops Q S (fuel + 1) listed a w := by
  subst ha
  exact wpAnyH_take hi hs hf hr hQ hy hS h
theorem Zu {P : Program} {md : Region.Mode} {ops : Array Oper} {Q : Exit -> Act -> World -> Prop} {S : World -> Prop} (i : Nat) {oi : Oper} {fuel : Nat} {listed : Array Bool} {a a' : Act} {w : World} (h : wpAnyH P md ops Q S fuel (listed.setIfInBounds i true) a' w) (hi : ops[i]? = some oi := by (simp only [getElem?_toArray, getElem?_cons_zero, getElem?_cons_succ]; rfl))
    (hs : Region.noSelect ops = true := by kernel_rfl) (hf : Region.free md ops listed i = true := by kernel_rfl) (hr : (Region.ready md ops listed).contains i = true := by kernel_rfl)
    (hQ : ∀ c a w, Q (.panic c) (a.put oi.dst undef) w -> Q (.panic c) a w := by exact fun _ _ _ h => h) (hy : YieldsIf P ops S oi undef a := by exact Or.inr ⟨by rfl, rfl⟩) (hS : S w := by assumption)
    (ha : a.put oi.dst undef = a' := by (simp only [Act.put, setIfInBounds_toArray, set_cons_zero, set_cons_succ]; rfl)) : wpAnyH P md ops Q S (fuel + 1) listed a w := by
  subst ha
  exact wpAnyH_take hi hs hf hr hQ hy hS h
theorem Zv {P : Program} {md : Region.Mode} {ops : Array Oper} {Q : Exit -> Act -> World -> Prop} (i : Nat) (v : Value) {oi : Oper} {fuel : Nat} {listed : Array Bool} {a a' : Act} {w : World} (h : wpAny P md ops Q fuel (listed.setIfInBounds i true) a' w) (hi : ops[i]? = some oi := by (simp only [getElem?_toArray, getElem?_cons_zero, getElem?_cons_succ]; rfl))
    (hs : Region.noSelect ops = true := by kernel_rfl) (hf : Region.free md ops listed i = true := by kernel_rfl) (hr : (Region.ready md ops listed).contains i = true := by kernel_rfl)
    (hQ : ∀ c a w, Q (.panic c) (a.put oi.dst v) w -> Q (.panic c) a w := by exact fun _ _ _ h => h) (hy : Yields P ops oi v a := by exact Or.inl ⟨by rfl, by intro w; go_simp⟩)
    (ha : a.put oi.dst v = a' := by (simp only [Act.put, setIfInBounds_toArray, set_cons_zero, set_cons_succ]; rfl)) : wpAny P md ops Q (fuel + 1) listed a w := by
  subst ha
  exact wpAny_take hi hs hf hr hQ hy h
section
variable {P : Program} {md : Region.Mode} {ops : Array Oper} {Q : Exit -> Act -> World -> Prop} {S : World -> Prop} {fuel : Nat} {listed : Array Bool} {a : Act} {w : World}
theorem Zw (rs : List Nat) (h : AllReadyH P md ops Q S fuel listed a w rs) (hr : Region.ready md ops listed = rs := by kernel_rfl) (hne : rs ≠ [] := by simp) : wpAnyH P md ops Q S (fuel + 1) listed a w := wpAnyH_ready hr hne h
theorem Zx (h : Q .normal a w) (hr : Region.ready md ops listed = [] := by kernel_rfl) : wpAnyH P md ops Q S fuel listed a w := wpAnyH_done hr h _
theorem Zb {i : Nat} {o : Oper} {rs : List Nat} (h : ∀ K' : Act -> World -> Prop, Shut (∀ a w, S w -> (S w -> wpAnyH P md ops Q S fuel (listed.setIfInBounds i true) a w) -> K' a w) -> if Region.wanted o (yielded ops a.tmps) = true then Oper.wp P o a w K' Q else K' (a.put o.dst undef) w) (t : AllReadyH P md ops Q S fuel listed a w rs) (ho : ops[i]? = some o := by (simp only [getElem?_toArray, getElem?_cons_zero, getElem?_cons_succ]; rfl)) : AllReadyH P md ops Q S fuel listed a w (i :: rs) := AllReadyH.cons ho h t
theorem Ze {i : Nat} {o : Oper} (h : ∀ K' : Act -> World -> Prop, Shut (∀ a w, S w -> (S w -> wpAnyH P md ops Q S fuel (listed.setIfInBounds i true) a w) -> K' a w) -> if Region.wanted o (yielded ops a.tmps) = true then Oper.wp P o a w K' Q else K' (a.put o.dst undef) w) (ho : ops[i]? = some o := by (simp only [getElem?_toArray, getElem?_cons_zero, getElem?_cons_succ]; rfl)) : AllReadyH P md ops Q S fuel listed a w [i] := AllReadyH.cons ho h AllReadyH.nil
theorem Zh (i : Nat) {o : Oper} (h : ∀ K' : Act -> World -> Prop, Shut (∀ a w, S w -> (S w -> wpAnyH P md ops Q S fuel (listed.setIfInBounds i true) a w) -> K' a w) -> if Region.wanted o (yielded ops a.tmps) = true then Oper.wp P o a w K' Q else K' (a.put o.dst undef) w) (hr : Region.ready md ops listed = [i] := by kernel_rfl) (ho : ops[i]? = some o := by (simp only [getElem?_toArray, getElem?_cons_zero, getElem?_cons_succ]; rfl)) : wpAnyH P md ops Q S (fuel + 1) listed a w := wpAnyH_ready hr (by simp) (AllReadyH.cons ho h AllReadyH.nil)
end
end
end Go.Proofs.YtdidjdoifpfmmaaGreatDoor
