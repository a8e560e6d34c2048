import Derived.Test.YtdidjdoifpfmmaaGreatDoorGT19
import Derived.Test.YtdidjdoifpfmmaaGreatDoorGT29
import Derived.Test.YtdidjdoifpfmmaaGreatDoorTreeStep
import Derived.Test.YtdidjdoifpfmmaaGreatDoorGT3
/- A step of a script: the calls of a tree that is there. -/
namespace Go.Proofs.YtdidjdoifpfmmaaGreatDoor
open Go.RowKit
set_option maxRecDepth 100000 in
set_option maxHeartbeats 1600000 in
theorem step_tree {w : World} (o : OpR) (hk : o.kind = 14 ∨ o.kind = 15 ∨ o.kind = 16) (hd : -9223372036854775808 ≤ o.d ∧ o.d ≤ 9223372036854775807) (p ga n ca : Nat) (hn : 0 < n) (hn2 : n ≤ 1000000)
    (c2 : w.cell? ⟨p, 2, none⟩ = some (.slice (some ⟨ga, 0, none⟩) n ca)) (x y : Addr) (ca2 : w.cell? ⟨ga, pickOf o.d n * 4 + 2, none⟩ = some (.pointer (some x))) (ca3 : w.cell? ⟨ga, pickOf o.d n * 4 + 3, none⟩ = some (.pointer (some y))) (Post : World → Prop)
    (hD : ∀ w1, Below w.heap.size w w1 → Calls Tryz.prog 74 #[.pointer (some ⟨p, 0, none⟩), .pointer (some ⟨ga, pickOf o.d n * 4, none⟩), OpR.agg o] w1 fun e w' => e = .returned (.bool true) ∧ Post w') :
    Calls Tryz.prog 41 #[.pointer (some ⟨p, 0, none⟩), OpR.agg o] w fun e w' => e = .returned (.bool true) ∧ Post w' := by
  unfold OpR.agg at hD ⊢
  obtain ⟨k, a, b, d, s, t⟩ := o
  simp only at hk hd hD ca2 ca3 ⊢
  have lp : p < w.heap.size := World.block_lt_of_cell? w _ c2
  have lg : ga < w.heap.size := World.block_lt_of_cell? w _ ca2
  have hp := fun w1 => pick_any d n hn hn2 hd w1
  have hpl := pickOf_lt d n hn
  generalize pickOf d n = j at *
  have j0 : (0 : Int) ≤ (j : Int) := by omega
  have j1 : (j : Int) < (n : Int) := by omega
  have HD : Hid _ := hD
  have HP : Hid _ := hp
  clear hD hp
  rcases hk with rfl | rfl | rfl
  all_goals go_enter Tryz.func41, Tryz.ntmps41
  all_goals go_wp2
  all_goals go_region_held3 (fun w' => w'.cell? ⟨p, 2, none⟩ = some (.slice (some ⟨ga, 0, none⟩) n ca) ∧ w'.cell? ⟨w.heap.size, 3, none⟩ = some (.int .i64 d)) ((go_split_ands; refine ⟨by go_keep, by go_keep⟩))
    ((go_at_call 71; refine (HP.out _).mono ?_; rintro e w2 ⟨rfl, rfl⟩))
  all_goals go_wp2_with (go_at_call 74; refine (HD.out _ ((below_box w _).drew)).mono ?_; rintro e w3 ⟨rfl, h3⟩)
  all_goals go_ret
  all_goals exact ⟨rfl, h3⟩
set_option maxRecDepth 100000 in
set_option maxHeartbeats 1600000 in
theorem step_told {w : World} (o : OpR) (hk : o.kind = 19 ∨ o.kind = 20) (hd : -9223372036854775808 ≤ o.d ∧ o.d ≤ 9223372036854775807) (p ga n ca : Nat) (hn : 0 < n) (hn2 : n ≤ 1000000)
    (c2 : w.cell? ⟨p, 2, none⟩ = some (.slice (some ⟨ga, 0, none⟩) n ca)) (x y : Addr) (ca2 : w.cell? ⟨ga, pickOf o.d n * 4 + 2, none⟩ = some (.pointer (some x))) (ca3 : w.cell? ⟨ga, pickOf o.d n * 4 + 3, none⟩ = some (.pointer (some y))) (Post : World → Prop)
    (hD : ∀ w1, Below w.heap.size w w1 → Calls Tryz.prog 76 #[.pointer (some ⟨p, 0, none⟩), .pointer (some ⟨ga, pickOf o.d n * 4, none⟩), OpR.agg o] w1 fun e w' => e = .returned (.bool true) ∧ Post w') :
    Calls Tryz.prog 41 #[.pointer (some ⟨p, 0, none⟩), OpR.agg o] w fun e w' => e = .returned (.bool true) ∧ Post w' := by
  unfold OpR.agg at hD ⊢
  obtain ⟨k, a, b, d, s, t⟩ := o
  simp only at hk hd hD ca2 ca3 ⊢
  have lp : p < w.heap.size := World.block_lt_of_cell? w _ c2
  have lg : ga < w.heap.size := World.block_lt_of_cell? w _ ca2
  have hp := fun w1 => pick_any d n hn hn2 hd w1
  have hpl := pickOf_lt d n hn
  generalize pickOf d n = j at *
  have j0 : (0 : Int) ≤ (j : Int) := by omega
  have j1 : (j : Int) < (n : Int) := by omega
  have HD : Hid _ := hD
  have HP : Hid _ := hp
  clear hD hp
  rcases hk with rfl | rfl
  all_goals go_enter Tryz.func41, Tryz.ntmps41
  all_goals go_wp2
  all_goals go_region_held3 (fun w' => w'.cell? ⟨p, 2, none⟩ = some (.slice (some ⟨ga, 0, none⟩) n ca) ∧ w'.cell? ⟨w.heap.size, 3, none⟩ = some (.int .i64 d)) ((go_split_ands; refine ⟨by go_keep, by go_keep⟩))
    ((go_at_call 71; refine (HP.out _).mono ?_; rintro e w2 ⟨rfl, rfl⟩))
  all_goals go_wp2_with (go_at_call 76; refine (HD.out _ ((below_box w _).drew)).mono ?_; rintro e w3 ⟨rfl, h3⟩)
  all_goals go_ret
  all_goals exact ⟨rfl, h3⟩
end Go.Proofs.YtdidjdoifpfmmaaGreatDoor
/- What holds between the steps of a script of trees. -/
namespace Go.Proofs.YtdidjdoifpfmmaaGreatDoor
open Go.RowKit
def lawRow (mq : Nat) (av : Value) (left : Int) : List Value := [.pointer (some ⟨mq, 0, none⟩), .slice none 0 0, av, .slice none 0 0, .int .i64 0, .int .i64 left]
def lawP (p mq : Nat) (av : Value) (left : Int) : Part := rowP p 73 (lawRow mq av left)
def pairP (av : Value) (xs : List TItem) : Part := ownP 142 4 av xs.length (xs.flatMap TItem.cells)
structure TInv (k : Nat) (w0 w : World) (mq : Nat) (av : Value) (xs : List TItem) (left : Int) : Prop where
  hold : Hold w0.heap.size w (lawP w0.heap.size mq av left :: pairP av xs :: xs.flatMap (TItem.parts mq))
  ok : ∀ x ∈ xs, x.Ok
  few : xs.length ≤ k
  l0 : -5000 ≤ left
  l1 : left ≤ 262144
theorem TInv.below {k : Nat} {w0 w w' : World} {mq : Nat} {av : Value} {xs : List TItem} {left : Int} (h : TInv k w0 w mq av xs left) (hb : Below w.heap.size w w') : TInv k w0 w' mq av xs left := ⟨h.hold.below hb, h.ok, h.few, h.l0, h.l1⟩
theorem TInv.more {k : Nat} {w0 w : World} {mq : Nat} {av : Value} {xs : List TItem} {left : Int} (h : TInv k w0 w mq av xs left) : TInv (k + 1) w0 w mq av xs left := ⟨h.hold, h.ok, Nat.le_succ_of_le h.few, h.l0, h.l1⟩
theorem TInv.row {k : Nat} {w0 w : World} {mq : Nat} {av : Value} {xs : List TItem} {left : Int} (h : TInv k w0 w mq av xs left) : RowIs w w0.heap.size 73 (lawRow mq av left) := h.hold.at_ (lawP w0.heap.size mq av left) List.mem_cons_self
theorem TInv.own {k : Nat} {w0 w : World} {mq : Nat} {av : Value} {xs : List TItem} {left : Int} (h : TInv k w0 w mq av xs left) : w.ownsRow 0 142 4 av xs.length (xs.flatMap TItem.cells) := h.hold.at_ (pairP av xs) (List.mem_cons_of_mem _ List.mem_cons_self)
theorem split_at {α : Type} {xs : List α} {j : Nat} {x : α} (h : xs[j]? = some x) : ∃ us vs, xs = us ++ x :: vs ∧ us.length = j := by
  obtain ⟨hj, e⟩ := List.getElem?_eq_some_iff.1 h
  refine ⟨xs.take j, xs.drop (j + 1), ?_, by rw [List.length_take]; omega⟩
  rw [← e, ← List.drop_eq_getElem_cons hj, List.take_append_drop]
theorem perm2 {R O : Part} {mq : Nat} {x : TItem} {us vs : List TItem} : (R :: O :: (us ++ x :: vs).flatMap (TItem.parts mq)).Perm (([R] ++ x.parts mq) ++ (O :: (us.flatMap (TItem.parts mq) ++ vs.flatMap (TItem.parts mq)))) := by
  rw [List.flatMap_append, List.flatMap_cons, List.append_assoc]
  refine List.Perm.cons R ?_
  exact List.perm_append_comm_assoc (O :: us.flatMap (TItem.parts mq)) (x.parts mq) (vs.flatMap (TItem.parts mq))
theorem perm3 {R O : Part} {mq : Nat} {x : TItem} {us vs : List TItem} : (R :: O :: (us ++ x :: vs).flatMap (TItem.parts mq)).Perm (([R, O] ++ x.parts mq) ++ (us.flatMap (TItem.parts mq) ++ vs.flatMap (TItem.parts mq))) := by
  rw [List.flatMap_append, List.flatMap_cons, List.append_assoc]
  refine List.Perm.cons R (List.Perm.cons O ?_)
  exact List.perm_append_comm_assoc (us.flatMap (TItem.parts mq)) (x.parts mq) (vs.flatMap (TItem.parts mq))
theorem cells_four (x : TItem) : x.cells.length = 4 := rfl
theorem flat_at {us vs : List TItem} {x : TItem} (r : Nat) (hr : r < 4) : ((us ++ x :: vs).flatMap TItem.cells)[us.length * 4 + r]? = x.cells[r]? := by
  have hl : (us.flatMap TItem.cells).length = us.length * 4 := flat_length _ 4 us fun _ _ => rfl
  rw [List.flatMap_append, List.flatMap_cons, List.getElem?_append_right (by omega), hl, Nat.add_sub_cancel_left, List.getElem?_append_left (by rw [cells_four]; exact hr)]
/-- The cells of a pair. -/
theorem pair_at {w : World} {ga ca : Nat} {us vs : List TItem} {x : TItem} (h : w.ownsRow 0 142 4 (.slice (some ⟨ga, 0, none⟩) (us ++ x :: vs).length ca) (us ++ x :: vs).length ((us ++ x :: vs).flatMap TItem.cells)) :
    w.cell? ⟨ga, us.length * 4, none⟩ = some (.pointer (some ⟨x.d.p, 0, none⟩)) ∧ w.cell? ⟨ga, us.length * 4 + 1, none⟩ = some (.pointer (some ⟨x.r.q, 0, none⟩)) ∧ w.cell? ⟨ga, us.length * 4 + 2, none⟩ = some (.pointer x.pa) ∧ w.cell? ⟨ga, us.length * 4 + 3, none⟩ = some (.pointer x.pb) := by
  obtain ⟨hh, _, _⟩ := has_of_owns h
  have hl : ((us ++ x :: vs).flatMap TItem.cells).length = (us ++ x :: vs).length * 4 := flat_length _ 4 _ fun _ _ => rfl
  have hlt : ∀ r, r < 4 → us.length * 4 + r < ((us ++ x :: vs).flatMap TItem.cells).length := fun r hr => by rw [hl]; simp; omega
  refine ⟨?_, ?_, ?_, ?_⟩
  · have := (hh.cell _ (hlt 0 (by decide))).trans (flat_at 0 (by decide)); exact this
  · have := (hh.cell _ (hlt 1 (by decide))).trans (flat_at 1 (by decide)); exact this
  · have := (hh.cell _ (hlt 2 (by decide))).trans (flat_at 2 (by decide)); exact this
  · have := (hh.cell _ (hlt 3 (by decide))).trans (flat_at 3 (by decide)); exact this
/-- Other archives in a pair. -/
theorem pairs_set {us vs : List TItem} {x x' : TItem} (hd : x'.d.p = x.d.p) (hr : x'.r.q = x.r.q) : (((us ++ x :: vs).flatMap TItem.cells).set (us.length * 4 + 2) (.pointer x'.pa)).set (us.length * 4 + 3) (.pointer x'.pb) = (us ++ x' :: vs).flatMap TItem.cells := by
  have hl : (us.flatMap TItem.cells).length = us.length * 4 := flat_length _ 4 us fun _ _ => rfl
  rw [List.flatMap_append, List.flatMap_append, List.flatMap_cons, List.flatMap_cons, ← hl, List.set_append, if_neg (by omega), List.set_append, if_neg (by omega), Nat.add_sub_cancel_left, Nat.add_sub_cancel_left]
  unfold TItem.cells
  rw [hd, hr]
  rfl
/-- The row of the script, and one item, have changed. -/
theorem hold_gen {w0 w w' : World} {mq : Nat} {av : Value} {O : Part} {us vs : List TItem} {x x' : TItem} {left left' : Int} (_hB : w0.heap.size ≤ w.heap.size) (h : Hold w0.heap.size w (lawP w0.heap.size mq av left :: O :: (us ++ x :: vs).flatMap (TItem.parts mq)))
    (hx' : Hold w0.heap.size w' (x'.parts mq)) (hsub : ∀ b ∈ allB (x'.parts mq), b ∈ allB (x.parts mq) ∨ w.heap.size ≤ b) (f : Fr w w' (w0.heap.size :: allB (x.parts mq))) (hrow : RowIs w' w0.heap.size 73 (lawRow mq av left')) :
    Hold w0.heap.size w' (lawP w0.heap.size mq av left' :: O :: (us ++ x' :: vs).flatMap (TItem.parts mq)) := by
  have h1 := h.perm perm2
  have hpx : w0.heap.size ∉ allB (x.parts mq) := fun hb => Hold.disj (ps := [lawP w0.heap.size mq av left]) (qs := x.parts mq) h1.left w0.heap.size (by simp [allB, lawP, rowP]) hb
  have hp0 : w0.heap.size < w.heap.size := by
    have : RowIs w w0.heap.size 73 (lawRow mq av left) := h.at_ (lawP w0.heap.size mq av left) List.mem_cons_self
    exact this.lt
  have hh : Hold w0.heap.size w' ([lawP w0.heap.size mq av left'] ++ x'.parts mq) := by
    refine ⟨fun P hP => ?_, List.pairwise_append.2 ⟨List.pairwise_singleton _ _, hx'.apart, fun P hP Q hQ b hbP hbQ => ?_⟩, fun b hb => ?_⟩
    · rcases List.mem_append.1 hP with hP | hP
      · rw [List.mem_singleton.1 hP]; exact hrow
      · exact hx'.at_ P hP
    · rw [List.mem_singleton.1 hP] at hbP
      obtain rfl : b = w0.heap.size := List.mem_singleton.1 hbP
      rcases hsub _ (mem_allB.2 ⟨Q, hQ, hbQ⟩) with hq | hq
      · exact hpx hq
      · omega
    · rw [allB_append] at hb
      rcases List.mem_append.1 hb with hb | hb
      · have : b = w0.heap.size := by simpa [allB, lawP, rowP] using hb
        omega
      · exact hx'.far b hb
  have ea : ∀ ps : List Part, ∀ l, allB ([lawP w0.heap.size mq av l] ++ ps) = w0.heap.size :: allB ps := fun ps l => rfl
  have st : Step w0.heap.size w w' ([lawP w0.heap.size mq av left] ++ x.parts mq) ([lawP w0.heap.size mq av left'] ++ x'.parts mq) := by
    refine ⟨hh, by rw [ea]; exact f, fun b hb => ?_⟩
    rw [ea] at hb ⊢
    rcases List.mem_cons.1 hb with rfl | hb
    · exact .inl List.mem_cons_self
    · exact (hsub b hb).imp (List.mem_cons_of_mem _) id
  have e2 := (st.frame h1).hold.perm perm2.symm
  exact e2
theorem hold_two {w0 w w' : World} {mq : Nat} {av : Value} {us vs : List TItem} {x x' : TItem} {left left' : Int} (hB : w0.heap.size ≤ w.heap.size) (h : Hold w0.heap.size w (lawP w0.heap.size mq av left :: pairP av (us ++ x :: vs) :: (us ++ x :: vs).flatMap (TItem.parts mq)))
    (hx' : Hold w0.heap.size w' (x'.parts mq)) (hsub : ∀ b ∈ allB (x'.parts mq), b ∈ allB (x.parts mq) ∨ w.heap.size ≤ b) (f : Fr w w' (w0.heap.size :: allB (x.parts mq))) (hrow : RowIs w' w0.heap.size 73 (lawRow mq av left')) (hc : x'.cells = x.cells) :
    Hold w0.heap.size w' (lawP w0.heap.size mq av left' :: pairP av (us ++ x' :: vs) :: (us ++ x' :: vs).flatMap (TItem.parts mq)) := by
  have e2 := hold_gen hB h hx' hsub f hrow
  have eo : pairP av (us ++ x :: vs) = pairP av (us ++ x' :: vs) := by
    unfold pairP
    have : (us ++ x :: vs).flatMap TItem.cells = (us ++ x' :: vs).flatMap TItem.cells := by rw [List.flatMap_append, List.flatMap_append, List.flatMap_cons, List.flatMap_cons, hc]
    rw [this, show (us ++ x :: vs).length = (us ++ x' :: vs).length by simp]
  rw [← eo]
  exact e2
end Go.Proofs.YtdidjdoifpfmmaaGreatDoor
/- Every step of a script of trees. -/
namespace Go.Proofs.YtdidjdoifpfmmaaGreatDoor
open Go.RowKit
def TreesInv (_a : Nat → Addr) (w0 : World) (k : Nat) (w : World) (p : Nat) : Prop := p = w0.heap.size ∧ ∃ mq av xs left, TInv k w0 w mq av xs left
section
variable {a : Nat → Addr} {k : Nat} {w0 w : World} {mq : Nat} {av : Value} {xs : List TItem} {left : Int}
/-- What the arms ask of one item among the others. -/
structure Among (w0 w : World) (mq ga : Nat) (us vs : List TItem) (x : TItem) : Prop where
  hold : Hold w0.heap.size w (x.parts mq)
  p : w0.heap.size ∉ allB (x.parts mq)
  g : ga ∉ allB (x.parts mq)
  ne : w0.heap.size ≠ ga
theorem among_of {ga ca : Nat} {us vs : List TItem} {x : TItem} (h : TInv k w0 w mq (.slice (some ⟨ga, 0, none⟩) (us ++ x :: vs).length ca) (us ++ x :: vs) left) : Among w0 w mq ga us vs x := by
  have h1 := h.hold.perm perm3
  have h2 : Hold w0.heap.size w ([lawP w0.heap.size mq (.slice (some ⟨ga, 0, none⟩) (us ++ x :: vs).length ca) left, pairP (.slice (some ⟨ga, 0, none⟩) (us ++ x :: vs).length ca) (us ++ x :: vs)] ++ x.parts mq) := h1.left
  refine ⟨h2.right, fun hb => h2.disj w0.heap.size (by simp [allB, lawP, rowP]) hb, fun hb => h2.disj ga (by simp [allB, lawP, rowP, pairP, ownP, Value.ownBlock]) hb, fun e => ?_⟩
  have h3 := (List.pairwise_cons.1 h2.apart).1 (pairP (.slice (some ⟨ga, 0, none⟩) (us ++ x :: vs).length ca) (us ++ x :: vs)) (by simp)
  exact h3 w0.heap.size (by simp [lawP, rowP]) (by simp [pairP, ownP, Value.ownBlock, e])
theorem low_of {w' : World} {x : TItem} (hB : Below w0.heap.size w0 w) (f : Fr w w' (w0.heap.size :: allB (x.parts mq))) (h : Hold w0.heap.size w (x.parts mq)) : Below w0.heap.size w0 w' := by
  refine below_fr hB f hB.size (fun b hb => ?_)
  rcases List.mem_cons.1 hb with rfl | hb
  · exact Nat.le_refl _
  · exact h.far b hb
theorem trees_call (i : TInv k w0 w mq av xs left) (hB : Below w0.heap.size w0 w) (hS : Sents a w0) (hG : Glob a w0) (hg : 18 ≤ w0.heap.size) (hk : k ≤ 262144) (hl : 0 < left) (o : OpR) (ho : o.kind = 12 ∨ o.kind = 13 ∨ o.kind = 14 ∨ o.kind = 15 ∨ o.kind = 16 ∨ o.kind = 19 ∨ o.kind = 20) (ha : o.kind = 19 ∨ o.kind = 20 → o.a = 0) (hfit : o.Fit) (hz : o.s.size ≤ 262144 ∧ o.t.size ≤ 262144) :
    Calls Tryz.prog 41 #[.pointer (some ⟨w0.heap.size, 0, none⟩), OpR.agg o] w fun e w' => e = .returned (.bool true) ∧ TreesInv a w0 (k + 1) w' w0.heap.size ∧ Below w0.heap.size w0 w' := by
  have hN := i.few
  have hl1 := i.l1
  have hl0 := i.l0
  have c2 : w.cell? ⟨w0.heap.size, 2, none⟩ = some av := i.row.cell 2
  rcases Nat.eq_zero_or_pos xs.length with h0 | hpos
  · obtain ⟨ag, ca, hav⟩ : ∃ ag ca, av = .slice ag 0 ca := by
      rcases i.own.2 with ⟨e, e0⟩ | ⟨g', cap', cur, e, _⟩
      · exact ⟨none, 0, e⟩
      · exact ⟨_, _, by rw [e, h0]⟩
    refine (step_none2 o ho w0.heap.size ag ca (by rw [← hav]; exact c2)).mono ?_
    rintro e w' ⟨rfl, hb⟩
    exact ⟨rfl, ⟨rfl, _, _, _, _, (i.below hb).more⟩, hB.trans (hb.mono hB.size)⟩
  · obtain ⟨ga, ca, hav, _, _⟩ := i.own.form hpos
    subst hav
    have hj := pickOf_lt o.d xs.length hpos
    obtain ⟨x, hx⟩ : ∃ x, xs[pickOf o.d xs.length]? = some x := ⟨xs[pickOf o.d xs.length], List.getElem?_eq_getElem hj⟩
    obtain ⟨us, vs, hxs, hus⟩ := split_at hx
    have hxok : x.Ok := i.ok x (List.mem_of_getElem? hx)
    -- what stands behind the step's own making of memory
    have go : ∀ w1, Below w.heap.size w w1 → Base a w0 w1 ∧ TInv k w0 w1 mq (.slice (some ⟨ga, 0, none⟩) (us ++ x :: vs).length ca) (us ++ x :: vs) left ∧ Below w0.heap.size w0 w1 := fun w1 hb => by
      have hB1 : Below w0.heap.size w0 w1 := hB.trans (hb.mono hB.size)
      refine ⟨⟨hS, hG, hg, hB1⟩, ?_, hB1⟩
      rw [← hxs]
      exact i.below hb
    obtain ⟨bs0, i0, hB0⟩ := go w (Below.refl _ _)
    obtain ⟨d0, d1, d2, d3⟩ := pair_at i0.own
    -- the row of the script stays, and one item becomes another
    have fin : ∀ w1 w', Below w.heap.size w w1 → TreeTurned a w0 w1 mq x w' → TreesInv a w0 (k + 1) w' w0.heap.size ∧ Below w0.heap.size w0 w' := by
      intro w1 w' hb ht
      obtain ⟨b1, i1, hB1⟩ := go w1 hb
      obtain ⟨x', k1, k2, k3, k4, k5, k6, k7⟩ := ht
      have A := among_of i1
      have f' : Fr w1 w' (w0.heap.size :: allB (x.parts mq)) := k6.wider (fun y hy => List.mem_cons_of_mem _ hy)
      have hrow : RowIs w' w0.heap.size 73 (lawRow mq (.slice (some ⟨ga, 0, none⟩) (us ++ x :: vs).length ca) left) := k6.row i1.row A.p
      have hh := hold_two b1.size i1.hold k4 k5 f' hrow k2
      refine ⟨⟨rfl, mq, _, us ++ x' :: vs, left, ⟨hh, fun z hz => ?_, ?_, hl0, hl1⟩⟩, k7.low⟩
      · rcases List.mem_append.1 hz with hz | hz
        · exact i1.ok z (List.mem_append_left _ hz)
        · rcases List.mem_cons.1 hz with rfl | hz
          · exact k1
          · exact i1.ok z (List.mem_append_right _ (List.mem_cons_of_mem _ hz))
      · have : (us ++ x' :: vs).length = xs.length := by rw [hxs]; simp
        omega
    have stay : ∀ w1 w', Below w.heap.size w w1 → Below w1.heap.size w1 w' → TreesInv a w0 (k + 1) w' w0.heap.size ∧ Below w0.heap.size w0 w' := by
      intro w1 w' hb hb'
      obtain ⟨b1, i1, hB1⟩ := go w1 hb
      exact ⟨⟨rfl, _, _, _, _, (i1.below hb').more⟩, hB1.trans (hb'.mono hB1.size)⟩
    rcases ho with ho | ho | ho | ho | ho | ho | ho
    · refine step_disk12 o ho hfit.2.2.2 w0.heap.size ga xs.length ca hpos (by omega) c2 (fun w' => TreesInv a w0 (k + 1) w' w0.heap.size ∧ Below w0.heap.size w0 w') ?_
      intro w1 hb
      obtain ⟨b1, i1, hB1⟩ := go w1 hb
      obtain ⟨e0, e1, e2, e3⟩ := pair_at i1.own
      have A := among_of i1
      rw [← hus]
      have hm := hxok.disk.few.2.2
      refine (op_format b1 hxok A.hold o ho e0 e1 left (by omega) hl1 (i1.row.cell 5) (i1.row.frozen 5) A.ne A.p A.g (Nat.le_refl _)).mono ?_
      rintro e w' ⟨rfl, x', k1, k2, k3, k4, k5, k6, k7, k8⟩
      have hc : x'.cells = x.cells := by unfold TItem.cells TItem.pa TItem.pb; rw [k2, k3, k4]
      have hh := hold_two (left' := left - x.S.safe.length) b1.size i1.hold k5 k6 k7 (k8 _ _ i1.row) hc
      refine ⟨rfl, ⟨rfl, mq, _, us ++ x' :: vs, _, ⟨hh, fun z hz => ?_, ?_, by omega, by omega⟩⟩, low_of hB1 k7 A.hold⟩
      · rcases List.mem_append.1 hz with hz | hz
        · exact i1.ok z (List.mem_append_left _ hz)
        · rcases List.mem_cons.1 hz with rfl | hz
          · exact k1
          · exact i1.ok z (List.mem_append_right _ (List.mem_cons_of_mem _ hz))
      · have : (us ++ x' :: vs).length = xs.length := by rw [hxs]; simp
        omega
    · refine step_mount o ho hfit.2.2.2 w0.heap.size ga xs.length ca hpos (by omega) c2 (fun w' => TreesInv a w0 (k + 1) w' w0.heap.size ∧ Below w0.heap.size w0 w') ?_
      intro w1 hb
      obtain ⟨b1, i1, hB1⟩ := go w1 hb
      obtain ⟨e0, e1, e2, e3⟩ := pair_at i1.own
      have A := among_of i1
      obtain ⟨hh1, _, _⟩ := has_of_owns i1.own
      rw [← hus]
      have hm := hxok.disk.few.2.2
      refine (op_mount b1 hxok A.hold e0 e1 e2 e3 (hh1.frozen _) (hh1.frozen _) left (by omega) hl1 (i1.row.cell 0) (i1.row.cell 5) (i1.row.frozen 5) A.ne A.p A.g (Nat.le_refl _)).mono ?_
      rintro e w' ⟨rfl, x', w2, k1, k2, k3, k4, k5, k6, rfl, k8⟩
      have hg2 := hold_gen (left' := left - x.S.safe.length) b1.size i1.hold k4 k5 k6 (k8 _ _ i1.row)
      have hb2 : Below w0.heap.size w0 w2 := low_of hB1 k6 A.hold
      have ho2 : w2.ownsRow 0 142 4 (.slice (some ⟨ga, 0, none⟩) (us ++ x :: vs).length ca) (us ++ x :: vs).length ((us ++ x :: vs).flatMap TItem.cells) := hg2.at_ (pairP _ (us ++ x :: vs)) (List.mem_cons_of_mem _ List.mem_cons_self)
      obtain ⟨hh2, hc1, hc2⟩ := has_of_owns ho2
      have hh3 := (hh2.set (us.length * 4 + 2) (.pointer x'.pa)).set (us.length * 4 + 3) (.pointer x'.pb)
      rw [pairs_set k2 k3] at hh3
      have hlen : (us ++ x' :: vs).length = (us ++ x :: vs).length := by simp
      have ho3 := hh3.owns (n := (us ++ x' :: vs).length) (flat_length _ 4 _ fun _ _ => rfl) (by decide) hc2
      rw [hlen] at ho3
      have fs : Fr w2 ((w2.setCell ⟨ga, us.length * 4 + 2, none⟩ (.pointer x'.pa)).setCell ⟨ga, us.length * 4 + 3, none⟩ (.pointer x'.pb)) [ga] := ((Fr.refl _ _).setCell _ _ (.inl (by simp))).setCell _ _ (.inl (by simp))
      have hQ : (pairP (.slice (some ⟨ga, 0, none⟩) (us ++ x :: vs).length ca) (us ++ x' :: vs)).At ((w2.setCell ⟨ga, us.length * 4 + 2, none⟩ (.pointer x'.pa)).setCell ⟨ga, us.length * 4 + 3, none⟩ (.pointer x'.pb)) := by
        unfold pairP ownP
        rw [hlen]
        exact ho3
      have st := Step.at (ps := [lawP w0.heap.size mq (.slice (some ⟨ga, 0, none⟩) (us ++ x :: vs).length ca) (left - x.S.safe.length)]) (qs := (us ++ x' :: vs).flatMap (TItem.parts mq)) (P := pairP (.slice (some ⟨ga, 0, none⟩) (us ++ x :: vs).length ca) (us ++ x :: vs)) (Q := pairP (.slice (some ⟨ga, 0, none⟩) (us ++ x :: vs).length ca) (us ++ x' :: vs)) hb2.size hg2 hQ fs (fun b hb => .inl hb)
      refine ⟨rfl, ⟨rfl, mq, _, us ++ x' :: vs, _, ⟨st.hold, fun z hz => ?_, ?_, by omega, by omega⟩⟩, below_fr hb2 fs hb2.size (fun b hb => ?_)⟩
      · rcases List.mem_append.1 hz with hz | hz
        · exact i1.ok z (List.mem_append_left _ hz)
        · rcases List.mem_cons.1 hz with rfl | hz
          · exact k1
          · exact i1.ok z (List.mem_append_right _ (List.mem_cons_of_mem _ hz))
      · have : (us ++ x' :: vs).length = xs.length := by rw [hxs]; simp
        omega
      · rw [List.mem_singleton.1 hb]
        exact i1.hold.far ga (by rw [allB_cons, allB_cons]; exact List.mem_append_right _ (List.mem_append_left _ (by simp [pairP, ownP, Value.ownBlock])))
    · cases hy : x.arc with
      | none =>
        refine (step_nil o (by omega) hfit.2.2.2 w0.heap.size ga xs.length ca hpos (by omega) c2 (by rw [← hus, d2]; unfold TItem.pa; rw [hy]; rfl)).mono ?_
        rintro e w' ⟨rfl, hb⟩
        exact ⟨rfl, stay w w' (Below.refl _ _) hb⟩
      | some y =>
        have q2 : x.pa = some ⟨y.q, 0, none⟩ := by unfold TItem.pa; rw [hy]; rfl
        have q3 : x.pb = some ⟨y.bq, 0, none⟩ := by unfold TItem.pb; rw [hy]; rfl
        refine step_tree o (by omega) hfit.2.2.2 w0.heap.size ga xs.length ca hpos (by omega) c2 ⟨y.q, 0, none⟩ ⟨y.bq, 0, none⟩ (by rw [← hus, d2, q2]) (by rw [← hus, d3, q3]) (fun w' => TreesInv a w0 (k + 1) w' w0.heap.size ∧ Below w0.heap.size w0 w') ?_
        intro w1 hb
        obtain ⟨b1, i1, hB1⟩ := go w1 hb
        obtain ⟨e0, e1, e2, e3⟩ := pair_at i1.own
        rw [q2] at e2
        rw [q3] at e3
        have A := among_of i1
        rw [← hus]
        refine (op_put b1 hxok A.hold hy o ho hz.1 hz.2 e2 e3 A.g).mono ?_
        rintro e w' ⟨rfl, ht⟩
        exact ⟨rfl, fin w1 w' hb ht⟩
    · cases hy : x.arc with
      | none =>
        refine (step_nil o (by omega) hfit.2.2.2 w0.heap.size ga xs.length ca hpos (by omega) c2 (by rw [← hus, d2]; unfold TItem.pa; rw [hy]; rfl)).mono ?_
        rintro e w' ⟨rfl, hb⟩
        exact ⟨rfl, stay w w' (Below.refl _ _) hb⟩
      | some y =>
        have q2 : x.pa = some ⟨y.q, 0, none⟩ := by unfold TItem.pa; rw [hy]; rfl
        have q3 : x.pb = some ⟨y.bq, 0, none⟩ := by unfold TItem.pb; rw [hy]; rfl
        refine step_tree o (by omega) hfit.2.2.2 w0.heap.size ga xs.length ca hpos (by omega) c2 ⟨y.q, 0, none⟩ ⟨y.bq, 0, none⟩ (by rw [← hus, d2, q2]) (by rw [← hus, d3, q3]) (fun w' => TreesInv a w0 (k + 1) w' w0.heap.size ∧ Below w0.heap.size w0 w') ?_
        intro w1 hb
        obtain ⟨b1, i1, hB1⟩ := go w1 hb
        obtain ⟨e0, e1, e2, e3⟩ := pair_at i1.own
        rw [q2] at e2
        rw [q3] at e3
        have A := among_of i1
        rw [← hus]
        refine (op_mkdir b1 hxok A.hold hy o ho hz.1 e2 e3 A.g).mono ?_
        rintro e w' ⟨rfl, ht⟩
        exact ⟨rfl, fin w1 w' hb ht⟩
    · cases hy : x.arc with
      | none =>
        refine (step_nil o (by omega) hfit.2.2.2 w0.heap.size ga xs.length ca hpos (by omega) c2 (by rw [← hus, d2]; unfold TItem.pa; rw [hy]; rfl)).mono ?_
        rintro e w' ⟨rfl, hb⟩
        exact ⟨rfl, stay w w' (Below.refl _ _) hb⟩
      | some y =>
        have q2 : x.pa = some ⟨y.q, 0, none⟩ := by unfold TItem.pa; rw [hy]; rfl
        have q3 : x.pb = some ⟨y.bq, 0, none⟩ := by unfold TItem.pb; rw [hy]; rfl
        refine step_tree o (by omega) hfit.2.2.2 w0.heap.size ga xs.length ca hpos (by omega) c2 ⟨y.q, 0, none⟩ ⟨y.bq, 0, none⟩ (by rw [← hus, d2, q2]) (by rw [← hus, d3, q3]) (fun w' => TreesInv a w0 (k + 1) w' w0.heap.size ∧ Below w0.heap.size w0 w') ?_
        intro w1 hb
        obtain ⟨b1, i1, hB1⟩ := go w1 hb
        obtain ⟨e0, e1, e2, e3⟩ := pair_at i1.own
        rw [q2] at e2
        rw [q3] at e3
        have A := among_of i1
        rw [← hus]
        refine (op_remove b1 hxok A.hold hy o ho hz.1 e2 e3 A.g).mono ?_
        rintro e w' ⟨rfl, ht⟩
        exact ⟨rfl, fin w1 w' hb ht⟩
    · cases hy : x.arc with
      | none =>
        refine (step_nil o (by omega) hfit.2.2.2 w0.heap.size ga xs.length ca hpos (by omega) c2 (by rw [← hus, d2]; unfold TItem.pa; rw [hy]; rfl)).mono ?_
        rintro e w' ⟨rfl, hb⟩
        exact ⟨rfl, stay w w' (Below.refl _ _) hb⟩
      | some y =>
        have q2 : x.pa = some ⟨y.q, 0, none⟩ := by unfold TItem.pa; rw [hy]; rfl
        have q3 : x.pb = some ⟨y.bq, 0, none⟩ := by unfold TItem.pb; rw [hy]; rfl
        refine step_told o (by omega) hfit.2.2.2 w0.heap.size ga xs.length ca hpos (by omega) c2 ⟨y.q, 0, none⟩ ⟨y.bq, 0, none⟩ (by rw [← hus, d2, q2]) (by rw [← hus, d3, q3]) (fun w' => TreesInv a w0 (k + 1) w' w0.heap.size ∧ Below w0.heap.size w0 w') ?_
        intro w1 hb
        obtain ⟨b1, i1, hB1⟩ := go w1 hb
        obtain ⟨e0, e1, e2, e3⟩ := pair_at i1.own
        rw [q2] at e2
        rw [q3] at e3
        have A := among_of i1
        rw [← hus]
        refine (op_get b1 hxok A.hold hy o ho (ha (by omega)) hz.1 e2 e3).mono ?_
        rintro e w' ⟨rfl, hb'⟩
        exact ⟨rfl, stay w1 w' hb hb'⟩
    · cases hy : x.arc with
      | none =>
        refine (step_nil o (by omega) hfit.2.2.2 w0.heap.size ga xs.length ca hpos (by omega) c2 (by rw [← hus, d2]; unfold TItem.pa; rw [hy]; rfl)).mono ?_
        rintro e w' ⟨rfl, hb⟩
        exact ⟨rfl, stay w w' (Below.refl _ _) hb⟩
      | some y =>
        have q2 : x.pa = some ⟨y.q, 0, none⟩ := by unfold TItem.pa; rw [hy]; rfl
        have q3 : x.pb = some ⟨y.bq, 0, none⟩ := by unfold TItem.pb; rw [hy]; rfl
        refine step_told o (by omega) hfit.2.2.2 w0.heap.size ga xs.length ca hpos (by omega) c2 ⟨y.q, 0, none⟩ ⟨y.bq, 0, none⟩ (by rw [← hus, d2, q2]) (by rw [← hus, d3, q3]) (fun w' => TreesInv a w0 (k + 1) w' w0.heap.size ∧ Below w0.heap.size w0 w') ?_
        intro w1 hb
        obtain ⟨b1, i1, hB1⟩ := go w1 hb
        obtain ⟨e0, e1, e2, e3⟩ := pair_at i1.own
        rw [q2] at e2
        rw [q3] at e3
        have A := among_of i1
        rw [← hus]
        refine (op_list b1 hxok A.hold hy o ho (ha (by omega)) hz.1 e2 e3).mono ?_
        rintro e w' ⟨rfl, hb'⟩
        exact ⟨rfl, stay w1 w' hb hb'⟩
end
end Go.Proofs.YtdidjdoifpfmmaaGreatDoor
/- A disk more. -/
namespace Go.Proofs.YtdidjdoifpfmmaaGreatDoor
open Go.RowKit
section
variable {a : Nat → Addr} {k : Nat} {w0 w : World} {mq : Nat} {av : Value} {xs : List TItem} {left : Int}
theorem trees_new (i : TInv k w0 w mq av xs left) (hB : Below w0.heap.size w0 w) (hk : k ≤ 262144) (hl : 0 < left) (o : OpR) (ho : o.kind = 3) :
    Calls Tryz.prog 41 #[.pointer (some ⟨w0.heap.size, 0, none⟩), OpR.agg o] w fun e w' => e = .returned (.bool true) ∧ TreesInv a w0 (k + 1) w' w0.heap.size ∧ Below w0.heap.size w0 w' := by
  have lp := i.row.lt
  have hN := i.few
  have hl1 := i.l1
  have hl0 := i.l0
  have hne : av.ownBlock ≠ some w0.heap.size := fun e => by
    have h1 := (List.pairwise_cons.1 i.hold.apart).1 (pairP av xs) List.mem_cons_self
    exact h1 w0.heap.size (by simp [lawP, rowP]) (by simp [pairP, ownP, e])
  have hM1 : 1 ≤ (max 1 (min o.a 4096)).toNat := by omega
  have hM2 : (max 1 (min o.a 4096)).toNat ≤ 4096 := by omega
  refine (step_new o ho w0.heap.size xs.length av (xs.flatMap TItem.cells) left (by omega) hl1 (by omega)
    (fun dp w1 => ∃ d, DP.p d = dp ∧ DevAt w1 d (blankD (max 1 (min o.a 4096)).toNat) ∧ (∀ b ∈ d.blocks, w.heap.size ≤ b) ∧ w.heap.size ≤ w1.heap.size)
    (fun dp rq m w2 => m = (max 1 (min o.a 4096)).toNat ∧ ∃ d r, DP.p d = dp ∧ RD.q r = rq ∧ DevAt w2 d (blankD (max 1 (min o.a 4096)).toNat) ∧ RefAt w2 r (blankD (max 1 (min o.a 4096)).toNat) 0 false ∧ (∀ b ∈ d.blocks, w.heap.size ≤ b) ∧ (∀ b ∈ r.blocks, w.heap.size ≤ b) ∧ ∀ b ∈ d.blocks, b ∉ r.blocks)
    (i.row.cell 2) (i.row.cell 5) (fun j => i.row.frozen j) i.own hne ?_ ?_).mono ?_
  · intro w1 hb
    refine (devNew_any o.a w1).mono ?_
    rintro e w' ⟨m, d, rfl, rfl, hd, hbl, hb'⟩
    exact ⟨d.p, rfl, ⟨d, rfl, hd, fun b hb2 => Nat.le_trans hb.size (hbl b hb2), Nat.le_trans hb.size hb'.size⟩, hb'⟩
  · rintro w1 dp ⟨d, rfl, hd, hbl, hsz⟩
    refine (refNew_any o.a w1).mono ?_
    rintro e w' ⟨m, r, rfl, rfl, hr, hbl2, hb'⟩
    refine ⟨r.q, _, some ⟨r.gE, 0, none⟩, r.cE, rfl, ⟨rfl, d, r, rfl, rfl, hd.fr (Fr.of_below hb' []) (by simp), hr, hbl, fun b hb => Nat.le_trans hsz (hbl2 b hb), fun b hb1 hb2 => ?_⟩, hb', ?_, by omega⟩
    · have := hd.lt b hb1
      have := hbl2 b hb2
      omega
    · have := hr.row.cell 1
      simpa using this
  · rintro e w' ⟨rfl, dp, rq, m, w2, w4, g, cap, ⟨rfl, d, r, rfl, rfl, hd, hr, hdb, hrb, hdr⟩, hb2, ho4, hat, hlt, hf, rfl⟩
    generalize hn : (max 1 (min o.a 4096)).toNat = n at *
    have hB2 : Below w0.heap.size w0 w2 := hB.trans (hb2.mono hB.size)
    have hs2 := hb2.size
    have hsz := hB.size
    have t0 := i.hold.below hb2
    have hlt0 := i.hold.lt
    -- the new disk joins
    have t1 := t0.snoc (Q := devP d (blankD n)) hd (fun b hb hc => by have := hlt0 b hc; have := hdb b hb; omega) (fun b hb => by have := hdb b hb; omega)
    have t2 := t1.snoc (Q := refP r (blankD n) 0 false) hr (fun b hb hc => by
      rw [allB_append] at hc
      rcases List.mem_append.1 hc with hc | hc
      · have := hlt0 b hc; have := hrb b hb; omega
      · exact hdr b (by simpa [allB, devP] using hc) hb) (fun b hb => by have := hrb b hb; omega)
    -- how much is left
    have f3 : Fr w2 (w2.setCell ⟨w0.heap.size, 5, none⟩ (.int .i64 (left - n))) [w0.heap.size] := (Fr.refl _ _).setCell _ _ (.inl (by simp))
    have r2 : RowIs w2 w0.heap.size 73 (lawRow mq av left) := i.row.below hb2 lp
    have s3 := Step.at (ps := []) (P := lawP w0.heap.size mq av left) (Q := lawP w0.heap.size mq av (left - n)) (qs := pairP av xs :: xs.flatMap (TItem.parts mq) ++ [devP d (blankD n)] ++ [refP r (blankD n) 0 false]) hB2.size t2 (r2.set 5 (.int .i64 (left - n))) f3 (fun b hb => .inl hb)
    have hB3 : w0.heap.size ≤ (w2.setCell ⟨w0.heap.size, 5, none⟩ (.int .i64 (left - n))).heap.size := Nat.le_trans hB2.size f3.size
    -- the list of pairs
    have hQ4 : (pairP (.slice (some ⟨g, 0, none⟩) (xs.length + 1) cap) (xs ++ [TItem.mk d r (blankD n) 0 false none])).At w4 := by
      have e1 : (xs ++ [TItem.mk d r (blankD n) 0 false none]).length = xs.length + 1 := by simp
      have e2 : (xs ++ [TItem.mk d r (blankD n) 0 false none]).flatMap TItem.cells = xs.flatMap TItem.cells ++ [.pointer (some ⟨d.p, 0, none⟩), .pointer (some ⟨r.q, 0, none⟩), .pointer none, .pointer none] := by
        rw [List.flatMap_append, List.flatMap_singleton]
        rfl
      unfold pairP ownP
      rw [e1, e2]
      exact ho4
    have s4 := Step.at (ps := [lawP w0.heap.size mq av (left - n)]) (P := pairP av xs) (Q := pairP (.slice (some ⟨g, 0, none⟩) (xs.length + 1) cap) (xs ++ [TItem.mk d r (blankD n) 0 false none])) (qs := xs.flatMap (TItem.parts mq) ++ [devP d (blankD n)] ++ [refP r (blankD n) 0 false]) hB3 s3.hold hQ4 hf (fun b hb => by
      have eg : b = g := by simpa [pairP, ownP, Value.ownBlock] using hb
      rw [eg]
      rcases hat with hq | hq
      · exact .inl (by simp [pairP, ownP, hq])
      · exact .inr (by simpa using hq))
    have hB4 := Nat.le_trans hB3 hf.size
    -- the script's row
    have r4 : RowIs w4 w0.heap.size 73 (lawRow mq av (left - n)) := s4.hold.at_ (lawP w0.heap.size mq av (left - n)) (by simp)
    have f5 : Fr w4 (w4.setCell ⟨w0.heap.size, 2, none⟩ (.slice (some ⟨g, 0, none⟩) (xs.length + 1) cap)) [w0.heap.size] := (Fr.refl _ _).setCell _ _ (.inl (by simp))
    have s5 := Step.at (ps := []) (P := lawP w0.heap.size mq av (left - n)) (Q := lawP w0.heap.size mq (.slice (some ⟨g, 0, none⟩) (xs.length + 1) cap) (left - n)) (qs := pairP (.slice (some ⟨g, 0, none⟩) (xs.length + 1) cap) (xs ++ [TItem.mk d r (blankD n) 0 false none]) :: (xs.flatMap (TItem.parts mq) ++ [devP d (blankD n)] ++ [refP r (blankD n) 0 false])) hB4 s4.hold (r4.set 2 _) f5 (fun b hb => .inl hb)
    have ep : (xs ++ [TItem.mk d r (blankD n) 0 false none]).flatMap (TItem.parts mq) = xs.flatMap (TItem.parts mq) ++ [devP d (blankD n)] ++ [refP r (blankD n) 0 false] := by
      rw [List.flatMap_append, List.flatMap_singleton, List.append_assoc]
      rfl
    have hh := s5.hold
    rw [← ep] at hh
    refine ⟨rfl, ⟨rfl, mq, _, _, left - n, ⟨hh, fun z hz => ?_, by simp; omega, by omega, by omega⟩⟩, ?_⟩
    · rcases List.mem_append.1 hz with hz | hz
      · exact i.ok z hz
      · rw [List.mem_singleton.1 hz]
        exact ⟨⟨n, by omega, by omega, .inl rfl⟩, fun y hy => by cases hy⟩
    · have st := (s3.trans s4).trans s5
      exact st.low t2 hB2 hB2.size
end
end Go.Proofs.YtdidjdoifpfmmaaGreatDoor
/- An empty archive is there, and takes a directory. -/
namespace Go.Proofs.YtdidjdoifpfmmaaGreatDoor
open Go.RowKit
def dName : ByteArray := ⟨#[100]⟩
def dTree : List It := [⟨dName, true, ⟨#[]⟩⟩]
theorem mk_d : mkdirOf [] dName = (dTree, 0) := by
  unfold mkdirOf
  rw [if_neg (by decide +kernel), if_neg (by decide +kernel), if_neg (by decide +kernel)]
  rfl
theorem ls_err : listErr dTree ⟨#[]⟩ = 0 := by decide +kernel
theorem ls_kids : kidsFold ⟨#[]⟩ dTree = [dName] := by decide +kernel
theorem ls_find : findAt dTree (joinB ⟨#[]⟩ dName) = 0 := by decide +kernel
theorem ls_en : cutEn 0 ((kidsFold ⟨#[]⟩ dTree).map (enOf dTree ⟨#[]⟩)) = [⟨dName, true, 0⟩] := by
  rw [ls_kids]
  unfold cutEn
  rw [if_neg (by decide)]
  simp only [List.map_cons, List.map_nil, enOf, ls_find]
  rfl
set_option maxRecDepth 100000 in
set_option maxHeartbeats 2000000 in
theorem mounts_true {a : Nat → Addr} {w : World} (hS : Sents a w) (hG : Glob a w) (hg : 18 ≤ w.heap.size) :
    Calls Tryz.prog 14 #[] w fun e w' => e = .returned (.bool true) ∧ Below w.heap.size w w' := by
  have bs : Base a w w := ⟨hS, hG, hg, Below.refl _ _⟩
  have cA : Calls Tryz.prog 24 #[.int .i64 8] w fun e w' => ∃ d, e = .returned (.pointer (some ⟨DP.p d, 0, none⟩)) ∧ DevAt w' d (blankD 8) ∧ (∀ b ∈ d.blocks, w.heap.size ≤ b) ∧ Below w.heap.size w w' := by
    refine (devNew_any 8 w).mono ?_
    rintro e w' ⟨m, d, rfl, rfl, hd, hbl, hb⟩
    exact ⟨d, rfl, hd, hbl, hb⟩
  have cB : Hid (∀ d w1, DevAt w1 d (blankD 8) → (∀ b ∈ d.blocks, w.heap.size ≤ b) → Below w.heap.size w w1 → Calls Tryz.prog 25 #[.pointer (some ⟨DP.p d, 0, none⟩)] w1 fun e w' => e = .returned (.int .i64 0) ∧ ∃ d', DP.p d' = d.p ∧ DevAt w' d' (headD 8) ∧ (∀ b ∈ d'.blocks, w.heap.size ≤ b) ∧ Below w.heap.size w w') := by
    intro d w1 hd hfar hb
    have b1 := bs.below hb
    have ok := blank_ok 8 (by decide) (by decide)
    have hF : Far d := fun b hb2 => by have := hfar b hb2; omega
    have h1 := devFormat_any b1.at.2 hd hF ok (by show 0 ≤ _; omega) (by show 0 ≤ _; omega) (Nat.le_trans hg hb.size)
    rw [format_blank 8 (by decide)] at h1
    refine plain_format (a := a) (c := 0) (N := fun w' => ∃ d', DP.p d' = d.p ∧ DevAt w' d' (headD 8) ∧ (∀ b ∈ d'.blocks, w.heap.size ≤ b) ∧ Below w.heap.size w w') (by decide) ?_ ?_ (h1.mono ?_)
    · rintro w2 ⟨_, _, _, _, hb2⟩
      exact (bs.below hb2).at.1
    · rintro w2 w3 ⟨d', k1, k2, k3, k4⟩ hb3
      exact ⟨d', k1, k2.below hb3, k3, k4.trans (hb3.mono k4.size)⟩
    · rintro e w' ⟨rfl, d', k1, k2, k3, k4⟩
      refine ⟨rfl, d', k2, k1, fun b hb2 => ?_, below_fr hb k4 hb.size hfar⟩
      rcases k3 b hb2 with hq | hq
      · exact hfar b hq
      · exact Nat.le_trans hb.size hq
  have cC : Hid (∀ d w1, DevAt w1 d (headD 8) → (∀ b ∈ d.blocks, w.heap.size ≤ b) → Below w.heap.size w w1 → Calls Tryz.prog 26 #[.pointer (some ⟨DP.p d, 0, none⟩)] w1 fun e w' => ∃ z, e = .returned (.tuple #[.pointer z, .int .i64 0]) ∧ ∃ q blk mblk, z = some ⟨q, 0, none⟩ ∧ ArcAt w' q [] blk mblk ∧ (∀ b ∈ treeBlocks [] blk mblk, w.heap.size ≤ b) ∧ Below w.heap.size w w') := by
    intro d w1 hd hfar hb
    have b1 := bs.below hb
    have ok := head_ok 8 (by decide) (by decide)
    have hF : Far d := fun b hb2 => by have := hfar b hb2; omega
    have hl : (headD 8).safe.length = 8 := head_len 8 (by decide)
    have h1 := devMount_head b1.at.2 hd hF ok (by show 0 ≤ _; omega) (by show 0 ≤ _; omega) (Nat.le_trans hg hb.size) (by rw [hl]; decide) (by rw [hl, head_seen]; rfl) (head_at 8 1 (by decide) (by decide)) (by rw [wipe_head 8 (by decide)])
    refine plain_mount (a := a) (c := 0) (N := fun z w' => ∃ q blk mblk, z = some ⟨q, 0, none⟩ ∧ ArcAt w' q [] blk mblk ∧ (∀ b ∈ treeBlocks [] blk mblk, w.heap.size ≤ b) ∧ Below w.heap.size w w') (by decide) ?_ ?_ (h1.mono ?_)
    · rintro z w2 ⟨_, _, _, _, _, _, hb2⟩
      exact (bs.below hb2).at.1
    · rintro z w2 w3 ⟨q, blk, mblk, k1, k2, k3, k4⟩ hb3
      exact ⟨q, blk, mblk, k1, k2.below hb3, k3, k4.trans (hb3.mono k4.size)⟩
    · rintro e w' ⟨q, rfl, d', ms, nb, mb, _, k1, k2, k3, k4, k5, k6, k7, k8, k9, l1, l2, l3, _⟩
      refine ⟨some ⟨q, 0, none⟩, rfl, q, fun _ => nb, fun _ => mb, rfl, ⟨k5.cell 0, tree_new k7 k8 k9, TreeOk.nil⟩, fun b hb2 => ?_, below_fr hb k4 hb.size hfar⟩
      have hs := hb.size
      have : b = nb ∨ b = mb := by simpa [blocks_nil] using hb2
      omega
  have cD : Hid (∀ q blk mblk w1, ArcAt w1 q [] blk mblk → (∀ b ∈ treeBlocks [] blk mblk, w.heap.size ≤ b) → Below w.heap.size w w1 → Calls Tryz.prog 27 #[.pointer (some ⟨q, 0, none⟩), .string dName] w1 fun e w' => e = .returned (.int .i64 0) ∧ ∃ blk' mblk', ArcAt w' q dTree blk' mblk' ∧ Below w.heap.size w w') := by
    intro q blk mblk w1 h1 hfar hb
    have b1 := bs.below hb
    have h2 := devMkdirT_any b1.at.2 h1 dName (by decide)
    rw [mk_d] at h2
    refine plain_mkdir (a := a) (c := 0) (N := fun w' => ∃ blk' mblk', ArcAt w' q dTree blk' mblk' ∧ Below w.heap.size w w') (by decide) ?_ ?_ (h2.mono ?_)
    · rintro w2 ⟨_, _, _, hb2⟩
      exact (bs.below hb2).at.1
    · rintro w2 w3 ⟨blk', mblk', k1, k2⟩ hb3
      exact ⟨blk', mblk', k1.below hb3, k2.trans (hb3.mono k2.size)⟩
    · rintro e w' ⟨rfl, blk', mblk', k1, k2, k3⟩
      exact ⟨rfl, blk', mblk', k1, below_fr hb k3 hb.size hfar⟩
  have cE : Hid (∀ q blk mblk w1, ArcAt w1 q dTree blk mblk → Below w.heap.size w w1 → Calls Tryz.prog 28 #[.pointer (some ⟨q, 0, none⟩), .int .i64 0, .string ⟨#[]⟩, .int .i64 0] w1 fun e w' => ∃ g cap, e = .returned (.tuple #[.slice (some ⟨g, 0, none⟩) 1 cap, .int .i64 0, .int .i64 (-1), .bool false]) ∧ w'.cell? ⟨g, 0, none⟩ = some (.string dName) ∧ w'.cell? ⟨g, 1, none⟩ = some (.bool true) ∧ 1 ≤ cap ∧ Below w.heap.size w w') := by
    intro q blk mblk w1 h1 hb
    have b1 := bs.below hb
    refine (plainList_ok b1.at.2 h1 ⟨#[]⟩ (by decide) ls_err 0).mono ?_
    rintro e w' ⟨lv, rfl, ho, hb2⟩
    rw [ls_en] at ho
    obtain ⟨ag, g, cap, rfl, k2, k3, k4⟩ := ensAt_of ho
    obtain rfl := k3 (by decide)
    exact ⟨g, cap, rfl, k4 0 _ rfl, k4 1 _ rfl, k2, hb.trans (hb2.mono hb.size)⟩
  have hdd : (dName.toList == dName.toList) = true := by simp
  unfold dName at *
  go_enter Tryz.func14, Tryz.ntmps14
  go_wp2_with (first
    | (go_at_call 24; refine cA.mono ?_; rintro e w1 ⟨d, rfl, h1, f1, hb1⟩; clear cA)
    | (go_at_call 25; refine (cB.out d w1 h1 f1 hb1).mono ?_; rintro e w2 ⟨rfl, d2, e2, h2, f2, hb2⟩; have cC2 := cC.out d2 w2 h2 f2 hb2; rw [e2] at cC2)
    | (go_at_call 26; refine cC2.mono ?_; rintro e w3 ⟨z, rfl, q, blk, mblk, rfl, h3, f3, hb3⟩; clear cC2)
    | (go_at_call 27; refine (cD.out q blk mblk w3 h3 f3 hb3).mono ?_; rintro e w4 ⟨rfl, blk4, mblk4, h4, hb4⟩)
    | (go_at_call 28; refine (cE.out q blk4 mblk4 w4 h4 hb4).mono ?_; rintro e w5 ⟨g, cap, rfl, c0, c1, hcap, hb5⟩))
  go_ret
  exact ⟨rfl, hb5⟩
end Go.Proofs.YtdidjdoifpfmmaaGreatDoor
