import Derived.Test.YtdidjdoifpfmmaaGreatDoorGD2
import Derived.Test.YtdidjdoifpfmmaaGreatDoorGB2
import Derived.Test.YtdidjdoifpfmmaaGreatDoorTail
import Derived.Deep.RegionWith
import Derived.Deep.RegionHeld3
import Derived.Deep.AppendLies
/- A string's bytes into the midst of a row; the write that is made. -/
namespace Go.Proofs.YtdidjdoifpfmmaaGreatDoor
open Go.RowKit
variable {P : Program}
theorem run_copy_mid (w : World) (dT sT ty elem : TypeId) (g o dLen dCap n : Nat) (s : ByteArray) (cur : List Value) (t : TypeId)
    (hu : P.underlying dT = some (.slice elem)) (hs : (P.info? elem).map (·.size) = some 1) (hg : RowIs w g t cur) (hn : Nat.min s.size dLen = n) (hfit : o + n ≤ cur.length) :
    (Builtin.copy_ #[dT, sT] ty #[.slice (some ⟨g, o, none⟩) dLen dCap, .string s]).run P w =
      .ok (goInt n) (w.setRow g (cur.take o ++ (bytes ((textOf s).take n) ++ cur.drop (o + n))).toArray) := by
  have hle : n ≤ s.size := by rw [← hn]; exact Nat.min_le_left _ _
  have hlen : (bytes ((textOf s).take n)).length = n := by rw [bytes_length, List.length_take, textOf_len]; omega
  have hst := run_storeCells_at P g o t (bytes ((textOf s).take n)) 0 cur.toArray w hg.heap (by rw [hlen]; simpa using hfit) (by
    intro v hv
    simp only [bytes, List.mem_map] at hv
    obtain ⟨x, _, rfl⟩ := hv
    rfl)
  have htk : List.take n (List.map (fun b : UInt8 => Value.int IntKind.u8 (b.toNat : Int)) s.data.toList) = bytes ((textOf s).take n) := by
    simp only [bytes, textOf, ← List.map_take, List.map_map]
    rfl
  rw [hlen] at hst
  cases hq : P.info? elem with
  | none => simp [hq] at hs
  | some i =>
    simp [Builtin.copy_, run_underlying hu, Builtin.lenOf, Builtin.firstCells, sizeOf, typeInfo, hq, hn]
    rw [htk, hst]
    simp [Result.andThen]
theorem copy_write (k : Nat) (s : ByteArray) (hs : s.size = 64) (W : World) (ty : TypeId) (b : Nat) (hb : b = W.heap.size) (c : Array Value) (hc : c = (.int .i64 (k : Nat) :: List.replicate 64 (.int .u8 0)).toArray) :
    (Builtin.copy_ #[124, 9] ty #[.slice (some ⟨b, 1, none⟩) 64 64, .string s]).run Tryz.prog (W.alloc (.cells c 192)).drew =
      .ok (goInt 64) (W.alloc (.cells (.int .i64 (k : Nat) :: bytes (textOf s)).toArray 192)).drew := by
  subst hc hb
  have hr := (RowIs.new W 192 (.int .i64 (k : Nat) :: List.replicate 64 (.int .u8 0))).drew
  rw [run_copy_mid (P := Tryz.prog) _ 124 9 ty 5 W.heap.size 1 64 64 64 s _ 192 Tryz.underlying124 (by kernel_rfl) hr (by rw [hs]; rfl) (by simp)]
  rw [show (textOf s).take 64 = textOf s from List.take_of_length_le (by rw [textOf_len, hs]; exact Nat.le_refl _)]
  congr 1
  show ((W.alloc (.cells _ 192)).setRow W.heap.size _).drew = _
  rw [World.setRow_alloc_new]
  congr 3
  simp
end Go.Proofs.YtdidjdoifpfmmaaGreatDoor
/- A slice literal of one struct of many cells. -/
namespace Go.Proofs.YtdidjdoifpfmmaaGreatDoor
open Go.RowKit
theorem lay_list (l : List Value) : ∀ (k : Nat) (cs : Array Value), cs.size = k + l.length →
    ((l.zipIdx k).foldl (fun cs x => cs.setIfInBounds x.2 x.1) cs).toList = cs.toList.take k ++ l := by
  induction l with
  | nil => intro k cs h; simp at h; simp [List.take_of_length_le, h]
  | cons v l ih =>
    intro k cs h
    rw [List.length_cons] at h
    rw [List.zipIdx_cons, List.foldl_cons, ih (k + 1) _ (by simp; omega)]
    simp only [Array.toList_setIfInBounds]
    rw [List.take_add_one, List.take_set, List.getElem?_set_self (by simp; omega)]
    rw [List.set_eq_of_length_le (by simp; omega)]
    simp
theorem fill_whole (C : List Value) (cs : Array Value) (h : cs.size = C.length) :
    Instr.fill (fun i => some (i * C.length, C.length)) cs [(0, .agg C.toArray)] = some C.toArray := by
  have e : C.toArray.zipIdx.foldl (fun cs x => cs.setIfInBounds (0 * C.length + x.2) x.1) cs = C.toArray := by
    rw [← Array.foldl_toList]
    simp only [Nat.zero_mul, Nat.zero_add, Array.toList_zipIdx]
    apply Array.ext'
    rw [lay_list C 0 cs (by omega)]
    simp
  show (if (decide (C.toArray.size ≠ C.length) || decide (0 * C.length + C.toArray.size > cs.size)) = true then none else some (C.toArray.zipIdx.foldl (fun cs x => cs.setIfInBounds (0 * C.length + x.2) x.1) cs)) = some C.toArray
  rw [if_neg (by simp; omega)]
  exact congrArg some e
theorem run_buildSlice_one {P : Program} (w : World) (t e : TypeId) (ht : P.underlying t = some (.slice e)) (C : List Value) (i : TypeInfo) (z : Value) (hi : P.info? e = some i) (hz : i.zero = some z) (hs : i.size = C.length) (hp : 0 < C.length) (hl : C.length ≤ 1000) :
    (Instr.buildSlice t 1 #[(0, .agg C.toArray)]).run P w = .ok (.slice (some ⟨w.heap.size, 0, none⟩) 1 1) (w.alloc (.cells C.toArray e)) := by
  have hf := fun cs h => fill_whole C cs h
  have hn : ¬ (16777216 < C.length) := by omega
  have hq : C.length ≠ 0 := by omega
  simp [Instr.buildSlice, run_underlying ht, sizeOf, typeInfo, hi, hs, zeroValue, hz, hn, hq, newRow]
  rw [hf _ (by simp)]
  rfl
end Go.Proofs.YtdidjdoifpfmmaaGreatDoor
namespace Go.Proofs.YtdidjdoifpfmmaaGreatDoor
open Go.RowKit
theorem step_run {P : Program} {ops : Array Oper} {o : Oper} {a : Act} {w : World} {K : Act → World → Prop} {Q : Exit → Act → World → Prop} {E : Prop} (hgd : o.guard = none) {v : Value} {w' : World}
    (hr : (execOp a.eval o).run P w = .ok (.value v) w') (h : K (a.put o.dst v) w') : if Region.wanted o (yielded ops a.tmps) = true then Oper.wp P o a w K Q else E := by
  have hw : Region.wanted o (yielded ops a.tmps) = true := by simp [Region.wanted, hgd]
  rw [if_pos hw]
  unfold Oper.wp
  rw [hr]
  exact h
theorem step_skip {P : Program} {ops : Array Oper} {o : Oper} {a : Act} {w : World} {K : Act → World → Prop} {Q : Exit → Act → World → Prop} {E : Prop} (hgd : o.guard = none) {w' : World}
    (hr : (execOp a.eval o).run P w = .ok .skip w') (h : K (a.put o.dst undef) w') : if Region.wanted o (yielded ops a.tmps) = true then Oper.wp P o a w K Q else E := by
  have hw : Region.wanted o (yielded ops a.tmps) = true := by simp [Region.wanted, hgd]
  rw [if_pos hw]
  unfold Oper.wp
  rw [hr]
  exact h
theorem exec_buildSlice {P : Program} {a : Act} {o : Oper} (t : TypeId) (x : Operand) (ho : o.op = .buildSlice t 1 #[(0, x)]) (v u : Value) (w w' : World) (hx : a.eval x = v) (hr : (Instr.buildSlice t 1 #[(0, v)]).run P w = .ok u w') :
    (execOp a.eval o).run P w = .ok (.value u) w' := by
  unfold execOp
  simp only [ho, Sem.run_bind, Sem.run_pure, List.map_toArray, List.map_cons, List.map_nil, hx, hr, Result.andThen_ok]
theorem wrInfo : (Tryz.prog.info? 192).map (fun i => (i.zero, i.size, i.bytes)) = some (some (.agg Tryz.zeroCells192), 65, 72) := by kernel_rfl
theorem zeroW : Tryz.zeroCells192 = (.int .i64 0 :: List.replicate 64 (.int .u8 0)).toArray := by kernel_rfl
noncomputable def wrCode : Code := Tryz.f144.body.getD .skip
noncomputable def wr3 : Code := sndC (sndC (sndC wrCode))
set_option maxRecDepth 100000 in
set_option maxHeartbeats 1600000 in
theorem wr3_any {x0 x1 x4 x5 x6 x7 x8 x9 x10 x11 x12 x13 x14 x15 x16 x17 x18 x19 x20 x21 x22 x23 x24 x25 x26 x27 x28 x29 : Value} (p b3 bw : Nat) (C : List Value) (w : World) (R : Act → World → Prop)
    (c3 : w.cell? ⟨b3, 0, none⟩ = some (.pointer (some ⟨p, 0, none⟩))) (hrg : w.rangeAt bw 0 C) (hC : C.length = 65) (h1 : ∀ v ∈ C, v.oneCell' = true)
    (n cw : Nat) (aw : Option Addr) (xs : List Value) (hn : n ≤ 1000000) (cp : w.cell? ⟨p, 3, none⟩ = some (.slice aw n cw)) (fp : w.frozen? ⟨p, 3, none⟩ = false) (hown : w.ownsRow 0 192 65 (.slice aw n cw) n xs)
    (hp : (Value.slice aw n cw).ownBlock ≠ some p) (hb3 : (Value.slice aw n cw).ownBlock ≠ some b3) (hbw : (Value.slice aw n cw).ownBlock ≠ some bw) (_n3 : b3 ≠ p) (nw : bw ≠ p) (lw : bw < w.heap.size)
    (hQ : Hid (∀ (y20 y21 y22 y23 y24 y25 y26 y27 y28 y29 : Value) (g cap : Nat) (w' : World), w'.ownsRow 0 192 65 (.slice (some ⟨g, 0, none⟩) (n + 1) cap) (n + 1) (xs ++ C) → ((Value.slice aw n cw).ownBlock = some g ∨ w.heap.size ≤ g) → g < w'.heap.size → Fr w w' (Value.slice aw n cw).ownBlock.toList →
      R ⟨#[x0, x1, .pointer (some ⟨b3, 0, none⟩), .pointer (some ⟨bw, 0, none⟩), x4, x5, x6, x7, x8, x9, x10, x11, x12, x13, x14, x15, x16, x17, x18, x19, y20, y21, y22, y23, y24, y25, y26, y27, y28, y29], []⟩ (w'.setCell ⟨p, 3, none⟩ (.slice (some ⟨g, 0, none⟩) (n + 1) cap)))) :
    Code.wp Tryz.prog wr3 (At R) ⟨#[x0, x1, .pointer (some ⟨b3, 0, none⟩), .pointer (some ⟨bw, 0, none⟩), x4, x5, x6, x7, x8, x9, x10, x11, x12, x13, x14, x15, x16, x17, x18, x19, x20, x21, x22, x23, x24, x25, x26, x27, x28, x29], []⟩ w := by
  conv => arg 2; whnf
  obtain ⟨i0, hi0, hz0, hz1, hz2⟩ := info_parts wrInfo
  have hzs : (Tryz.zeroCells192).size = 65 := by rw [zeroW]; simp
  have hiC : (Tryz.prog.info? 192).map (·.size) = some C.length := by rw [hC]; exact wrSize
  have hbs := fun w' => run_buildSlice_one (P := Tryz.prog) w' 86 192 Tryz.underlying86 C i0 _ hi0 hz0 (by rw [hz1, hC]) (by omega) (by omega)
  have lb3 : b3 < w.heap.size := World.block_lt_of_cell? w _ c3
  have lp : p < w.heap.size := World.block_lt_of_cell? w _ cp
  refine wp_region_held_drew (S := fun w' => w'.cell? ⟨b3, 0, none⟩ = some (.pointer (some ⟨p, 0, none⟩)) ∧ w'.rangeAt bw 0 C) (by kernel_rfl) ⟨by simpa using c3, by simpa using hrg⟩ (fun hHeld => ?_)
  refine wpAnyH_take (i := 0) (oi := ⟨some 20, .load 30 (.tmp 2), _, _, _, none⟩) (v := .pointer (some ⟨p, 0, none⟩)) rfl (by kernel_rfl) (by kernel_rfl) (by kernel_rfl) (fun _ _ _ h => h) (Or.inl ⟨by rfl, ?_⟩) hHeld ?_
  · intro w hSw
    obtain ⟨h1, _⟩ := hSw
    go_simp
  simp only [Act.put, List.setIfInBounds_toArray, List.set_cons_zero, List.set_cons_succ]
  refine wpAnyH_take (i := 1) (oi := ⟨some 21, .load 30 (.tmp 2), _, _, _, none⟩) (v := .pointer (some ⟨p, 0, none⟩)) rfl (by kernel_rfl) (by kernel_rfl) (by kernel_rfl) (fun _ _ _ h => h) (Or.inl ⟨by rfl, ?_⟩) hHeld ?_
  · intro w hSw
    obtain ⟨h1, _⟩ := hSw
    go_simp
  simp only [Act.put, List.setIfInBounds_toArray, List.set_cons_zero, List.set_cons_succ]
  refine wpAnyH_take (i := 2) (oi := ⟨some 22, .nilCheck (.tmp 21), _, _, _, none⟩) (v := .pointer (some ⟨p, 0, none⟩)) rfl (by kernel_rfl) (by kernel_rfl) (by kernel_rfl) (fun _ _ _ h => h) (Or.inl ⟨by rfl, ?_⟩) hHeld ?_
  · intro w hSw
    go_simp
  simp only [Act.put, List.setIfInBounds_toArray, List.set_cons_zero, List.set_cons_succ]
  refine wpAnyH_take (i := 3) (oi := ⟨some 23, .fieldAddr 88 (.tmp 22) 2, _, _, _, none⟩) (v := .pointer (some ⟨p, 3, none⟩)) rfl (by kernel_rfl) (by kernel_rfl) (by kernel_rfl) (fun _ _ _ h => h) (Or.inl ⟨by rfl, ?_⟩) hHeld ?_
  · intro w hSw
    go_simp
  simp only [Act.put, List.setIfInBounds_toArray, List.set_cons_zero, List.set_cons_succ]
  refine wpAnyH_take (i := 5) (oi := ⟨some 25, .load 192 (.tmp 3), _, _, _, none⟩) (v := .agg C.toArray) rfl (by kernel_rfl) (by kernel_rfl) (by kernel_rfl) (fun _ _ _ h => h) (yieldsIf_load_mid (by rfl) _ _ rfl bw 0 rfl C _ (fun w h => h.2) Tryz.underlying192 rfl hiC) hHeld ?_
  simp only [Act.put, List.setIfInBounds_toArray, List.set_cons_zero, List.set_cons_succ]
  refine wpAnyH_ready (rs := [4, 6]) (by kernel_rfl) (by simp) ?_
  have hal : ∀ o, (fun w' : World => w'.cell? ⟨b3, 0, none⟩ = some (.pointer (some ⟨p, 0, none⟩)) ∧ w'.rangeAt bw 0 C) (w.drew.alloc o) := fun o => ⟨by rw [World.cell?_alloc_lt _ _ _ (by simpa using lb3)]; exact hHeld.1, World.rangeAt_alloc hHeld.2 o⟩
  have cpd : w.drew.cell? ⟨p, 3, none⟩ = some (.slice aw n cw) := by simpa using cp
  have cpa : (w.drew.alloc (.cells C.toArray 192)).cell? ⟨p, 3, none⟩ = some (.slice aw n cw) := by rw [World.cell?_alloc_lt _ _ _ (by simpa using lp)]; exact cpd
  have hown2 : (w.drew.alloc (.cells C.toArray 192)).ownsRow 0 192 65 (.slice aw n cw) n xs := (hown.drew).alloc _
  have hfr2 : Fr w (w.drew.alloc (.cells C.toArray 192)) (Value.slice aw n cw).ownBlock.toList := ((Fr.refl _ _).drew).alloc _
  have fpa : (w.drew.alloc (.cells C.toArray 192)).frozen? ⟨p, 3, none⟩ = false := by rw [World.frozen?_alloc_past _ _ _ (by simpa using lp)]; simpa using fp
  have szA : (w.drew.alloc (.cells C.toArray 192)).heap.size = w.heap.size + 1 := by simp
  have news := World.news_of_block (cs := C.toArray) (t := 192) (fr := (0, 0)) (heap_alloc_new w.drew (.cells C.toArray 192))
  refine AllReadyH.cons (o := ⟨some 24, .load 86 (.tmp 23), _, _, _, none⟩) rfl (fun K hK => ?_) (AllReadyH.cons (o := ⟨some 26, .buildSlice 86 1 #[(0, .tmp 25)], _, _, _, none⟩) rfl (fun K hK => ?_) AllReadyH.nil)
  · refine step_run rfl (v := .slice aw n cw) (w' := w.drew) (by go_simp) ?_
    refine hK.out _ _ hHeld (fun hHeld => ?_)
    clear hK K
    simp only [Act.put, List.setIfInBounds_toArray, List.set_cons_zero, List.set_cons_succ]
    refine wpAnyH_ready (rs := [6]) (by kernel_rfl) (by simp) ?_
    refine AllReadyH.cons (o := ⟨some 26, .buildSlice 86 1 #[(0, .tmp 25)], _, _, _, none⟩) rfl (fun K hK => ?_) AllReadyH.nil
    refine step_run rfl (v := .slice (some ⟨w.drew.heap.size, 0, none⟩) 1 1) (w' := w.drew.alloc (.cells C.toArray 192)) (by exact exec_buildSlice 86 (.tmp 25) (by rfl) (.agg C.toArray) _ _ _ (by rfl) (hbs w.drew)) ?_
    refine hK.out _ _ (hal _) (fun hHeld => ?_)
    clear hK K
    simp only [Act.put, List.setIfInBounds_toArray, List.set_cons_zero, List.set_cons_succ]
    refine wpAnyH_ready (rs := [7]) (by kernel_rfl) (by simp) ?_
    refine AllReadyH.cons (o := ⟨some 27, .call { callee := .builtin .append, args := #[.tmp 24, .tmp 26], argTypes := #[86, 86] }, _, _, _, none⟩) rfl (fun K hK => ?_) AllReadyH.nil
    refine step_append_lies _ (by rfl) (.tmp 24) (.tmp 26) 86 (by rfl) 0 192 i0 _ 65 72 Tryz.underlying86 hi0 hz0 hz1 hz2 hzs (by decide) (.slice aw n cw) n xs (by rfl) hown2
        ⟨w.drew.heap.size, 0, none⟩ 1 1 C (by rfl) (by rw [hC]) (by exact news) h1 (by decide) (by simp [maxLen]; omega) (by omega) (Nat.zero_le _) (w.heap.size + 1) szA ?_
    intro g cap w4 hown4 hgrow4 hat hlt
    have hfr4 : Fr w w4 (Value.slice aw n cw).ownBlock.toList := hfr2.grown hgrow4 (fun k hk => .inl (by rw [hk]; simp))
    have hcell := fun (a : Addr) (h1 : a.block < w.heap.size) (h2 : some a.block ≠ (Value.slice aw n cw).ownBlock) => hgrow4.cell_far a (by rw [szA]; omega) h2
    have S4 : (fun w' : World => w'.cell? ⟨b3, 0, none⟩ = some (.pointer (some ⟨p, 0, none⟩)) ∧ w'.rangeAt bw 0 C) w4 := ⟨by rw [hcell _ lb3 hb3.symm]; exact (hal _).1, fun j v hv => by rw [hcell _ lw hbw.symm]; exact (hal _).2 j v hv⟩
    have cp4 : w4.cell? ⟨p, 3, none⟩ = some (.slice aw n cw) := by rw [hcell _ lp hp.symm]; exact cpa
    have fp4 : w4.frozen? ⟨p, 3, none⟩ = false := by rw [hgrow4.frozen_far _ (by rw [szA]; show p < _; omega) hp.symm]; exact fpa
    have hat4 : (Value.slice aw n cw).ownBlock = some g ∨ w.heap.size ≤ g := hat.imp id (fun h => by omega)
    refine hK.out _ _ S4 (fun hHeld => ?_)
    clear hK K
    simp only [Act.put, List.setIfInBounds_toArray, List.set_cons_zero, List.set_cons_succ]
    refine wpAnyH_take (i := 8) (oi := ⟨some 28, .nilCheck (.tmp 20), _, _, _, none⟩) (v := .pointer (some ⟨p, 0, none⟩)) rfl (by kernel_rfl) (by kernel_rfl) (by kernel_rfl) (fun _ _ _ h => h) (Or.inl ⟨by rfl, by intro w _; go_simp⟩) hHeld ?_
    simp only [Act.put, List.setIfInBounds_toArray, List.set_cons_zero, List.set_cons_succ]
    refine wpAnyH_take (i := 9) (oi := ⟨some 29, .fieldAddr 88 (.tmp 28) 2, _, _, _, none⟩) (v := .pointer (some ⟨p, 3, none⟩)) rfl (by kernel_rfl) (by kernel_rfl) (by kernel_rfl) (fun _ _ _ h => h) (Or.inl ⟨by rfl, by intro w _; go_simp⟩) hHeld ?_
    simp only [Act.put, List.setIfInBounds_toArray, List.set_cons_zero, List.set_cons_succ]
    refine wpAnyH_ready (rs := [10]) (by kernel_rfl) (by simp) ?_
    refine AllReadyH.cons (o := ⟨none, .store 86 (.tmp 29) (.tmp 27), _, _, _, none⟩) rfl (fun K hK => ?_) AllReadyH.nil
    refine step_skip rfl (w' := w4.setCell ⟨p, 3, none⟩ (.slice (some ⟨g, 0, none⟩) (n + 1) cap)) (by go_simp) ?_
    refine hK.out _ _ ⟨by rw [World.cell?_setCell_other _ _ _ _ (by simp [])]; exact S4.1, fun j v hv => by rw [World.cell?_setCell_other _ _ _ _ (by simp [])]; exact S4.2 j v hv⟩ (fun hHeld => ?_)
    clear hK K
    refine wpAnyH_done (by kernel_rfl) ?_ _
    exact hQ.out _ _ _ _ _ _ _ _ _ _ g cap w4 hown4 hat4 hlt hfr4
  · refine step_run rfl (v := .slice (some ⟨w.drew.heap.size, 0, none⟩) 1 1) (w' := w.drew.alloc (.cells C.toArray 192)) (by exact exec_buildSlice 86 (.tmp 25) (by rfl) (.agg C.toArray) _ _ _ (by rfl) (hbs w.drew)) ?_
    refine hK.out _ _ (hal _) (fun hHeld => ?_)
    clear hK K
    simp only [Act.put, List.setIfInBounds_toArray, List.set_cons_zero, List.set_cons_succ]
    refine wpAnyH_ready (rs := [4]) (by kernel_rfl) (by simp) ?_
    refine AllReadyH.cons (o := ⟨some 24, .load 86 (.tmp 23), _, _, _, none⟩) rfl (fun K hK => ?_) AllReadyH.nil
    refine step_run rfl (v := .slice aw n cw) (w' := w.drew.alloc (.cells C.toArray 192)) (by go_simp) ?_
    refine hK.out _ _ (hal _) (fun hHeld => ?_)
    clear hK K
    simp only [Act.put, List.setIfInBounds_toArray, List.set_cons_zero, List.set_cons_succ]
    refine wpAnyH_ready (rs := [7]) (by kernel_rfl) (by simp) ?_
    refine AllReadyH.cons (o := ⟨some 27, .call { callee := .builtin .append, args := #[.tmp 24, .tmp 26], argTypes := #[86, 86] }, _, _, _, none⟩) rfl (fun K hK => ?_) AllReadyH.nil
    refine step_append_lies _ (by rfl) (.tmp 24) (.tmp 26) 86 (by rfl) 0 192 i0 _ 65 72 Tryz.underlying86 hi0 hz0 hz1 hz2 hzs (by decide) (.slice aw n cw) n xs (by rfl) hown2
        ⟨w.drew.heap.size, 0, none⟩ 1 1 C (by rfl) (by rw [hC]) (by exact news) h1 (by decide) (by simp [maxLen]; omega) (by omega) (Nat.zero_le _) (w.heap.size + 1) szA ?_
    intro g cap w4 hown4 hgrow4 hat hlt
    have hfr4 : Fr w w4 (Value.slice aw n cw).ownBlock.toList := hfr2.grown hgrow4 (fun k hk => .inl (by rw [hk]; simp))
    have hcell := fun (a : Addr) (h1 : a.block < w.heap.size) (h2 : some a.block ≠ (Value.slice aw n cw).ownBlock) => hgrow4.cell_far a (by rw [szA]; omega) h2
    have S4 : (fun w' : World => w'.cell? ⟨b3, 0, none⟩ = some (.pointer (some ⟨p, 0, none⟩)) ∧ w'.rangeAt bw 0 C) w4 := ⟨by rw [hcell _ lb3 hb3.symm]; exact (hal _).1, fun j v hv => by rw [hcell _ lw hbw.symm]; exact (hal _).2 j v hv⟩
    have cp4 : w4.cell? ⟨p, 3, none⟩ = some (.slice aw n cw) := by rw [hcell _ lp hp.symm]; exact cpa
    have fp4 : w4.frozen? ⟨p, 3, none⟩ = false := by rw [hgrow4.frozen_far _ (by rw [szA]; show p < _; omega) hp.symm]; exact fpa
    have hat4 : (Value.slice aw n cw).ownBlock = some g ∨ w.heap.size ≤ g := hat.imp id (fun h => by omega)
    refine hK.out _ _ S4 (fun hHeld => ?_)
    clear hK K
    simp only [Act.put, List.setIfInBounds_toArray, List.set_cons_zero, List.set_cons_succ]
    refine wpAnyH_take (i := 8) (oi := ⟨some 28, .nilCheck (.tmp 20), _, _, _, none⟩) (v := .pointer (some ⟨p, 0, none⟩)) rfl (by kernel_rfl) (by kernel_rfl) (by kernel_rfl) (fun _ _ _ h => h) (Or.inl ⟨by rfl, by intro w _; go_simp⟩) hHeld ?_
    simp only [Act.put, List.setIfInBounds_toArray, List.set_cons_zero, List.set_cons_succ]
    refine wpAnyH_take (i := 9) (oi := ⟨some 29, .fieldAddr 88 (.tmp 28) 2, _, _, _, none⟩) (v := .pointer (some ⟨p, 3, none⟩)) rfl (by kernel_rfl) (by kernel_rfl) (by kernel_rfl) (fun _ _ _ h => h) (Or.inl ⟨by rfl, by intro w _; go_simp⟩) hHeld ?_
    simp only [Act.put, List.setIfInBounds_toArray, List.set_cons_zero, List.set_cons_succ]
    refine wpAnyH_ready (rs := [10]) (by kernel_rfl) (by simp) ?_
    refine AllReadyH.cons (o := ⟨none, .store 86 (.tmp 29) (.tmp 27), _, _, _, none⟩) rfl (fun K hK => ?_) AllReadyH.nil
    refine step_skip rfl (w' := w4.setCell ⟨p, 3, none⟩ (.slice (some ⟨g, 0, none⟩) (n + 1) cap)) (by go_simp) ?_
    refine hK.out _ _ ⟨by rw [World.cell?_setCell_other _ _ _ _ (by simp [])]; exact S4.1, fun j v hv => by rw [World.cell?_setCell_other _ _ _ _ (by simp [])]; exact S4.2 j v hv⟩ (fun hHeld => ?_)
    clear hK K
    refine wpAnyH_done (by kernel_rfl) ?_ _
    exact hQ.out _ _ _ _ _ _ _ _ _ _ g cap w4 hown4 hat4 hlt hfr4
end Go.Proofs.YtdidjdoifpfmmaaGreatDoor
namespace Go.Proofs.YtdidjdoifpfmmaaGreatDoor
open Go.RowKit
noncomputable def newW (k : Nat) : Array Value := Tryz.zeroCells192.setIfInBounds 0 (.int .i64 (k : Nat))
theorem newW_eq (k : Nat) : newW k = (.int .i64 (k : Nat) :: List.replicate 64 (.int .u8 0)).toArray := by
  unfold newW
  rw [zeroW]
  simp only [List.setIfInBounds_toArray, List.set_cons_zero]
theorem newW_size (k : Nat) : (newW k).size = 65 := by rw [newW_eq]; simp
theorem newW_one (k : Nat) : (newW k).all (·.oneCell') = true := by
  rw [newW_eq]
  refine all_oneCell_toArray ?_
  intro v hv
  rcases List.mem_cons.1 hv with rfl | hv
  · rfl
  · rw [List.eq_of_mem_replicate hv]; rfl
theorem map_fr {w w' : World} {bs : List Nat} {gm n : Nat} {D : DataW Unit} (h : w.ownsMap Tryz.prog 3 (plainElem Tryz.prog 3) gm n D) (f : Fr w w' bs) (hg : gm ∉ bs) : w'.ownsMap (H := Unit) Tryz.prog 3 (plainElem Tryz.prog 3) gm n D := by
  have hl := h.lt
  obtain ⟨es, clock, hb, r⟩ := h
  exact ⟨es, clock, by rw [f.block gm hl hg]; exact hb, r⟩
theorem own_lt {w : World} {base : Nat} {e : TypeId} {size : Nat} {v : Value} {n : Nat} {xs : List Value} (h : w.ownsRow base e size v n xs) (g : Nat) (hg : v.ownBlock = some g) : g < w.heap.size := by
  rcases h.2 with ⟨hv, _⟩ | ⟨g', cap, cur, hv, _, hb, _⟩
  · rw [hv] at hg; simp [Value.ownBlock] at hg
  · rw [hv] at hg
    simp [Value.ownBlock] at hg
    subst hg
    exact (Array.getElem?_eq_some_iff.1 hb).1
theorem owns_fr {w w' : World} {bs : List Nat} {base : Nat} {e : TypeId} {size : Nat} {v : Value} {n : Nat} {xs : List Value} (h : w.ownsRow base e size v n xs) (f : Fr w w' bs) (hg : ∀ g, v.ownBlock = some g → g ∉ bs) : w'.ownsRow base e size v n xs := by
  have hl := own_lt h
  obtain ⟨h1, h⟩ := h
  refine ⟨h1, h.imp id ?_⟩
  rintro ⟨g, cap, cur, hv, hb, hh, r⟩
  have hq : v.ownBlock = some g := by rw [hv]; rfl
  exact ⟨g, cap, cur, hv, hb, by rw [f.block g (hl g hq) (hg g hq)]; exact hh, r⟩
/-- The disk behind Write$1. -/
def Wrote (w w' : World) (d : DP) (S : Dk) (lk : Int) (k : Nat) (x : ByteArray) : Prop :=
  ∃ wv', RowIs w' d.p 88 ({ d with wv := wv' }.cells { S with wait := S.wait ++ [(k, x)] } lk) ∧ w'.ownsRow 0 192 65 wv' (S.wait.length + 1) (wcells (S.wait ++ [(k, x)])) ∧
    w'.ownsMap (H := Unit) Tryz.prog 3 (plainElem Tryz.prog 3) d.gm (S.wait.length + 1) (lastD (S.wait ++ [(k, x)])) ∧ (∀ g, wv'.ownBlock = some g → d.wv.ownBlock = some g ∨ w.heap.size ≤ g) ∧ Fr w w' (d.p :: d.gm :: d.wv.ownBlock.toList)
set_option maxRecDepth 100000 in
set_option maxHeartbeats 1600000 in
theorem devWrite1_any {w : World} {d : DP} {S : Dk} {lk : Int} (h : RowIs w d.p 88 (d.cells S lk)) (hm : w.ownsMap Tryz.prog 3 (plainElem Tryz.prog 3) d.gm S.wait.length (lastD S.wait)) (aw : Option Addr) (cw : Nat) (hwv : d.wv = .slice aw S.wait.length cw) (hw : w.ownsRow 0 192 65 (.slice aw S.wait.length cw) S.wait.length (wcells S.wait)) (hwn : (Value.slice aw S.wait.length cw).ownBlock ≠ some d.gm) (hwp : (Value.slice aw S.wait.length cw).ownBlock ≠ some d.p) (k : Nat) (hk : k ≤ 4096) (hlen : S.wait.length ≤ 1000000) (x : ByteArray) (hx : x.size = 64) (b1 b2 b3 : Nat) (n1 : b1 ≠ d.gm) (n3 : b3 ≠ d.gm) (np : d.p ≠ d.gm) (n3p : b3 ≠ d.p) (hw3 : (Value.slice aw S.wait.length cw).ownBlock ≠ some b3)
    (r1 : RowIs w b1 3 [.int .i64 (k : Nat)]) (r2 : RowIs w b2 9 [.string x]) (r3 : RowIs w b3 30 [.pointer (some ⟨d.p, 0, none⟩)]) :
    Calls Tryz.prog 144 #[.pointer (some ⟨b1, 0, none⟩), .pointer (some ⟨b2, 0, none⟩), .pointer (some ⟨b3, 0, none⟩)] w fun e w' => e = .returned (.tuple #[]) ∧ Wrote w w' d S lk k x := by
  have hcp := fun ty => copy_write k x hx w ty w.heap.size rfl _ (newW_eq k)
  have k1 : w.cell? ⟨b1, 0, none⟩ = some (.int .i64 (k : Nat)) := r1.cell 0
  have k2 : w.cell? ⟨b2, 0, none⟩ = some (.string x) := r2.cell 0
  have k3 : w.cell? ⟨b3, 0, none⟩ = some (.pointer (some ⟨d.p, 0, none⟩)) := r3.cell 0
  have lp := h.lt
  have hm0 := hm.lt
  have c3 : w.cell? ⟨d.p, 3, none⟩ = some (.slice aw S.wait.length cw) := by rw [← hwv]; exact h.cell 3
  have c4 : w.cell? ⟨d.p, 4, none⟩ = some (.map (some d.gm)) := h.cell 4
  have hm2 := (hm.alloc (.cells (.int .i64 (k : Nat) :: bytes (textOf x)).toArray 192)).drew.drew
  obtain ⟨w3, hupd, hm3, ht3⟩ := hm2.store (t := 78) (e := 3) intKeyed Tryz.underlying78 (by simp [maxLen]; omega) (Maps.keyOf_int_mk Tryz.underlying3 (a := (k : Nat)) (by simp [Lit.wf, IntKind.min, IntKind.max, IntKind.signed, IntKind.bits]; omega)) (plainElem_int Tryz.underlying3 (a := (S.wait.length : Nat)) (by simp [Lit.wf, IntKind.min, IntKind.max, IntKind.signed, IntKind.bits]; omega))
  have hgr := ht3.grown
  have l1 := r1.lt
  have l2 := r2.lt
  have l3 := r3.lt
  have e1 : w3.cell? ⟨b1, 0, none⟩ = some (.int .i64 (k : Nat)) := by rw [hgr.cell_far _ (by simp; omega) (by simpa using n1)]; go_simp
  have e3 : w3.cell? ⟨b3, 0, none⟩ = some (.pointer (some ⟨d.p, 0, none⟩)) := by rw [hgr.cell_far _ (by simp; omega) (by simpa using n3)]; go_simp
  have e33 : w3.cell? ⟨d.p, 3, none⟩ = some (.slice aw S.wait.length cw) := by rw [hgr.cell_far _ (by simp; omega) (by simpa using np)]; go_simp
  have e34 : w3.cell? ⟨d.p, 4, none⟩ = some (.map (some d.gm)) := by rw [hgr.cell_far _ (by simp; omega) (by simpa using np)]; go_simp
  have hf3 : Fr w w3 [d.gm] := ((((Fr.refl w [d.gm]).alloc (.cells (.int .i64 (k : Nat) :: bytes (textOf x)).toArray 192)).drew).drew).grown hgr (by simp)
  have hrow : RowIs w3 d.p 88 (d.cells S lk) := hf3.row h (by simpa using np)
  have f33 := hrow.frozen 3
  have hown3 : w3.ownsRow 0 192 65 (.slice aw S.wait.length cw) S.wait.length (wcells S.wait) := owns_fr hw hf3 (fun g hg => by simp; rintro rfl; exact hwn hg)
  have lw3 : w.heap.size < w3.heap.size := by have := hgr.size; simp at this; omega
  have hrow3 : RowIs w3 w.heap.size 192 (.int .i64 (k : Nat) :: bytes (textOf x)) := ⟨by rw [hgr.block _ (by simp) (by simp; omega)]; exact ((RowIs.new w 192 (.int .i64 (k : Nat) :: bytes (textOf x))).drew.drew).heap⟩
  have hl64 : (bytes (textOf x)).length = 64 := sec_length x hx
  have hrg3 : w3.rangeAt w.heap.size 0 (.int .i64 (k : Nat) :: bytes (textOf x)) := by
    intro j v hv
    rw [Nat.zero_add, hrow3.cell, hv]
  have hlR : (.int .i64 (k : Nat) :: bytes (textOf x) : List Value).length = 65 := by rw [List.length_cons, hl64]
  have hoR : ∀ v ∈ (.int .i64 (k : Nat) :: bytes (textOf x) : List Value), v.oneCell' = true := by
    intro v hv
    rcases List.mem_cons.1 hv with rfl | hv
    · rfl
    · obtain ⟨n, _, rfl⟩ := List.mem_map.1 hv
      rfl
  have hwl : (Value.slice aw S.wait.length cw).ownBlock ≠ some w.heap.size := fun e => Nat.lt_irrefl _ (own_lt hw _ e)
  have HR : Hid (∀ g cap w', w'.ownsRow 0 192 65 (.slice (some ⟨g, 0, none⟩) (S.wait.length + 1) cap) (S.wait.length + 1) (wcells S.wait ++ (.int .i64 (k : Nat) :: bytes (textOf x))) → ((Value.slice aw S.wait.length cw).ownBlock = some g ∨ w3.heap.size ≤ g) → g < w'.heap.size → Fr w3 w' (Value.slice aw S.wait.length cw).ownBlock.toList →
      Wrote w (w'.setCell ⟨d.p, 3, none⟩ (.slice (some ⟨g, 0, none⟩) (S.wait.length + 1) cap)) d S lk k x) := by
    intro g cap w' ho hat hlt hf
    have hpg : d.p ≠ g := by
      rintro rfl
      rcases hat with hq | hq
      · exact hwp hq
      · have := hrow.lt; omega
    have hfp : Fr w w' (d.p :: d.gm :: d.wv.ownBlock.toList) := (hf3.wider (by simp)).trans hf (by intro y hy _; rw [hwv]; simp only [List.mem_cons]; exact .inr (.inr hy))
    have hr' : RowIs w' d.p 88 (d.cells S lk) := hf.row hrow (by
      intro hy
      cases hq : (Value.slice aw S.wait.length cw).ownBlock with
      | none => rw [hq] at hy; simp at hy
      | some g' => rw [hq] at hy; simp at hy; subst hy; exact hwp hq)
    refine ⟨.slice (some ⟨g, 0, none⟩) (S.wait.length + 1) cap, hr'.set 3 _, ?_, ?_, ?_, hfp.setCell _ _ (.inl (by simp))⟩
    · rw [show wcells S.wait ++ (.int .i64 (k : Nat) :: bytes (textOf x)) = wcells (S.wait ++ [(k, x)]) from wcells_snoc S.wait (k, x)] at ho
      exact wait_other ho (fun g' hg' => by simp [Value.ownBlock] at hg'; subst hg'; exact hpg.symm)
    · rw [show lastD (S.wait ++ [(k, x)]) = _ from lastD_snoc S.wait (k, x)]
      refine (map_fr hm3 hf ?_).setCell (by simpa using np.symm) _
      intro hy
      cases hq : (Value.slice aw S.wait.length cw).ownBlock with
      | none => rw [hq] at hy; simp at hy
      | some g' => rw [hq] at hy; simp at hy; subst hy; exact hwn hq
    · intro g' hg'
      simp [Value.ownBlock] at hg'
      subst hg'
      rw [hwv]
      exact hat.imp id (fun h => by omega)
  clear hgr hrow3 hm2 hm3 ht3 hm h hrow hf3
  have hiW : (Tryz.prog.info? 192).map (·.size) = some (newW k).size := by rw [newW_size]; exact wrSize
  have hsW : (Tryz.zeroCells192).size = (newW k).size := by rw [newW_size, zeroW]; simp
  have hoW := newW_one k
  generalize (.int .i64 (k : Nat) :: bytes (textOf x) : List Value) = R at *
  have HO : Hid _ := hown3
  have HG : Hid _ := hrg3
  have HV : Hid _ := hoR
  have HL : Hid _ := hlR
  clear hown3 hrg3 hoR hlR
  go_enter Tryz.func144, Tryz.ntmps144
  go_wp2_with (refine wpList_store_new rfl 192 _ _ rfl w.heap.size _ (newW k) rfl rfl rfl hiW hsW hoW ?_)
  go_region_held3 (fun w' => w'.cell? ⟨b2, 0, none⟩ = some (.string x)) ((go_split_ands; go_keep)) (fail)
  go_wp2
  go_region_held3 (fun w' => w'.cell? ⟨b1, 0, none⟩ = some (.int .i64 (k : Nat)) ∧ w'.cell? ⟨b3, 0, none⟩ = some (.pointer (some ⟨d.p, 0, none⟩)) ∧ w'.cell? ⟨d.p, 3, none⟩ = some (.slice aw S.wait.length cw) ∧ w'.cell? ⟨d.p, 4, none⟩ = some (.map (some d.gm))) ((first | exact ⟨e1, e3, e33, e34⟩ | (go_split_ands; refine ⟨by go_keep, by go_keep, by go_keep, by go_keep⟩))) (fail)
  all_goals go_wp2
  all_goals refine wp_at ?_
  all_goals refine wr3_any d.p b3 w.heap.size R w3 _ e3 HG.out HL.out HV.out S.wait.length cw aw _ hlen e33 f33 HO.out hwp hw3 hwl n3p (by omega) lw3 ?_
  all_goals refine fun y20 y21 y22 y23 y24 y25 y26 y27 y28 y29 g cap w' ho hat hlt hf => ?_
  all_goals go_end0
  all_goals exact ⟨rfl, HR.out g cap w' ho hat hlt hf⟩
end Go.Proofs.YtdidjdoifpfmmaaGreatDoor
