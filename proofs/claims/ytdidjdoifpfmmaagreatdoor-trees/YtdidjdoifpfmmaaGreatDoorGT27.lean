import Derived.Test.YtdidjdoifpfmmaaGreatDoorGT26
import Derived.Test.YtdidjdoifpfmmaaGreatDoorGT18
import Derived.Test.YtdidjdoifpfmmaaGreatDoorGT24
import Derived.Test.YtdidjdoifpfmmaaGreatDoorGT4
import Derived.Test.YtdidjdoifpfmmaaGreatDoorGT23
/- The program's List: the iterator. -/
namespace Go.Proofs.YtdidjdoifpfmmaaGreatDoor
open Go.RowKit
theorem run_equalIn_func_nil {P : Program} (w : World) (d : Nat) (t : TypeId) {i o : Array TypeId} {va : Bool} (f : Fn) (x y : Array Value) (h : P.underlying t = some (.func i o va)) :
    (Op.equalIn (d + 1) t (.func f x y) .nilFunc).run P w = .ok false w := by
  simp [Op.equalIn, run_underlying h]
theorem run_eql_func_nil {P : Program} (w : World) (t : TypeId) {i o : Array TypeId} {va : Bool} (f : Fn) (x y : Array Value) (h : P.underlying t = some (.func i o va)) :
    (binOp .eql t (.func f x y) .nilFunc).run P w = .ok (.bool false) w := by
  simp only [binOp]
  simp [Op.equal, Op.maxDepth, run_equalIn_func_nil w 9999 t f x y h]
/-- No more than so many of the entries (below 1: all). -/
def cutEn (B : Int) (es : List En) : List En := if 0 < B then es.take B.toNat else es
section
variable {w : World} {bo bx be ba bl bm : Nat} {B : Int} {ov : Bool} {base : Nat}
theorem Yd.fr {w' : World} {en : List En} {lv : Value} (Y : Yd w bo bx be ba bl bm B lv en ov base) {bs : List Nat} (f : Fr w w' bs) (hn : ∀ b ∈ [bo, bx, be, ba, bl, bm], b ∉ bs) (hg : ∀ g, lv.ownBlock = some g → g ∉ bs) : Yd w' bo bx be ba bl bm B lv en ov base :=
  ⟨f.row Y.o (hn _ (by simp)), f.row Y.x (hn _ (by simp)), f.row Y.e (hn _ (by simp)), f.row Y.a (hn _ (by simp)), f.row Y.l (hn _ (by simp)), f.row Y.m (hn _ (by simp)), owns_fr Y.own f hg, Y.lt, Y.ne⟩
theorem Yd.rebase (Y : Yd w bo bx be ba bl bm B (.slice none 0 0) [] ov base) {base' : Nat} (h : base ≤ base') : Yd w bo bx be ba bl bm B (.slice none 0 0) [] ov base' := by
  obtain ⟨l1, l2, l3, l4, l5, l6⟩ := Y.lt
  exact ⟨Y.o, Y.x, Y.e, Y.a, Y.l, Y.m, World.ownsRow_nil _ _ _ _, ⟨by omega, by omega, by omega, by omega, by omega, by omega⟩, Y.ne⟩
theorem Yd.unbase {base' : Nat} {en : List En} {lv : Value} (Y : Yd w bo bx be ba bl bm B lv en ov base) (h : base' ≤ base) (hl : bo < base' ∧ bx < base' ∧ be < base' ∧ ba < base' ∧ bl < base' ∧ bm < base') : Yd w bo bx be ba bl bm B lv en ov base' :=
  ⟨Y.o, Y.x, Y.e, Y.a, Y.l, Y.m, ⟨Y.own.1, Y.own.2.imp id (fun ⟨g, cap, cur, hv, hB, r⟩ => ⟨g, cap, cur, hv, by omega, r⟩)⟩, hl, Y.ne⟩
theorem Yd.below {w' : World} {en : List En} {lv : Value} (Y : Yd w bo bx be ba bl bm B lv en ov base) (hb : Below w.heap.size w w') : Yd w' bo bx be ba bl bm B lv en ov base := Y.fr (Fr.of_below hb []) (by simp) (by simp)
end
def YdEnd (w : World) (bo bx be ba bl bm : Nat) (B : Int) (en : List En) (base : Nat) : Prop := ∃ lv ov, Yd w bo bx be ba bl bm B lv en ov base
def yieldV (bo bx be ba bl bm : Nat) : Value := .func (.func 48) #[] #[.pointer (some ⟨bo, 0, none⟩), .pointer (some ⟨bx, 0, none⟩), .pointer (some ⟨be, 0, none⟩), .pointer (some ⟨ba, 0, none⟩), .pointer (some ⟨bl, 0, none⟩), .pointer (some ⟨bm, 0, none⟩)]
section
variable {a : Nat → Addr} {w : World} {q : Nat} {L : List It} {blk mblk : ByteArray → Nat} {bo bx be ba bl bm : Nat} {B : Int}
set_option maxRecDepth 100000 in
set_option maxHeartbeats 4000000 in
theorem devIter_ok (G : Glob a w) (h : ArcAt w q L blk mblk) (s : ByteArray) (hs : s.size ≤ 1000000) (h0 : listErr L s = 0) (b1 b2 b3 : Nat) (c1 : w.cell? ⟨b1, 0, none⟩ = some (.pointer (some ⟨q, 0, none⟩))) (c2 : w.cell? ⟨b2, 0, none⟩ = some (.int .i64 0)) (c3 : w.cell? ⟨b3, 0, none⟩ = some (.string s))
    (Y : Yd w bo bx be ba bl bm B (.slice none 0 0) [] false w.heap.size) :
    Calls Tryz.prog 93 #[yieldV bo bx be ba bl bm, .pointer (some ⟨b1, 0, none⟩), .pointer (some ⟨b2, 0, none⟩), .pointer (some ⟨b3, 0, none⟩)] w fun e w' =>
      e = .returned (.tuple #[]) ∧ YdEnd w' bo bx be ba bl bm B (cutEn B ((kidsFold s L).map (enOf L s))) w.heap.size ∧ Fr w w' [bo, bl] := by
  have cE := devArcEnt_ok G h s hs h0
  have hkf := kids_few h.ok s
  unfold yieldV
  have hq : ∀ (w : World) f x y, (binOp .eql 99 (.func f x y) .nilFunc).run Tryz.prog w = .ok (.bool false) w := fun w f x y => run_eql_func_nil w _ f x y Tryz.underlying99
  go_enter Tryz.func93, Tryz.ntmps93
  go_wp2_with (go_at_call 94; refine cE.mono ?_; rintro e w2 ⟨lv, rfl, ho, hb⟩; obtain ⟨aE, kE, rfl⟩ := slice_formR ho)
  obtain ⟨i0, hi0, hz0, hz1, hz2⟩ := info_parts entInfoD
  have HY : Hid (Yd w2 bo bx be ba bl bm B (.slice none 0 0) [] false w2.heap.size) := (Y.below hb).rebase hb.size
  have HB : Hid _ := hb
  have hlw : Hid (w.heap.size ≤ w2.heap.size) := hb.size
  have hbl0 : Hid _ := Y.lt
  have hbo : Hid (bo < w.heap.size ∧ bl < w.heap.size) := ⟨Y.lt.1, Y.lt.2.2.2.2.1⟩
  clear hb cE Y G c1 c2 c3
  have HEl : Hid (((kidsFold s L).map (enOf L s)).length = (kidsFold s L).length) := by show _ = _; rw [List.length_map]
  generalize hES : (kidsFold s L).map (enOf L s) = es at *
  generalize hN : (kidsFold s L).length = n at *
  have HES : Hid _ := hES
  clear hES hN
  have HO : Hid _ := ho
  clear ho
  go_loopw [26] (fun iv wr => ∃ (j : Nat) (lv : Value), iv = .int .i64 j ∧ j ≤ n ∧ Yd wr bo bx be ba bl bm B lv (es.take j) false w2.heap.size ∧ Fr w2 wr [bo, bl] ∧ (0 < B → (j : Int) < B)) (fun iv _ => n - (intOf iv).toNat)
  case atStart => exact ⟨0, _, rfl, Nat.zero_le _, HY.out, Fr.refl _ _, fun h => h⟩
  case round =>
    obtain ⟨j, lv, rfl, hjl, hY, hF, hj⟩ := hrel
    have HJ : Hid _ := hj
    have HF : Hid _ := hF
    clear hj hF
    have hs2 := HF.out.size
    by_cases hlt : j < n
    · have j1 : (j : Int) < (n : Int) := by omega
      have hje : j < es.length := by rw [HEl.out]; exact hlt
      obtain ⟨gE, kE', hvk, hgw, hgk⟩ := World.ownsRow.form HO.out (by omega)
      simp only [Value.slice.injEq] at hvk
      obtain ⟨rfl, _, rfl⟩ := hvk
      have hgE : gE ∉ [bo, bl] := by
        have := hbo.out
        simp
        omega
      obtain ⟨hh, _, _⟩ := has_of_owns (owns_base0 (owns_fr HO.out HF.out (fun g hg => by simp [Value.ownBlock] at hg; subst hg; exact hgE)))
      have hel : (enCells es).length = es.length * 3 := enCells_length es
      have q0 := hh.cell (j * 3 + 0) (by rw [hel]; omega)
      have q1 := hh.cell (j * 3 + 1) (by rw [hel]; omega)
      have q2 := hh.cell (j * 3 + 2) (by rw [hel]; omega)
      unfold enCells at q0 q1 q2
      rw [flat_get _ 3 es (fun _ _ => rfl) j hje 0 (by decide)] at q0
      rw [flat_get _ 3 es (fun _ _ => rfl) j hje 1 (by decide)] at q1
      rw [flat_get _ 3 es (fun _ _ => rfl) j hje 2 (by decide)] at q2
      have HT : Hid (es.take (j + 1) = es.take j ++ [es[j]]) := List.take_succ_eq_append_getElem hje
      have HTl : Hid ((es.take j).length = j) := by show _ = _; rw [List.length_take]; omega
      generalize hx : es[j] = x at *
      clear hx
      obtain ⟨xn, xd, xs⟩ := x
      have r0 : wr.cell? ⟨gE, j * 3, none⟩ = some (.string xn) := q0
      have r1 : wr.cell? ⟨gE, j * 3 + 1, none⟩ = some (.bool xd) := q1
      have r2 : wr.cell? ⟨gE, j * 3 + 2, none⟩ = some (.int .i64 (xs : Nat)) := q2
      clear q0 q1 q2 hh hel
      have b1 : Below wr.heap.size wr (wr.alloc (.cells #[.string xn, .bool xd, .int .i64 (xs : Nat)] 52)) := (Below.refl _ wr).alloc (Nat.le_refl _) _
      have cY := yield_next (hY.below b1) (by simp; omega) (by rw [HTl.out]; omega) ⟨xn, xd, xs⟩
      unfold enV at cY
      rw [HTl.out] at cY
      dsimp only at cY
      rw [← HT.out] at cY
      have hlo : Hid (∀ y ∈ bo :: bl :: lv.ownBlock.toList, y < w2.heap.size → y ∈ [bo, bl]) := by
        intro y hy hl
        rcases List.mem_cons.1 hy with rfl | hy
        · simp
        · rcases List.mem_cons.1 hy with rfl | hy
          · simp
          · rw [Option.mem_toList] at hy
            have := own_ge hY.own y hy
            omega
      have HYY : Hid _ := hY
      clear hY
      have HR : Hid (∀ w5, Fr (wr.alloc (.cells #[.string xn, .bool xd, .int .i64 (xs : Nat)] 52)) w5 (bo :: bl :: lv.ownBlock.toList) → Fr w2 w5 [bo, bl]) := fun w5 f5 => (HF.out.alloc _).trans f5 hlo.out
      cases hov : ovN B j
      · rw [hov] at cY
        have HN : Hid (0 < B → ((j + 1 : Nat) : Int) < B) := fun h => by
          have h1 := HJ.out h
          unfold ovN at hov
          rw [decide_eq_true h, Bool.true_and, decide_eq_false_iff_not] at hov
          omega
        clear hov b1
        go_wp2_with (go_at_call 48; refine cY.mono ?_; rintro e w5 ⟨rfl, lv5, hY5, hF5⟩)
        exact ⟨⟨j + 1, lv5, by go_num, by omega, hY5, HR.out w5 hF5, HN.out⟩, by simp [intOf]; omega⟩
      · rw [hov] at cY
        have HC : Hid (cutEn B es = es.take (j + 1)) := by
          show _ = _
          unfold ovN at hov
          rw [Bool.and_eq_true, decide_eq_true_eq, decide_eq_true_eq] at hov
          unfold cutEn
          rw [if_pos hov.1, show B.toNat = j + 1 by omega]
        clear hov b1
        go_wp2_with (go_at_call 48; refine cY.mono ?_; rintro e w5 ⟨rfl, lv5, hY5, hF5⟩)
        refine bodyPost_ret (results_none rfl _ _ _) rfl ?_
        rw [HES.out, HC.out]
        exact ⟨rfl, ⟨lv5, true, hY5.unbase hlw.out hbl0.out⟩, (Fr.of_below HB.out _).trans (HR.out w5 hF5) (fun y hy _ => hy)⟩
    · have ej : j = n := by omega
      subst ej
      have kk1 : ¬ (j : Int) < (j : Int) := by omega
      have HC : Hid (cutEn B es = es.take j) := by
        show _ = _
        unfold cutEn
        split
        · rename_i h1
          have := HJ.out h1
          rw [List.take_of_length_le (by rw [HEl.out]; omega), List.take_of_length_le (by rw [HEl.out]; omega)]
        · rw [List.take_of_length_le (by rw [HEl.out]; omega)]
      have HYY : Hid _ := hY
      clear hY
      go_wp2
      go_end0
      rw [HES.out, HC.out]
      exact ⟨rfl, ⟨lv, false, Yd.unbase HYY.out hlw.out hbl0.out⟩, (Fr.of_below HB.out _).trans HF.out (fun y hy _ => hy)⟩
end
end Go.Proofs.YtdidjdoifpfmmaaGreatDoor
/- package plain's List, of the tree. -/
namespace Go.Proofs.YtdidjdoifpfmmaaGreatDoor
open Go.RowKit
theorem results_tmp4 {fn : Func} {t u v x : Tmp} (h : fn.results = #[.tmp t, .tmp u, .tmp v, .tmp x]) (tmps : Array Value) (P : Program) (w : World) :
    (results fn tmps).run P w = .ok (.tuple #[tmps.getD t undef, tmps.getD u undef, tmps.getD v undef, tmps.getD x undef]) w := by
  simp [results, h]
section
variable {a : Nat → Addr} {w : World} {q : Nat} {L : List It} {blk mblk : ByteArray → Nat} {bo bx be ba bl bm : Nat} {B : Int}
set_option maxRecDepth 100000 in
set_option maxHeartbeats 4000000 in
theorem devIter_err (hS : Sents a w) (G : Glob a w) (h : ArcAt w q L blk mblk) (s : ByteArray) (hs : s.size ≤ 1000000) (h0 : listErr L s ≠ 0) (b1 b2 b3 : Nat) (c1 : w.cell? ⟨b1, 0, none⟩ = some (.pointer (some ⟨q, 0, none⟩))) (c2 : w.cell? ⟨b2, 0, none⟩ = some (.int .i64 0)) (c3 : w.cell? ⟨b3, 0, none⟩ = some (.string s))
    (h12 : 12 < bo ∧ 12 < be ∧ 12 < ba) (Y : Yd w bo bx be ba bl bm B (.slice none 0 0) [] false w.heap.size) :
    Calls Tryz.prog 93 #[yieldV bo bx be ba bl bm, .pointer (some ⟨b1, 0, none⟩), .pointer (some ⟨b2, 0, none⟩), .pointer (some ⟨b3, 0, none⟩)] w fun e w' =>
      e = .returned (.tuple #[]) ∧ Ye w' bo bx be ba bl (listErr L s) ∧ Fr w w' [be, ba, bo] := by
  have cE := devArcEnt_err G h s hs h0
  have hle : listErr L s ≤ 7 := by
    rcases list_err h.ok h0 with ⟨_, e⟩ | ⟨_, _, e⟩ | ⟨_, _, e, _⟩
    · omega
    · rw [e]; exact findF_codes L _ _ _
    · omega
  obtain ⟨k, hk⟩ : ∃ k, listErr L s = k + 1 := ⟨listErr L s - 1, by omega⟩
  rw [hk] at cE hle ⊢
  rw [Nat.add_sub_cancel] at cE
  unfold errV at cE
  unfold yieldV
  obtain ⟨i0, hi0, hz0, hz1, hz2⟩ := info_parts entInfoD
  have hq : ∀ (w : World) f x y, (binOp .eql 99 (.func f x y) .nilFunc).run Tryz.prog w = .ok (.bool false) w := fun w f x y => run_eql_func_nil w _ f x y Tryz.underlying99
  have HE : Hid (∀ w2, Below w.heap.size w w2 → Calls Tryz.prog 48 #[.agg #[.string ByteArray.empty, .bool false, .int .i64 0], .iface 452 (.pointer (some (a k))), .pointer (some ⟨bo, 0, none⟩), .pointer (some ⟨bx, 0, none⟩), .pointer (some ⟨be, 0, none⟩), .pointer (some ⟨ba, 0, none⟩), .pointer (some ⟨bl, 0, none⟩), .pointer (some ⟨bm, 0, none⟩)] w2 fun e w' => e = .returned (.bool true) ∧ Ye w' bo bx be ba bl (k + 1) ∧ Fr w2 w' [be, ba, bo]) := fun w2 hb => yield_err (Y.below hb) (hS.below hb) h12 k (by omega) (.nilIface)
  clear hk h0 Y
  generalize hn : k + 1 = n at HE ⊢
  clear hn
  go_enter Tryz.func93, Tryz.ntmps93
  go_wp2_with (go_at_call 94; refine cE.mono ?_; rintro e w2 ⟨rfl, hb⟩)
  have cY := HE.out w2 hb
  go_wp2_with (go_at_call 48; refine cY.mono ?_; rintro e w5 ⟨rfl, hY5, hF5⟩)
  refine bodyPost_ret (results_none rfl _ _ _) rfl ?_
  exact ⟨rfl, hY5, (Fr.of_below hb _).trans hF5 (fun y hy _ => hy)⟩
set_option maxRecDepth 100000 in
set_option maxHeartbeats 4000000 in
theorem devList_make (q : Nat) (s : ByteArray) (w : World) :
    Calls Tryz.prog 47 #[.pointer (some ⟨q, 0, none⟩), .int .i64 0, .string s] w fun e w' =>
      e = .returned (.func (.func 93) #[] #[.pointer (some ⟨w.heap.size, 0, none⟩), .pointer (some ⟨w.heap.size + 1, 0, none⟩), .pointer (some ⟨w.heap.size + 1 + 1, 0, none⟩)]) ∧
      ((w.alloc (.cells #[.pointer (some ⟨q, 0, none⟩)] 31)).alloc (.cells #[.int .i64 0] 3)).alloc (.cells #[.string s] 9) = w' := by
  go_enter Tryz.func47, Tryz.ntmps47
  go_wp2
  go_ret
  exact ⟨rfl, rfl⟩
/-- What plain.List has made when it goes over a list. -/
def chainW (w : World) (q : Nat) (s : ByteArray) (B : Int) : World :=
  ((((((((w.alloc (.cells #[.int .i64 B] 3)).alloc (.cells #[.slice none 0 0] 48)).alloc (.cells #[.int .i64 0] 3)).alloc (.cells #[.int .i64 (-1)] 3)).alloc (.cells #[.bool false] 4)).alloc (.cells #[.bool false] 4)).alloc (.cells #[.pointer (some ⟨q, 0, none⟩)] 31)).alloc (.cells #[.int .i64 0] 3)).alloc (.cells #[.string s] 9)
theorem chain_rows (w : World) (q : Nat) (s : ByteArray) (B : Int) : (chainW w q s B).heap.size = w.heap.size + 9 ∧
    RowIs (chainW w q s B) w.heap.size 3 [.int .i64 B] ∧ RowIs (chainW w q s B) (w.heap.size + 1) 48 [.slice none 0 0] ∧ RowIs (chainW w q s B) (w.heap.size + 1 + 1) 3 [.int .i64 0] ∧ RowIs (chainW w q s B) (w.heap.size + 1 + 1 + 1) 3 [.int .i64 (-1)] ∧
    RowIs (chainW w q s B) (w.heap.size + 1 + 1 + 1 + 1) 4 [.bool false] ∧ RowIs (chainW w q s B) (w.heap.size + 1 + 1 + 1 + 1 + 1) 4 [.bool false] ∧ RowIs (chainW w q s B) (w.heap.size + 1 + 1 + 1 + 1 + 1 + 1) 31 [.pointer (some ⟨q, 0, none⟩)] ∧
    RowIs (chainW w q s B) (w.heap.size + 1 + 1 + 1 + 1 + 1 + 1 + 1) 3 [.int .i64 0] ∧ RowIs (chainW w q s B) (w.heap.size + 1 + 1 + 1 + 1 + 1 + 1 + 1 + 1) 9 [.string s] ∧ Below w.heap.size w (chainW w q s B) := by
  have e : ∀ (W : World) (o : Obj) (k : Nat), (W.alloc o).heap[k]? = if k = W.heap.size then some o else W.heap[k]? := fun W o k => by
    show (W.heap.push o)[k]? = _
    rw [Array.getElem?_push]
  refine ⟨by simp [chainW], ⟨?_⟩, ⟨?_⟩, ⟨?_⟩, ⟨?_⟩, ⟨?_⟩, ⟨?_⟩, ⟨?_⟩, ⟨?_⟩, ⟨?_⟩, ?_⟩
  iterate 9
    · simp only [chainW, e, World.size_alloc]
      repeat first | rw [if_pos trivial] | rw [if_pos (by omega)] | rw [if_neg (by omega)]
  · unfold chainW
    exact (((((((((Below.refl _ w).alloc (Nat.le_refl _) _).alloc (by simp) _).alloc (by simp; omega) _).alloc (by simp; omega) _).alloc (by simp; omega) _).alloc (by simp; omega) _).alloc (by simp; omega) _).alloc (by simp; omega) _).alloc (by simp; omega) _
theorem chain_yd (w : World) (q : Nat) (s : ByteArray) (B : Int) : Yd (chainW w q s B) (w.heap.size + 1 + 1 + 1 + 1) (w.heap.size + 1 + 1 + 1 + 1 + 1) (w.heap.size + 1 + 1) (w.heap.size + 1 + 1 + 1) (w.heap.size + 1) w.heap.size B (.slice none 0 0) [] false (chainW w q s B).heap.size := by
  obtain ⟨hz, r0, r1, r2, r3, r4, r5, r6, r7, r8, _⟩ := chain_rows w q s B
  refine ⟨r4, r5, r2, r3, r1, r0, World.ownsRow_nil _ _ _ _, ?_, ?_⟩
  · rw [hz]; omega
  · simp only [List.nodup_cons, List.mem_cons, List.not_mem_nil, or_false, not_or, List.nodup_nil, and_true, not_false_eq_true]
    omega
set_option maxRecDepth 100000 in
set_option maxHeartbeats 4000000 in
theorem plainList_ok (G : Glob a w) (h : ArcAt w q L blk mblk) (s : ByteArray) (hs : s.size ≤ 1000000) (h0 : listErr L s = 0) (B : Int) :
    Calls Tryz.prog 28 #[.pointer (some ⟨q, 0, none⟩), .int .i64 0, .string s, .int .i64 B] w fun e w' =>
      ∃ lv, e = .returned (.tuple #[lv, .int .i64 0, .int .i64 (-1), .bool false]) ∧ w'.ownsRow w.heap.size 52 3 lv (cutEn B ((kidsFold s L).map (enOf L s))).length (enCells (cutEn B ((kidsFold s L).map (enOf L s)))) ∧ Below w.heap.size w w' := by
  obtain ⟨hz, r0, r1, r2, r3, r4, r5, r6, r7, r8, hB⟩ := chain_rows w q s B
  have cI := devIter_ok (G.up hB) (h.below hB) s hs h0 (w.heap.size + 1 + 1 + 1 + 1 + 1 + 1) (w.heap.size + 1 + 1 + 1 + 1 + 1 + 1 + 1) (w.heap.size + 1 + 1 + 1 + 1 + 1 + 1 + 1 + 1) (r6.cell 0) (r7.cell 0) (r8.cell 0) (chain_yd w q s B)
  unfold yieldV at cI
  have HZ : Hid _ := hz
  have HB : Hid _ := hB
  clear r0 r1 r2 r3 r4 r5 r6 r7 r8 hz hB
  unfold chainW at cI
  have hq : ∀ (w : World) f x y, (binOp .eql 97 (.func f x y) .nilFunc).run Tryz.prog w = .ok (.bool false) w := fun w f x y => run_eql_func_nil w _ f x y Tryz.underlying97
  go_enter Tryz.func28, Tryz.ntmps28
  go_wp2_with (first
    | (go_at_call 47; refine (devList_make q s _).mono ?_; rintro e w4 ⟨rfl, rfl⟩)
    | (go_at_call 93; refine cI.mono ?_; rintro e w5 ⟨rfl, hY, hF⟩))
  obtain ⟨lv, ov, hY⟩ := hY
  have k1 : w5.cell? ⟨w.heap.size + 1, 0, none⟩ = some lv := hY.l.cell 0
  have k2 : w5.cell? ⟨w.heap.size + 1 + 1, 0, none⟩ = some (.int .i64 0) := hY.e.cell 0
  have k3 : w5.cell? ⟨w.heap.size + 1 + 1 + 1, 0, none⟩ = some (.int .i64 (-1)) := hY.a.cell 0
  have k4 : w5.cell? ⟨w.heap.size + 1 + 1 + 1 + 1 + 1, 0, none⟩ = some (.bool false) := hY.x.cell 0
  have HO : Hid (w5.ownsRow w.heap.size 52 3 lv (cutEn B ((kidsFold s L).map (enOf L s))).length (enCells (cutEn B ((kidsFold s L).map (enOf L s))))) := ⟨hY.own.1, hY.own.2.imp id (fun ⟨g, cap, cur, hv, hBb, r⟩ => ⟨g, cap, cur, hv, by have := HZ.out; unfold chainW at this; omega, r⟩)⟩
  have HBe : Hid (Below w.heap.size w w5) := below_of_fr (w0 := w) HB.out hF HB.out.size (by intro b hb; simp at hb; omega)
  clear hY hF cI
  go_region
  go_wp2
  refine bodyPost_ret (results_tmp4 rfl _ _ _) rfl ?_
  exact ⟨lv, rfl, HO.out, HBe.out.drew⟩
set_option maxRecDepth 100000 in
set_option maxHeartbeats 4000000 in
theorem plainList_err (hS : Sents a w) (G : Glob a w) (h : ArcAt w q L blk mblk) (s : ByteArray) (hs : s.size ≤ 1000000) (h0 : listErr L s ≠ 0) (B : Int) :
    Calls Tryz.prog 28 #[.pointer (some ⟨q, 0, none⟩), .int .i64 0, .string s, .int .i64 B] w fun e w' =>
      e = .returned (.tuple #[.slice none 0 0, .int .i64 (listErr L s : Nat), .int .i64 (-1), .bool false]) ∧ Below w.heap.size w w' := by
  obtain ⟨hz, r0, r1, r2, r3, r4, r5, r6, r7, r8, hB⟩ := chain_rows w q s B
  have h12 := hS.size
  have cI := devIter_err (hS.below hB) (G.up hB) (h.below hB) s hs h0 (w.heap.size + 1 + 1 + 1 + 1 + 1 + 1) (w.heap.size + 1 + 1 + 1 + 1 + 1 + 1 + 1) (w.heap.size + 1 + 1 + 1 + 1 + 1 + 1 + 1 + 1) (r6.cell 0) (r7.cell 0) (r8.cell 0) (by omega) (chain_yd w q s B)
  unfold yieldV at cI
  have HZ : Hid _ := hz
  have HB : Hid _ := hB
  clear r0 r1 r2 r3 r4 r5 r6 r7 r8 hz hB
  unfold chainW at cI
  have hq : ∀ (w : World) f x y, (binOp .eql 97 (.func f x y) .nilFunc).run Tryz.prog w = .ok (.bool false) w := fun w f x y => run_eql_func_nil w _ f x y Tryz.underlying97
  generalize listErr L s = n at *
  go_enter Tryz.func28, Tryz.ntmps28
  go_wp2_with (first
    | (go_at_call 47; refine (devList_make q s _).mono ?_; rintro e w4 ⟨rfl, rfl⟩)
    | (go_at_call 93; refine cI.mono ?_; rintro e w5 ⟨rfl, hY, hF⟩))
  have k1 : w5.cell? ⟨w.heap.size + 1, 0, none⟩ = some (.slice none 0 0) := hY.l.cell 0
  have k2 : w5.cell? ⟨w.heap.size + 1 + 1, 0, none⟩ = some (.int .i64 (n : Nat)) := hY.e.cell 0
  have k3 : w5.cell? ⟨w.heap.size + 1 + 1 + 1, 0, none⟩ = some (.int .i64 (-1)) := hY.a.cell 0
  have k4 : w5.cell? ⟨w.heap.size + 1 + 1 + 1 + 1 + 1, 0, none⟩ = some (.bool false) := hY.x.cell 0
  have HBe : Hid (Below w.heap.size w w5) := below_of_fr (w0 := w) HB.out hF HB.out.size (by intro b hb; simp at hb; omega)
  clear hY hF cI
  go_region
  go_wp2
  refine bodyPost_ret (results_tmp4 rfl _ _ _) rfl ?_
  exact ⟨rfl, HBe.out.drew⟩
end
end Go.Proofs.YtdidjdoifpfmmaaGreatDoor
/- The calls of package plain, of archives, whatever they do. -/
namespace Go.Proofs.YtdidjdoifpfmmaaGreatDoor
open Go.RowKit
theorem number_of {a : Nat → Addr} {w : World} (hS : Sents a w) (c : Nat) (hc : c ≤ 12) :
    Calls Tryz.prog 43 #[errOf a c] w fun e w' => e = .returned (.tuple #[.int .i64 (c : Nat), .int .i64 (-1)]) ∧ Below w.heap.size w w' := by
  by_cases h0 : c = 0
  · subst h0
    exact (number_nil w).mono fun e w' he => ⟨he.1, by rw [← he.2]; exact Below.refl _ _⟩
  · obtain ⟨j, rfl⟩ : ∃ j, c = j + 1 := ⟨c - 1, by omega⟩
    rw [errOf_pos a h0, Nat.add_sub_cancel]
    exact (number_E hS j (by omega)).mono fun e w' he => ⟨he.1, he.2⟩
section
variable {a : Nat → Addr} {w : World} {c : Nat} {N : World → Prop}
theorem plain_format {dp : Nat} (hc : c ≤ 12) (hS : ∀ w1, N w1 → Sents a w1) (hN : ∀ w1 w2, N w1 → Below w1.heap.size w1 w2 → N w2)
    (hW : Calls Tryz.prog 44 #[.pointer (some ⟨dp, 0, none⟩)] w fun e w' => e = .returned (errOf a c) ∧ N w') :
    Calls Tryz.prog 25 #[.pointer (some ⟨dp, 0, none⟩)] w fun e w' => e = .returned (.int .i64 (c : Nat)) ∧ N w' := by
  have HN : Hid (∀ w1, N w1 → Calls Tryz.prog 43 #[errOf a c] w1 fun e w' => e = .returned (.tuple #[.int .i64 (c : Nat), .int .i64 (-1)]) ∧ N w') := fun w1 h1 => (number_of (hS w1 h1) c hc).mono fun e w' he => ⟨he.1, hN _ _ h1 he.2⟩
  generalize errOf a c = ev at *
  go_enter Tryz.func25, Tryz.ntmps25
  go_wp2_with (first
    | (go_at_call 44; refine hW.mono ?_; rintro e w1 ⟨rfl, h1⟩)
    | (go_at_call 43; refine (HN.out _ h1).mono ?_; rintro e w2 ⟨rfl, h2⟩))
  go_ret
  exact ⟨rfl, h2⟩
theorem plain_put {q : Nat} {s t : ByteArray} (hc : c ≤ 12) (hS : ∀ w1, N w1 → Sents a w1) (hN : ∀ w1 w2, N w1 → Below w1.heap.size w1 w2 → N w2)
    (hW : Calls Tryz.prog 95 #[.pointer (some ⟨q, 0, none⟩), .string s, .string t] w fun e w' => e = .returned (errOf a c) ∧ N w') :
    Calls Tryz.prog 49 #[.pointer (some ⟨q, 0, none⟩), .string s, .string t] w fun e w' => e = .returned (.int .i64 (c : Nat)) ∧ N w' := by
  have HN : Hid (∀ w1, N w1 → Calls Tryz.prog 43 #[errOf a c] w1 fun e w' => e = .returned (.tuple #[.int .i64 (c : Nat), .int .i64 (-1)]) ∧ N w') := fun w1 h1 => (number_of (hS w1 h1) c hc).mono fun e w' he => ⟨he.1, hN _ _ h1 he.2⟩
  generalize errOf a c = ev at *
  go_enter Tryz.func49, Tryz.ntmps49
  go_wp2_with (first
    | (go_at_call 95; refine hW.mono ?_; rintro e w1 ⟨rfl, h1⟩)
    | (go_at_call 43; refine (HN.out _ h1).mono ?_; rintro e w2 ⟨rfl, h2⟩))
  go_ret
  exact ⟨rfl, h2⟩
theorem plain_mkdir {q : Nat} {s : ByteArray} (hc : c ≤ 12) (hS : ∀ w1, N w1 → Sents a w1) (hN : ∀ w1 w2, N w1 → Below w1.heap.size w1 w2 → N w2)
    (hW : Calls Tryz.prog 46 #[.pointer (some ⟨q, 0, none⟩), .string s] w fun e w' => e = .returned (errOf a c) ∧ N w') :
    Calls Tryz.prog 27 #[.pointer (some ⟨q, 0, none⟩), .string s] w fun e w' => e = .returned (.int .i64 (c : Nat)) ∧ N w' := by
  have HN : Hid (∀ w1, N w1 → Calls Tryz.prog 43 #[errOf a c] w1 fun e w' => e = .returned (.tuple #[.int .i64 (c : Nat), .int .i64 (-1)]) ∧ N w') := fun w1 h1 => (number_of (hS w1 h1) c hc).mono fun e w' he => ⟨he.1, hN _ _ h1 he.2⟩
  generalize errOf a c = ev at *
  go_enter Tryz.func27, Tryz.ntmps27
  go_wp2_with (first
    | (go_at_call 46; refine hW.mono ?_; rintro e w1 ⟨rfl, h1⟩)
    | (go_at_call 43; refine (HN.out _ h1).mono ?_; rintro e w2 ⟨rfl, h2⟩))
  go_ret
  exact ⟨rfl, h2⟩
theorem plain_remove {q : Nat} {s : ByteArray} (hc : c ≤ 12) (hS : ∀ w1, N w1 → Sents a w1) (hN : ∀ w1 w2, N w1 → Below w1.heap.size w1 w2 → N w2)
    (hW : Calls Tryz.prog 101 #[.pointer (some ⟨q, 0, none⟩), .string s] w fun e w' => e = .returned (errOf a c) ∧ N w') :
    Calls Tryz.prog 56 #[.pointer (some ⟨q, 0, none⟩), .string s] w fun e w' => e = .returned (.int .i64 (c : Nat)) ∧ N w' := by
  have HN : Hid (∀ w1, N w1 → Calls Tryz.prog 43 #[errOf a c] w1 fun e w' => e = .returned (.tuple #[.int .i64 (c : Nat), .int .i64 (-1)]) ∧ N w') := fun w1 h1 => (number_of (hS w1 h1) c hc).mono fun e w' he => ⟨he.1, hN _ _ h1 he.2⟩
  generalize errOf a c = ev at *
  go_enter Tryz.func56, Tryz.ntmps56
  go_wp2_with (first
    | (go_at_call 101; refine hW.mono ?_; rintro e w1 ⟨rfl, h1⟩)
    | (go_at_call 43; refine (HN.out _ h1).mono ?_; rintro e w2 ⟨rfl, h2⟩))
  go_ret
  exact ⟨rfl, h2⟩
theorem plain_get {q : Nat} {k : Int} {s x : ByteArray} (hc : c ≤ 12) (hS : ∀ w1, N w1 → Sents a w1) (hN : ∀ w1 w2, N w1 → Below w1.heap.size w1 w2 → N w2)
    (hW : Calls Tryz.prog 97 #[.pointer (some ⟨q, 0, none⟩), .int .i64 k, .string s] w fun e w' => e = .returned (.tuple #[.string x, errOf a c]) ∧ N w') :
    Calls Tryz.prog 51 #[.pointer (some ⟨q, 0, none⟩), .int .i64 k, .string s] w fun e w' => e = .returned (.tuple #[.string x, .int .i64 (c : Nat), .int .i64 (-1)]) ∧ N w' := by
  have HN : Hid (∀ w1, N w1 → Calls Tryz.prog 43 #[errOf a c] w1 fun e w' => e = .returned (.tuple #[.int .i64 (c : Nat), .int .i64 (-1)]) ∧ N w') := fun w1 h1 => (number_of (hS w1 h1) c hc).mono fun e w' he => ⟨he.1, hN _ _ h1 he.2⟩
  generalize errOf a c = ev at *
  go_enter Tryz.func51, Tryz.ntmps51
  go_wp2_with (first
    | (go_at_call 97; refine hW.mono ?_; rintro e w1 ⟨rfl, h1⟩)
    | (go_at_call 43; refine (HN.out _ h1).mono ?_; rintro e w2 ⟨rfl, h2⟩))
  refine bodyPost_ret (results_tmp3 rfl _ _ _) rfl ?_
  exact ⟨rfl, h2⟩
theorem plain_mount {dp : Nat} {N : Option Addr → World → Prop} (hc : c ≤ 12) (hS : ∀ x w1, N x w1 → Sents a w1) (hN : ∀ x w1 w2, N x w1 → Below w1.heap.size w1 w2 → N x w2)
    (hW : Calls Tryz.prog 45 #[.pointer (some ⟨dp, 0, none⟩)] w fun e w' => ∃ x, e = .returned (.tuple #[.pointer x, errOf a c]) ∧ N x w') :
    Calls Tryz.prog 26 #[.pointer (some ⟨dp, 0, none⟩)] w fun e w' => ∃ x, e = .returned (.tuple #[.pointer x, .int .i64 (c : Nat)]) ∧ N x w' := by
  have HN : Hid (∀ x w1, N x w1 → Calls Tryz.prog 43 #[errOf a c] w1 fun e w' => e = .returned (.tuple #[.int .i64 (c : Nat), .int .i64 (-1)]) ∧ N x w') := fun x w1 h1 => (number_of (hS x w1 h1) c hc).mono fun e w' he => ⟨he.1, hN x _ _ h1 he.2⟩
  generalize errOf a c = ev at *
  go_enter Tryz.func26, Tryz.ntmps26
  go_wp2_with (first
    | (go_at_call 45; refine hW.mono ?_; rintro e w1 ⟨x, rfl, h1⟩)
    | (go_at_call 43; refine (HN.out _ _ h1).mono ?_; rintro e w2 ⟨rfl, h2⟩))
  refine bodyPost_ret (results_tmp2 rfl _ _ _) rfl ?_
  exact ⟨x, rfl, h2⟩
end
end Go.Proofs.YtdidjdoifpfmmaaGreatDoor
/- The parts of memory: disks, archives, trees. -/
namespace Go.Proofs.YtdidjdoifpfmmaaGreatDoor
open Go.RowKit
def devP (d : DP) (S : Dk) : Part := ⟨d.blocks, fun w => DevAt w d S, fun h f hb => h.fr f hb, fun h => h.lt⟩
def refP (r : RD) (S : Dk) (left : Int) (lit : Bool) : Part := ⟨r.blocks, fun w => RefAt w r S left lit, fun h f hb => h.fr f hb, fun h => h.lt⟩
def rowP (g : Nat) (t : TypeId) (vs : List Value) : Part := ⟨[g], fun w => RowIs w g t vs, fun h f hb => f.row h (hb g (by simp)), fun h b hb => by rw [List.mem_singleton.1 hb]; exact h.lt⟩
def ownP (e : TypeId) (size : Nat) (v : Value) (n : Nat) (xs : List Value) : Part := ⟨v.ownBlock.toList, fun w => w.ownsRow 0 e size v n xs, fun h f hb => owns_fr h f (fun g hg => hb g (Option.mem_toList.2 hg)), fun h b hb => own_lt h b (Option.mem_toList.1 hb)⟩
def treeP (L : List It) (blk mblk : ByteArray → Nat) : Part := ⟨treeBlocks L blk mblk, fun w => TreeAt w L blk mblk, fun h f hb => h.fr f hb, fun h => h.lt⟩
/-- One part among others becomes another. -/
theorem Step.at {B : Nat} {w w' : World} {ps qs : List Part} {P Q : Part} (hB : B ≤ w.heap.size) (h : Hold B w (ps ++ P :: qs)) (hq : Q.At w') (f : Fr w w' P.blocks) (hs : ∀ b ∈ Q.blocks, b ∈ P.blocks ∨ w.heap.size ≤ b) : Step B w w' (ps ++ P :: qs) (ps ++ Q :: qs) := by
  have hp : (ps ++ P :: qs).Perm ([P] ++ (ps ++ qs)) := List.perm_middle
  have hq2 : (ps ++ Q :: qs).Perm ([Q] ++ (ps ++ qs)) := List.perm_middle
  have h1 := h.perm hp
  exact ((Step.one hB h1.left hq f hs).frame h1).perm hp.symm hq2.symm
theorem Hold.mid {B : Nat} {w : World} {ps qs : List Part} {P : Part} (h : Hold B w (ps ++ P :: qs)) : P.At w := h.at_ P (List.mem_append_right _ List.mem_cons_self)
theorem Hold.cons {B : Nat} {w : World} {P : Part} {ps : List Part} (h : Hold B w (P :: ps)) : (∀ b ∈ P.blocks, b ∉ allB ps) := fun b hb => Hold.disj (ps := [P]) (qs := ps) h b (by simpa [allB] using hb)
/-- What stands below all: the reasons, the package-level variables. -/
structure Base (a : Nat → Addr) (w0 w : World) : Prop where
  sents : Sents a w0
  glob : Glob a w0
  g : 18 ≤ w0.heap.size
  low : Below w0.heap.size w0 w
theorem Base.size {a : Nat → Addr} {w0 w : World} (h : Base a w0 w) : w0.heap.size ≤ w.heap.size := h.low.size
theorem Base.at {a : Nat → Addr} {w0 w : World} (h : Base a w0 w) : Sents a w ∧ Glob a w := ⟨h.sents.below h.low, h.glob.up h.low⟩
theorem Base.below {a : Nat → Addr} {w0 w w' : World} (h : Base a w0 w) (hb : Below w.heap.size w w') : Base a w0 w' := ⟨h.sents, h.glob, h.g, h.low.trans (hb.mono h.low.size)⟩
theorem Base.fr {a : Nat → Addr} {w0 w w' : World} {bs : List Nat} (h : Base a w0 w) (f : Fr w w' bs) (hb : ∀ b ∈ bs, w0.heap.size ≤ b) : Base a w0 w' := ⟨h.sents, h.glob, h.g, below_fr h.low f h.low.size hb⟩
/-- An archive of the program's and of the document's, over one disk: no record is there. -/
structure TArc where
  q : Nat
  ms : List Nat
  L : List It
  blk : ByteArray → Nat
  mblk : ByteArray → Nat
  sc : Nat
  bq : Nat
  tv : Value
/-- Its parts; the program's tree and the document's may differ on the way. -/
def arcParts (p rq mq : Nat) (y : TArc) (L1 : List It) (b1 m1 : ByteArray → Nat) (tv0 tv1 : Value) (L2 : List It) : List Part :=
  [rowP y.q 119 (arcRow (.pointer (some ⟨b1 ⟨#[]⟩, 0, none⟩)) p y.ms (.slice none 0 0) 1 1 y.sc false), treeP L1 b1 m1, rowP y.bq 213 (ArRow (.pointer (some ⟨mq, 0, none⟩)) rq 1 1 y.sc (.slice none 0 0) (.slice none 0 0) tv0 false), ownP 308 3 tv1 L2.length (itCells L2)]
def TArc.parts (p rq mq : Nat) (y : TArc) : List Part := arcParts p rq mq y y.L y.blk y.mblk y.tv y.tv y.L
structure TItem where
  d : DP
  r : RD
  S : Dk
  left : Int
  lit : Bool
  arc : Option TArc
def TItem.arcs (mq : Nat) (x : TItem) : List Part := match x.arc with
  | none => []
  | some y => y.parts x.d.p x.r.q mq
def TItem.parts (mq : Nat) (x : TItem) : List Part := devP x.d x.S :: refP x.r x.S x.left x.lit :: x.arcs mq
def TItem.pa (x : TItem) : Option Addr := x.arc.map fun y => ⟨y.q, 0, none⟩
def TItem.pb (x : TItem) : Option Addr := x.arc.map fun y => ⟨y.bq, 0, none⟩
def TItem.cells (x : TItem) : List Value := [.pointer (some ⟨x.d.p, 0, none⟩), .pointer (some ⟨x.r.q, 0, none⟩), .pointer x.pa, .pointer x.pb]
/-- A disk without records, formatted or not. -/
def Plain0 (S : Dk) : Prop := ∃ n, 1 ≤ n ∧ n ≤ 4096 ∧ (S = blankD n ∨ (4 ≤ n ∧ S = headD n))
structure TItem.Ok (x : TItem) : Prop where
  disk : Plain0 x.S
  tree : ∀ y, x.arc = some y → TreeOk y.L
theorem Plain0.ok {S : Dk} (h : Plain0 S) : S.Ok := by
  obtain ⟨n, h1, h2, rfl | ⟨_, rfl⟩⟩ := h
  · exact blank_ok n h1 h2
  · exact head_ok n h1 h2
theorem Plain0.few {S : Dk} (h : Plain0 S) : S.wait.length = 0 ∧ S.fuse = 0 ∧ S.safe.length ≤ 4096 := by
  obtain ⟨n, h1, h2, rfl | ⟨_, rfl⟩⟩ := h
  · exact ⟨rfl, rfl, by rw [blank_len]; exact h2⟩
  · exact ⟨rfl, rfl, by rw [head_len n h1]; exact h2⟩
theorem Plain0.format {S : Dk} (h : Plain0 S) : Plain0 (formatOf S).1 ∧ (formatOf S).2 ≤ 12 := by
  obtain ⟨n, h1, h2, rfl | ⟨h4, rfl⟩⟩ := h
  · by_cases h4 : 4 ≤ n
    · rw [format_blank n h4]
      exact ⟨⟨n, h1, h2, .inr ⟨h4, rfl⟩⟩, Nat.zero_le _⟩
    · rw [format_small _ (by rw [blank_len]; omega)]
      exact ⟨⟨n, h1, h2, .inl rfl⟩, by show 1 ≤ 12; decide⟩
  · rw [format_head n h4]
    exact ⟨⟨n, h1, h2, .inr ⟨h4, rfl⟩⟩, Nat.zero_le _⟩
end Go.Proofs.YtdidjdoifpfmmaaGreatDoor
/- The arms of the statements' Format and Mount, whatever disks and archives are. -/
namespace Go.Proofs.YtdidjdoifpfmmaaGreatDoor
open Go.RowKit
set_option maxRecDepth 100000 in
set_option maxHeartbeats 1600000 in
theorem disk_format {w : World} (o : OpR) (hk : o.kind = 12) (p ga i dp rq : Nat) (c0 : w.cell? ⟨ga, i, none⟩ = some (.pointer (some ⟨dp, 0, none⟩))) (c1 : w.cell? ⟨ga, i + 1, none⟩ = some (.pointer (some ⟨rq, 0, none⟩)))
    (left : Int) (hl0 : -10000 ≤ left) (hl1 : left ≤ 262144) (cl : w.cell? ⟨p, 5, none⟩ = some (.int .i64 left)) (fl : w.frozen? ⟨p, 5, none⟩ = false)
    (m gE cE : Nat) (hm : m ≤ 4096) (npg : p ≠ ga) (_npq : p ≠ rq) (hrq : w.cell? ⟨rq, 1, none⟩ = some (.slice (some ⟨gE, 0, none⟩) m cE))
    (n : Int) (M M2 : World → Prop) (dB rB : List Nat) (hga : ga ∉ dB)
    (hD : ∀ w1, Fr w w1 [p] → Calls Tryz.prog 25 #[.pointer (some ⟨dp, 0, none⟩)] w1 fun e w' => e = .returned (.int .i64 n) ∧ M w' ∧ Fr w1 w' dB)
    (hR : ∀ w1, M w1 → Calls Tryz.prog 121 #[.pointer (some ⟨rq, 0, none⟩)] w1 fun e w' => e = .returned (.int .i64 n) ∧ M2 w' ∧ Fr w1 w' rB) (hpd : p ∉ dB) (hpr : p ∉ rB) :
    Calls Tryz.prog 72 #[.pointer (some ⟨p, 0, none⟩), .pointer (some ⟨ga, i, none⟩), OpR.agg o] w fun e w' => e = .returned (.bool true) ∧ M2 w' ∧ Fr w w' (p :: (dB ++ rB)) ∧ ∀ t vs, RowIs w p t vs → RowIs w' p t (vs.set 5 (.int .i64 (left - m))) := by
  unfold OpR.agg
  obtain ⟨k, a, b, d, s, t⟩ := o
  simp only at hk ⊢
  subst hk
  have lga : ga < w.heap.size := World.block_lt_of_cell? w _ c0
  have lp : p < w.heap.size := World.block_lt_of_cell? w _ cl
  have lq : rq < w.heap.size := World.block_lt_of_cell? w _ hrq
  have HD : Hid _ := hD
  have HR : Hid _ := hR
  clear hD hR
  go_enter Tryz.func72, Tryz.ntmps72
  go_wp2
  go_region
  have f1 : Hid (Fr w ((w.setCell ⟨p, 5, none⟩ (.int .i64 (left - m))).alloc (.cells #[.int .i64 12, .int .i64 a, .int .i64 b, .int .i64 d, .string s, .string t] 67)).drew [p]) := (((Fr.refl w [p]).setCell _ _ (.inl (by simp))).alloc _).drew
  have hRow : Hid (∀ t' vs, RowIs w p t' vs → RowIs ((w.setCell ⟨p, 5, none⟩ (.int .i64 (left - m))).alloc (.cells #[.int .i64 12, .int .i64 a, .int .i64 b, .int .i64 d, .string s, .string t] 67)).drew p t' (vs.set 5 (.int .i64 (left - m)))) := fun t' vs hr => RowIs.drew ⟨by rw [heap_alloc_old _ _ (by simpa using lp)]; exact (hr.set 5 (.int .i64 (left - m))).heap⟩
  have x0 : ((w.setCell ⟨p, 5, none⟩ (.int .i64 (left - m))).alloc (.cells #[.int .i64 12, .int .i64 a, .int .i64 b, .int .i64 d, .string s, .string t] 67)).drew.cell? ⟨ga, i, none⟩ = some (.pointer (some ⟨dp, 0, none⟩)) := fr_cell f1.out c0 (by simpa using npg.symm)
  have x1 : ((w.setCell ⟨p, 5, none⟩ (.int .i64 (left - m))).alloc (.cells #[.int .i64 12, .int .i64 a, .int .i64 b, .int .i64 d, .string s, .string t] 67)).drew.cell? ⟨ga, i + 1, none⟩ = some (.pointer (some ⟨rq, 0, none⟩)) := fr_cell f1.out c1 (by simpa using npg.symm)
  clear c0 c1 cl fl hrq
  generalize ((w.setCell ⟨p, 5, none⟩ (.int .i64 (left - m))).alloc (.cells #[.int .i64 12, .int .i64 a, .int .i64 b, .int .i64 d, .string s, .string t] 67)).drew = W at *
  have hF := HD.out W f1.out
  go_wp2_with (first
    | (go_at_call 25; refine hF.mono ?_; rintro e w2 ⟨rfl, hM, hf⟩; clear hF; have k1 : w2.cell? ⟨ga, i + 1, none⟩ = some (.pointer (some ⟨rq, 0, none⟩)) := fr_cell hf x1 hga)
    | (go_at_call 121; refine (HR.out _ hM).mono ?_; rintro e w3 ⟨rfl, hM3, hf3⟩))
  go_ret
  refine ⟨rfl, hM3, ?_, fun t' vs hr => hf3.row (hf.row (hRow.out t' vs hr) hpd) hpr⟩
  exact ((f1.out.wider (by simp)).trans hf (fun y hy _ => by simp [hy])).trans hf3 (fun y hy _ => by simp [hy])
set_option maxRecDepth 100000 in
set_option maxHeartbeats 1600000 in
theorem law_mounted {w : World} (p ga i dp rq mq : Nat) (c0 : w.cell? ⟨ga, i, none⟩ = some (.pointer (some ⟨dp, 0, none⟩))) (c1 : w.cell? ⟨ga, i + 1, none⟩ = some (.pointer (some ⟨rq, 0, none⟩))) (z2 z3 : Option Addr) (c2 : w.cell? ⟨ga, i + 2, none⟩ = some (.pointer z2)) (c3 : w.cell? ⟨ga, i + 3, none⟩ = some (.pointer z3)) (g2 : w.frozen? ⟨ga, i + 2, none⟩ = false) (g3 : w.frozen? ⟨ga, i + 3, none⟩ = false)
    (left : Int) (hl0 : -10000 ≤ left) (hl1 : left ≤ 262144) (cm : w.cell? ⟨p, 0, none⟩ = some (.pointer (some ⟨mq, 0, none⟩))) (cl : w.cell? ⟨p, 5, none⟩ = some (.int .i64 left)) (fl : w.frozen? ⟨p, 5, none⟩ = false)
    (m gE cE : Nat) (hm : m ≤ 4096) (npg : p ≠ ga) (_npq : p ≠ rq) (hrq : w.cell? ⟨rq, 1, none⟩ = some (.slice (some ⟨gE, 0, none⟩) m cE))
    (n : Int) (M : Option Addr → World → Prop) (M2 : Option Addr → Option Addr → World → Prop) (dB rB : List Nat) (hga : ga ∉ dB) (hgr : ga ∉ rB)
    (hD : ∀ w1, Fr w w1 [p] → Calls Tryz.prog 26 #[.pointer (some ⟨dp, 0, none⟩)] w1 fun e w' => ∃ x, e = .returned (.tuple #[.pointer x, .int .i64 n]) ∧ M x w' ∧ Fr w1 w' dB)
    (hMd : ∀ x w1, M x w1 → M x w1.drew)
    (hR : ∀ x w1, M x w1 → Calls Tryz.prog 122 #[.pointer (some ⟨mq, 0, none⟩), .pointer (some ⟨rq, 0, none⟩)] w1 fun e w' => ∃ y, e = .returned (.tuple #[.pointer y, .int .i64 n]) ∧ M2 x y w' ∧ y.isSome = x.isSome ∧ Fr w1 w' rB) (hpd : p ∉ dB) (hpr : p ∉ rB) :
    Calls Tryz.prog 73 #[.pointer (some ⟨p, 0, none⟩), .pointer (some ⟨ga, i, none⟩)] w fun e w' => e = .returned (.bool true) ∧ ∃ x y w2, M2 x y w2 ∧ Fr w w2 (p :: (dB ++ rB)) ∧ w' = (w2.setCell ⟨ga, i + 2, none⟩ (.pointer x)).setCell ⟨ga, i + 3, none⟩ (.pointer y) ∧ ∀ t vs, RowIs w p t vs → RowIs w2 p t (vs.set 5 (.int .i64 (left - m))) := by
  have lga : ga < w.heap.size := World.block_lt_of_cell? w _ c0
  have lp : p < w.heap.size := World.block_lt_of_cell? w _ cl
  have lq : rq < w.heap.size := World.block_lt_of_cell? w _ hrq
  have HD : Hid _ := hD
  have HR : Hid _ := hR
  have HM : Hid _ := hMd
  clear hD hR hMd
  go_enter Tryz.func73, Tryz.ntmps73
  go_wp2
  go_region
  have f1 : Hid (Fr w (w.setCell ⟨p, 5, none⟩ (.int .i64 (left - m))).drew [p]) := ((Fr.refl w [p]).setCell _ _ (.inl (by simp))).drew
  have hRow : Hid (∀ t' vs, RowIs w p t' vs → RowIs (w.setCell ⟨p, 5, none⟩ (.int .i64 (left - m))).drew p t' (vs.set 5 (.int .i64 (left - m)))) := fun t' vs hr => (hr.set 5 (.int .i64 (left - m))).drew
  have ng : ga ∉ [p] := by simpa using npg.symm
  have x0 := fr_cell f1.out c0 ng
  have x1 := fr_cell f1.out c1 ng
  have x2 := fr_cell f1.out c2 ng
  have x3 := fr_cell f1.out c3 ng
  have xm : (w.setCell ⟨p, 5, none⟩ (.int .i64 (left - m))).drew.cell? ⟨p, 0, none⟩ = some (.pointer (some ⟨mq, 0, none⟩)) := by
    rw [World.cell?_drew, World.cell?_setCell_other _ _ _ _ (by simp)]
    exact cm
  have y2 : (w.setCell ⟨p, 5, none⟩ (.int .i64 (left - m))).drew.frozen? ⟨ga, i + 2, none⟩ = false := by rw [World.frozen?_of_block (f1.out.block ga lga ng)]; exact g2
  have y3 : (w.setCell ⟨p, 5, none⟩ (.int .i64 (left - m))).drew.frozen? ⟨ga, i + 3, none⟩ = false := by rw [World.frozen?_of_block (f1.out.block ga lga ng)]; exact g3
  have lg2 : ga < (w.setCell ⟨p, 5, none⟩ (.int .i64 (left - m))).drew.heap.size := by simpa using lga
  clear c0 c1 c2 c3 cl fl hrq g2 g3 cm
  generalize (w.setCell ⟨p, 5, none⟩ (.int .i64 (left - m))).drew = W at *
  have hF := HD.out W f1.out
  go_wp2_with (go_at_call 26; refine hF.mono ?_; rintro e w2 ⟨x, rfl, hM, hf⟩; clear hF; have k1 := fr_cell hf x1 hga; have k2 := fr_cell hf x2 hga; have k3 := fr_cell hf x3 hga; have km := fr_cell hf xm hpd; have l2 : w2.frozen? ⟨ga, i + 2, none⟩ = false := (by rw [World.frozen?_of_block (hf.block ga lg2 hga)]; exact y2); have l3 : w2.frozen? ⟨ga, i + 3, none⟩ = false := (by rw [World.frozen?_of_block (hf.block ga lg2 hga)]; exact y3))
  have hM2 : Hid _ := HM.out _ _ hM
  have lg3 : ga < w2.heap.size := Nat.lt_of_lt_of_le lg2 hf.size
  clear x0 x1 x2 x3 xm y2 y3
  go_region_held3 (fun w' => w'.cell? ⟨p, 0, none⟩ = some (.pointer (some ⟨mq, 0, none⟩)) ∧ w'.cell? ⟨ga, i + 1, none⟩ = some (.pointer (some ⟨rq, 0, none⟩))) ((first | exact ⟨jm, j1⟩ | (go_split_ands; refine ⟨by go_keep, by go_keep⟩)))
    ((go_at_call 122; refine (HR.out _ _ hM2.out).mono ?_; rintro e w3 ⟨y, rfl, hM3, hxy, hf3⟩; have j1 : w3.cell? ⟨ga, i + 1, none⟩ = some (.pointer (some ⟨rq, 0, none⟩)) := fr_cell hf3 (by simpa using k1) hgr; have jm : w3.cell? ⟨p, 0, none⟩ = some (.pointer (some ⟨mq, 0, none⟩)) := fr_cell hf3 (by simpa using km) hpr; have j2 : w3.cell? ⟨ga, i + 2, none⟩ = some (.pointer z2) := fr_cell hf3 (by simpa using k2) hgr; have j3 : w3.cell? ⟨ga, i + 3, none⟩ = some (.pointer z3) := fr_cell hf3 (by simpa using k3) hgr; have m2 : w3.frozen? ⟨ga, i + 2, none⟩ = false := (by rw [World.frozen?_of_block (hf3.block ga (by simpa using lg3) hgr)]; simpa using l2); have m3 : w3.frozen? ⟨ga, i + 3, none⟩ = false := (by rw [World.frozen?_of_block (hf3.block ga (by simpa using lg3) hgr)]; simpa using l3)))
  have hF3 : Hid (Fr w w3 (p :: (dB ++ rB))) := (((f1.out.wider (by simp)).trans hf (fun y hy _ => by simp [hy])).drew).trans hf3 (fun y hy _ => by simp [hy])
  have hRow3 : Hid (∀ t' vs, RowIs w p t' vs → RowIs w3 p t' (vs.set 5 (.int .i64 (left - m)))) := fun t' vs hr => hf3.row (hf.row (hRow.out t' vs hr) hpd).drew hpr
  clear k1 k2 k3 km l2 l3 j1 jm
  cases x <;> cases y
  all_goals first | (simp at hxy; done) | skip
  all_goals clear hxy
  all_goals go_wp2
  all_goals go_ret
  all_goals exact ⟨rfl, _, _, w3, hM3, hF3.out, rfl, hRow3.out⟩
end Go.Proofs.YtdidjdoifpfmmaaGreatDoor
