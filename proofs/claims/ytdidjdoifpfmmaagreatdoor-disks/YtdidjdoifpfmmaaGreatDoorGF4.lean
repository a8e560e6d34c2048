import Derived.Test.YtdidjdoifpfmmaaGreatDoorGF3
namespace Go.Proofs.YtdidjdoifpfmmaaGreatDoor
open Go.RowKit
set_option maxRecDepth 100000 in
set_option maxHeartbeats 1600000 in
theorem step_none {w : World} (o : OpR) (hk : o.kind = 4 ∨ o.kind = 5 ∨ o.kind = 6 ∨ o.kind = 7 ∨ o.kind = 9 ∨ o.kind = 10 ∨ o.kind = 11) (p : Nat) (ag : Option Addr) (ca : Nat)
    (c2 : w.cell? ⟨p, 2, none⟩ = some (.slice ag 0 ca)) :
    Calls Tryz.prog 41 #[.pointer (some ⟨p, 0, none⟩), OpR.agg o] w fun e w' => e = .returned (.bool true) ∧ Below w.heap.size w w' := by
  unfold OpR.agg
  obtain ⟨k, a, b, d, s, t⟩ := o
  simp only at hk ⊢
  have lp : p < w.heap.size := World.block_lt_of_cell? w _ c2
  rcases hk with rfl | rfl | rfl | rfl | rfl | rfl | rfl
  all_goals go_enter Tryz.func41, Tryz.ntmps41
  all_goals go_wp2
  all_goals go_ret
  all_goals exact ⟨rfl, below_box w _⟩
theorem pairInfo : (Tryz.prog.info? 142).map (fun i => (i.zero, i.size, i.bytes)) = some (some (.agg #[.pointer none, .pointer none, .pointer none, .pointer none]), 4, 32) := by kernel_rfl
theorem four_news (W : World) (t : TypeId) (a b c d : Value) : ∀ j u, [a, b, c, d][j]? = some u → (W.alloc (.cells #[a, b, c, d] t)).cell? ((⟨W.heap.size, 0, none⟩ : Addr).add j) = some u := by
  have := World.news_of_block (cs := #[a, b, c, d]) (t := t) (fr := (0, 0)) (heap_alloc_new W (.cells #[a, b, c, d] t))
  exact this
set_option maxRecDepth 100000 in
set_option maxHeartbeats 1600000 in
theorem step_new {w : World} (o : OpR) (hk : o.kind = 3) (p n : Nat) (av : Value) (xs : List Value) (left : Int) (hl0 : -10000 ≤ left) (hl1 : left ≤ 262144) (hn : n ≤ 1000000)
    (N : Nat → World → Prop) (N2 : Nat → Nat → Nat → World → Prop)
    (c2 : w.cell? ⟨p, 2, none⟩ = some av) (c5 : w.cell? ⟨p, 5, none⟩ = some (.int .i64 left)) (fz : ∀ j, w.frozen? ⟨p, j, none⟩ = false) (hown : w.ownsRow 0 142 4 av n xs) (hpo : av.ownBlock ≠ some p)
    (hD : ∀ w1, Below w.heap.size w w1 → Calls Tryz.prog 24 #[.int .i64 o.a] w1 fun e w' => ∃ dp, e = .returned (.pointer (some ⟨dp, 0, none⟩)) ∧ N dp w' ∧ Below w1.heap.size w1 w')
    (hR : ∀ w1 dp, N dp w1 → Calls Tryz.prog 69 #[.int .i64 o.a] w1 fun e w' => ∃ rq m ag cg, e = .returned (.pointer (some ⟨rq, 0, none⟩)) ∧ N2 dp rq m w' ∧ Below w1.heap.size w1 w' ∧ w'.cell? ⟨rq, 1, none⟩ = some (.slice ag m cg) ∧ m ≤ 4096) :
    Calls Tryz.prog 41 #[.pointer (some ⟨p, 0, none⟩), OpR.agg o] w fun e w' => e = .returned (.bool true) ∧ ∃ dp rq m w2 w4 g cap, N2 dp rq m w2 ∧ Below w.heap.size w w2 ∧ w4.ownsRow 0 142 4 (.slice (some ⟨g, 0, none⟩) (n + 1) cap) (n + 1) (xs ++ [.pointer (some ⟨dp, 0, none⟩), .pointer (some ⟨rq, 0, none⟩), .pointer none, .pointer none]) ∧
      (av.ownBlock = some g ∨ w2.heap.size ≤ g) ∧ g < w4.heap.size ∧ Fr (w2.setCell ⟨p, 5, none⟩ (.int .i64 (left - m))) w4 av.ownBlock.toList ∧ w' = w4.setCell ⟨p, 2, none⟩ (.slice (some ⟨g, 0, none⟩) (n + 1) cap) := by
  unfold OpR.agg
  obtain ⟨k, a, b, d, s, t⟩ := o
  simp only at hk hD hR ⊢
  subst hk
  have lp : p < w.heap.size := World.block_lt_of_cell? w _ c2
  have HD : Hid _ := hD
  have HR : Hid _ := hR
  clear hD hR
  go_enter Tryz.func41, Tryz.ntmps41
  go_wp2_with (first
    | (go_at_call 24; refine (HD.out _ (below_box w _)).mono ?_; rintro e w1 ⟨dp, rfl, h1, b1⟩; have k1 : w1.cell? ⟨w.heap.size, 1, none⟩ = some (.int .i64 a) := (by rw [b1.cell (by simp)]; go_simp))
    | (go_at_call 69; refine (HR.out _ dp h1).mono ?_; rintro e w2 ⟨rq, m, ag, cg, rfl, h2, b2, cq, hm⟩))
  have B2 : Below w.heap.size w w2 := ((below_box w _).trans (b1.mono (by simp))).trans (b2.mono (Nat.le_trans (by simp) b1.size))
  have d2 : w2.cell? ⟨p, 2, none⟩ = some av := by rw [B2.cell lp]; exact c2
  have d5 : w2.cell? ⟨p, 5, none⟩ = some (.int .i64 left) := by rw [B2.cell lp]; exact c5
  have e5 : w2.frozen? ⟨p, 5, none⟩ = false := by rw [World.frozen?_of_block (B2.block p lp)]; exact fz 5
  have lq : rq < w2.heap.size := World.block_lt_of_cell? w2 _ cq
  obtain ⟨i0, hi, hz0, hz1, hz2⟩ := info_parts pairInfo
  go_region
  have f2 : Fr w (w2.setCell ⟨p, 5, none⟩ (.int .i64 (left - m))).drew [p] := ((Fr.of_below B2 [p]).setCell _ _ (.inl (by simp))).drew
  have hO : (w2.setCell ⟨p, 5, none⟩ (.int .i64 (left - m))).drew.ownsRow 0 142 4 av n xs := owns_fr hown f2 (fun g hg => by simp; rintro rfl; exact hpo hg)
  have g2 : (w2.setCell ⟨p, 5, none⟩ (.int .i64 (left - m))).drew.cell? ⟨p, 2, none⟩ = some av := by
    rw [World.cell?_drew, World.cell?_setCell_other _ _ _ _ (by simp)]; exact d2
  have g3 : (w2.setCell ⟨p, 5, none⟩ (.int .i64 (left - m))).drew.frozen? ⟨p, 2, none⟩ = false := by
    have := World.frozen?_of_block (B2.block p lp) (a := ⟨p, 2, none⟩)
    simpa [this] using fz 2
  obtain ⟨aw, cw, rfl⟩ : ∃ aw cw, av = .slice aw n cw := by
    rcases hown.2 with ⟨e, e0⟩ | ⟨g', cap', cur, e, _⟩
    · exact ⟨none, 0, by rw [e, e0]⟩
    · exact ⟨_, _, e⟩
  have sz : (w2.setCell ⟨p, 5, none⟩ (.int .i64 (left - m))).drew.heap.size = w2.heap.size := by simp
  have f3 : Fr (w2.setCell ⟨p, 5, none⟩ (.int .i64 (left - m))) (w2.setCell ⟨p, 5, none⟩ (.int .i64 (left - m))).drew (Value.slice aw n cw).ownBlock.toList := (Fr.refl _ _).drew
  generalize (w2.setCell ⟨p, 5, none⟩ (.int .i64 (left - m))).drew = W2 at *
  have lW : p < W2.heap.size := by rw [sz]; exact World.block_lt_of_cell? w2 _ d2
  have SZ : Hid _ := sz
  clear d2 d5 e5 f2 c2 c5 k1 cq b1 b2 sz
  go_wp2_with (at_builtin; refine wpList_append_lies _ rfl _ _ 70 rfl 0 142 i0 (.agg #[.pointer none, .pointer none, .pointer none, .pointer none]) 4 32 Tryz.underlying70 hi hz0 hz1 hz2 rfl (by decide) (.slice aw n cw) n xs rfl (hO.alloc _) ⟨W2.heap.size, 0, none⟩ 1 1 [.pointer (some ⟨dp, 0, none⟩), .pointer (some ⟨rq, 0, none⟩), .pointer none, .pointer none] rfl rfl (four_news _ _ _ _ _ _) (by intro u hu; simp at hu; rcases hu with rfl | rfl | rfl <;> rfl) (by decide) (by unfold maxLen; omega) (by omega) (Nat.zero_le _) (W2.heap.size + 1) (by simp) ?_; intro g cap w4 hown4 hgrow4 hat hlt; have r2 : w4.cell? ⟨p, 2, none⟩ = some (.slice aw n cw) := (by rw [hgrow4.cell_far _ (by simp; omega) hpo.symm]; rw [World.cell?_alloc_lt _ _ _ lW]; exact g2); have r3 : w4.frozen? ⟨p, 2, none⟩ = false := (by rw [hgrow4.frozen_far _ (by simp; omega) hpo.symm]; rw [World.frozen?_alloc_past _ _ _ lW]; exact g3))
  go_ret
  have hs := SZ.out
  exact ⟨rfl, dp, rq, m, w2, w4, g, cap, h2, B2, hown4, hat.imp id (fun h => by omega), hlt, (f3.alloc _).grown hgrow4 (fun k hk => .inl (by rw [hk]; simp)), rfl⟩
end Go.Proofs.YtdidjdoifpfmmaaGreatDoor
namespace Go.Proofs.YtdidjdoifpfmmaaGreatDoor
open Go.RowKit
set_option maxRecDepth 100000 in
set_option maxHeartbeats 1600000 in
theorem step_keep {w : World} (o : OpR) (hk : o.kind = 8) (p n : Nat) (kv : Value) (xs : List Value) (hn : n ≤ 1000000)
    (c1 : w.cell? ⟨p, 1, none⟩ = some kv) (fz : w.frozen? ⟨p, 1, none⟩ = false) (hown : w.ownsRow 0 3 1 kv n xs) (hpo : kv.ownBlock ≠ some p) :
    Calls Tryz.prog 41 #[.pointer (some ⟨p, 0, none⟩), OpR.agg o] w fun e w' => e = .returned (.bool true) ∧ ∃ w4 g cap, w4.ownsRow 0 3 1 (.slice (some ⟨g, 0, none⟩) (n + 1) cap) (n + 1) (xs ++ [.int .i64 o.a]) ∧
      (kv.ownBlock = some g ∨ w.heap.size ≤ g) ∧ g < w4.heap.size ∧ Fr w w4 kv.ownBlock.toList ∧ w' = w4.setCell ⟨p, 1, none⟩ (.slice (some ⟨g, 0, none⟩) (n + 1) cap) := by
  unfold OpR.agg
  obtain ⟨k, a, b, d, s, t⟩ := o
  simp only at hk ⊢
  subst hk
  have lp : p < w.heap.size := World.block_lt_of_cell? w _ c1
  obtain ⟨aw, cw, rfl⟩ : ∃ aw cw, kv = .slice aw n cw := by
    rcases hown.2 with ⟨e, e0⟩ | ⟨g', cap', cur, e, _⟩
    · exact ⟨none, 0, by rw [e, e0]⟩
    · exact ⟨_, _, e⟩
  obtain ⟨i0, hi0, hz0, hz1, hz2⟩ := info_parts intInfo
  have hf1 : Fr w (w.alloc (.cells #[.int .i64 8, .int .i64 a, .int .i64 b, .int .i64 d, .string s, .string t] 67)).drew (Value.slice aw n cw).ownBlock.toList := ((Fr.refl w _).alloc _).drew
  have hown1 : (w.alloc (.cells #[.int .i64 8, .int .i64 a, .int .i64 b, .int .i64 d, .string s, .string t] 67)).drew.ownsRow 0 3 1 (.slice aw n cw) n xs := (hown.alloc _).drew
  have cpd : (w.alloc (.cells #[.int .i64 8, .int .i64 a, .int .i64 b, .int .i64 d, .string s, .string t] 67)).drew.cell? ⟨p, 1, none⟩ = some (.slice aw n cw) := by rw [World.cell?_drew, World.cell?_alloc_lt _ _ _ lp]; exact c1
  have fpd : (w.alloc (.cells #[.int .i64 8, .int .i64 a, .int .i64 b, .int .i64 d, .string s, .string t] 67)).drew.frozen? ⟨p, 1, none⟩ = false := by rw [World.frozen?_drew, World.frozen?_alloc_past _ _ _ lp]; exact fz
  have cbx : (w.alloc (.cells #[.int .i64 8, .int .i64 a, .int .i64 b, .int .i64 d, .string s, .string t] 67)).drew.cell? ⟨w.heap.size, 1, none⟩ = some (.int .i64 a) := by go_simp
  have szW : (w.alloc (.cells #[.int .i64 8, .int .i64 a, .int .i64 b, .int .i64 d, .string s, .string t] 67)).drew.heap.size = w.heap.size + 1 := by simp
  have HH : Hid _ := hown1
  have HF : Hid _ := hf1
  have HZ : Hid _ := szW
  have HC : Hid _ := cpd
  have HP : Hid _ := fpd
  have HX : Hid _ := cbx
  have HL : Hid (∀ g, (Value.slice aw n cw).ownBlock = some g → g < w.heap.size) := own_lt hown
  clear hown1 hf1 szW cpd fpd cbx hown
  go_enter Tryz.func41, Tryz.ntmps41
  go_wp2
  refine wp_at ?_
  refine wp_region_held_drew (S := fun w' => w'.cell? ⟨w.heap.size, 1, none⟩ = some (.int .i64 a)) (by kernel_rfl) HX.out (fun hHeld => ?_)
  have hown1 : (w.alloc (.cells #[.int .i64 8, .int .i64 a, .int .i64 b, .int .i64 d, .string s, .string t] 67)).drew.ownsRow 0 3 1 (.slice aw n cw) n xs := HH.out
  have hf1 := HF.out
  have szW := HZ.out
  have cpd := HC.out
  have fpd := HP.out
  have lb : w.heap.size < (w.alloc (.cells #[.int .i64 8, .int .i64 a, .int .i64 b, .int .i64 d, .string s, .string t] 67)).drew.heap.size := by omega
  generalize (w.alloc (.cells #[.int .i64 8, .int .i64 a, .int .i64 b, .int .i64 d, .string s, .string t] 67)).drew = W at *
  clear HH HF HZ HC HP HX
  refine wpAnyH_take (i := 0) (oi := ⟨some 81, .move (.tmp 0), _, _, _, none⟩) (v := .pointer (some ⟨p, 0, none⟩)) rfl (by kernel_rfl) (by kernel_rfl) (by kernel_rfl) (fun _ _ _ h => h) (Or.inl ⟨by rfl, by intro w hSw; go_simp⟩) hHeld ?_
  simp only [Act.put, List.setIfInBounds_toArray, List.set_cons_zero, List.set_cons_succ]
  refine wpAnyH_take (i := 1) (oi := ⟨some 82, .move (.tmp 0), _, _, _, none⟩) (v := .pointer (some ⟨p, 0, none⟩)) rfl (by kernel_rfl) (by kernel_rfl) (by kernel_rfl) (fun _ _ _ h => h) (Or.inl ⟨by rfl, by intro w hSw; go_simp⟩) hHeld ?_
  simp only [Act.put, List.setIfInBounds_toArray, List.set_cons_zero, List.set_cons_succ]
  refine wpAnyH_take (i := 2) (oi := ⟨some 83, .nilCheck (.tmp 82), _, _, _, none⟩) (v := .pointer (some ⟨p, 0, none⟩)) rfl (by kernel_rfl) (by kernel_rfl) (by kernel_rfl) (fun _ _ _ h => h) (Or.inl ⟨by rfl, by intro w hSw; go_simp⟩) hHeld ?_
  simp only [Act.put, List.setIfInBounds_toArray, List.set_cons_zero, List.set_cons_succ]
  refine wpAnyH_take (i := 3) (oi := ⟨some 84, .fieldAddr 73 (.tmp 83) 1, _, _, _, none⟩) (v := .pointer (some ⟨p, 1, none⟩)) rfl (by kernel_rfl) (by kernel_rfl) (by kernel_rfl) (fun _ _ _ h => h) (Or.inl ⟨by rfl, by intro w hSw; go_simp⟩) hHeld ?_
  simp only [Act.put, List.setIfInBounds_toArray, List.set_cons_zero, List.set_cons_succ]
  refine wpAnyH_take (i := 5) (oi := ⟨some 86, .fieldAddr 67 (.tmp 3) 1, _, _, _, none⟩) (v := .pointer (some ⟨w.heap.size, 1, none⟩)) rfl (by kernel_rfl) (by kernel_rfl) (by kernel_rfl) (fun _ _ _ h => h) (Or.inl ⟨by rfl, by intro w hSw; go_simp⟩) hHeld ?_
  simp only [Act.put, List.setIfInBounds_toArray, List.set_cons_zero, List.set_cons_succ]
  refine wpAnyH_take (i := 6) (oi := ⟨some 87, .load 3 (.tmp 86), _, _, _, none⟩) (v := .int .i64 a) rfl (by kernel_rfl) (by kernel_rfl) (by kernel_rfl) (fun _ _ _ h => h) (Or.inl ⟨by rfl, by intro w hSw; go_simp⟩) hHeld ?_
  simp only [Act.put, List.setIfInBounds_toArray, List.set_cons_zero, List.set_cons_succ]
  have hal : (W.alloc (.cells #[.int .i64 a] 3)).cell? ⟨w.heap.size, 1, none⟩ = some (.int .i64 a) := by rw [World.cell?_alloc_lt _ _ _ lb]; exact hHeld
  have lpW : p < W.heap.size := World.block_lt_of_cell? W _ cpd
  have cpa : (W.alloc (.cells #[.int .i64 a] 3)).cell? ⟨p, 1, none⟩ = some (.slice aw n cw) := by rw [World.cell?_alloc_lt _ _ _ lpW]; exact cpd
  have fpa : (W.alloc (.cells #[.int .i64 a] 3)).frozen? ⟨p, 1, none⟩ = false := by rw [World.frozen?_alloc_past _ _ _ lpW]; exact fpd
  have hown2 : (W.alloc (.cells #[.int .i64 a] 3)).ownsRow 0 3 1 (.slice aw n cw) n xs := hown1.alloc _
  have hfr2 : Fr w (W.alloc (.cells #[.int .i64 a] 3)) (Value.slice aw n cw).ownBlock.toList := hf1.alloc _
  have szA : (W.alloc (.cells #[.int .i64 a] 3)).heap.size = W.heap.size + 1 := by simp
  have news : ∀ j u, [Value.int .i64 a][j]? = some u → (W.alloc (.cells #[.int .i64 a] 3)).cell? ((⟨W.heap.size, 0, none⟩ : Addr).add j) = some u := World.news_of_block (cs := #[Value.int .i64 a]) (t := 3) (fr := (0, 0)) (heap_alloc_new W (.cells #[.int .i64 a] 3))
  have howb : (Value.slice aw n cw).ownBlock ≠ some w.heap.size := fun e => Nat.lt_irrefl _ (HL.out _ e)
  refine wpAnyH_ready (rs := [4, 7]) (by kernel_rfl) (by simp) ?_
  refine AllReadyH.cons (o := ⟨some 85, .load 34 (.tmp 84), _, _, _, none⟩) rfl (fun K hK => ?_) (AllReadyH.cons (o := ⟨some 88, .buildSlice 34 1 #[(0, .tmp 87)], _, _, _, none⟩) rfl (fun K hK => ?_) AllReadyH.nil)
  · refine step_run rfl (v := .slice aw n cw) (w' := W) (by go_simp) ?_
    refine hK.out _ _ hHeld (fun hHeld => ?_)
    clear hK K
    simp only [Act.put, List.setIfInBounds_toArray, List.set_cons_zero, List.set_cons_succ]
    refine wpAnyH_ready (rs := [7]) (by kernel_rfl) (by simp) ?_
    refine AllReadyH.cons (o := ⟨some 88, .buildSlice 34 1 #[(0, .tmp 87)], _, _, _, none⟩) rfl (fun K hK => ?_) AllReadyH.nil
    refine step_run rfl (v := .slice (some ⟨W.heap.size, 0, none⟩) 1 1) (w' := W.alloc (.cells #[.int .i64 a] 3)) (by go_simp) ?_
    refine hK.out _ _ hal (fun hHeld => ?_)
    clear hK K
    simp only [Act.put, List.setIfInBounds_toArray, List.set_cons_zero, List.set_cons_succ]
    refine wpAnyH_ready (rs := [8]) (by kernel_rfl) (by simp) ?_
    refine AllReadyH.cons (o := ⟨some 89, .call { callee := .builtin .append, args := #[.tmp 85, .tmp 88], argTypes := #[34, 34] }, _, _, _, none⟩) rfl (fun K hK => ?_) AllReadyH.nil
    refine step_append_lies _ (by rfl) (.tmp 85) (.tmp 88) 34 (by rfl) 0 3 i0 _ 1 8 Tryz.underlying34 hi0 hz0 hz1 hz2 rfl (by decide) (.slice aw n cw) n xs (by rfl) hown2
        ⟨W.heap.size, 0, none⟩ 1 1 [.int .i64 a] (by rfl) (by rfl) (by exact news) (by intro u hu; simp at hu; subst hu; rfl) (by decide) (by simp [maxLen]; omega) (by omega) (Nat.zero_le _) (W.heap.size + 1) szA ?_
    intro g cap w4 hown4 hgrow4 hat hlt
    have hfr4 : Fr w w4 (Value.slice aw n cw).ownBlock.toList := hfr2.grown hgrow4 (fun k hk => .inl (by rw [hk]; simp))
    have S4 : w4.cell? ⟨w.heap.size, 1, none⟩ = some (.int .i64 a) := by rw [hgrow4.cell_far _ (by rw [szA]; show w.heap.size < _; omega) howb.symm]; exact hal
    have cp4 : w4.cell? ⟨p, 1, none⟩ = some (.slice aw n cw) := by rw [hgrow4.cell_far _ (by rw [szA]; show p < _; omega) hpo.symm]; exact cpa
    have fp4 : w4.frozen? ⟨p, 1, none⟩ = false := by rw [hgrow4.frozen_far _ (by rw [szA]; show p < _; omega) hpo.symm]; exact fpa
    have hat4 : (Value.slice aw n cw).ownBlock = some g ∨ w.heap.size ≤ g := hat.imp id (fun h => by omega)
    refine hK.out _ _ S4 (fun hHeld => ?_)
    clear hK K
    simp only [Act.put, List.setIfInBounds_toArray, List.set_cons_zero, List.set_cons_succ]
    refine wpAnyH_take (i := 9) (oi := ⟨some 90, .nilCheck (.tmp 81), _, _, _, none⟩) (v := .pointer (some ⟨p, 0, none⟩)) rfl (by kernel_rfl) (by kernel_rfl) (by kernel_rfl) (fun _ _ _ h => h) (Or.inl ⟨by rfl, by intro w _; go_simp⟩) hHeld ?_
    simp only [Act.put, List.setIfInBounds_toArray, List.set_cons_zero, List.set_cons_succ]
    refine wpAnyH_take (i := 10) (oi := ⟨some 91, .fieldAddr 73 (.tmp 90) 1, _, _, _, none⟩) (v := .pointer (some ⟨p, 1, none⟩)) rfl (by kernel_rfl) (by kernel_rfl) (by kernel_rfl) (fun _ _ _ h => h) (Or.inl ⟨by rfl, by intro w _; go_simp⟩) hHeld ?_
    simp only [Act.put, List.setIfInBounds_toArray, List.set_cons_zero, List.set_cons_succ]
    refine wpAnyH_ready (rs := [11]) (by kernel_rfl) (by simp) ?_
    refine AllReadyH.cons (o := ⟨none, .store 34 (.tmp 91) (.tmp 89), _, _, _, none⟩) rfl (fun K hK => ?_) AllReadyH.nil
    refine step_skip rfl (w' := w4.setCell ⟨p, 1, none⟩ (.slice (some ⟨g, 0, none⟩) (n + 1) cap)) (by go_simp) ?_
    refine hK.out _ _ (by rw [World.cell?_setCell_other _ _ _ _ (by first | (simp; omega) | simp)]; exact S4) (fun hHeld => ?_)
    clear hK K
    refine wpAnyH_done (by kernel_rfl) ?_ _
    clear hal cpd cpa fpd fpa hown2 hfr2 news hown1 hf1 S4 cp4 fp4
    simp only [At]
    go_wp2
    go_ret
    exact ⟨rfl, w4, g, cap, hown4, hat4, hlt, hfr4, rfl⟩
  · refine step_run rfl (v := .slice (some ⟨W.heap.size, 0, none⟩) 1 1) (w' := W.alloc (.cells #[.int .i64 a] 3)) (by go_simp) ?_
    refine hK.out _ _ hal (fun hHeld => ?_)
    clear hK K
    simp only [Act.put, List.setIfInBounds_toArray, List.set_cons_zero, List.set_cons_succ]
    refine wpAnyH_ready (rs := [4]) (by kernel_rfl) (by simp) ?_
    refine AllReadyH.cons (o := ⟨some 85, .load 34 (.tmp 84), _, _, _, none⟩) rfl (fun K hK => ?_) AllReadyH.nil
    refine step_run rfl (v := .slice aw n cw) (w' := W.alloc (.cells #[.int .i64 a] 3)) (by go_simp) ?_
    refine hK.out _ _ hal (fun hHeld => ?_)
    clear hK K
    simp only [Act.put, List.setIfInBounds_toArray, List.set_cons_zero, List.set_cons_succ]
    refine wpAnyH_ready (rs := [8]) (by kernel_rfl) (by simp) ?_
    refine AllReadyH.cons (o := ⟨some 89, .call { callee := .builtin .append, args := #[.tmp 85, .tmp 88], argTypes := #[34, 34] }, _, _, _, none⟩) rfl (fun K hK => ?_) AllReadyH.nil
    refine step_append_lies _ (by rfl) (.tmp 85) (.tmp 88) 34 (by rfl) 0 3 i0 _ 1 8 Tryz.underlying34 hi0 hz0 hz1 hz2 rfl (by decide) (.slice aw n cw) n xs (by rfl) hown2
        ⟨W.heap.size, 0, none⟩ 1 1 [.int .i64 a] (by rfl) (by rfl) (by exact news) (by intro u hu; simp at hu; subst hu; rfl) (by decide) (by simp [maxLen]; omega) (by omega) (Nat.zero_le _) (W.heap.size + 1) szA ?_
    intro g cap w4 hown4 hgrow4 hat hlt
    have hfr4 : Fr w w4 (Value.slice aw n cw).ownBlock.toList := hfr2.grown hgrow4 (fun k hk => .inl (by rw [hk]; simp))
    have S4 : w4.cell? ⟨w.heap.size, 1, none⟩ = some (.int .i64 a) := by rw [hgrow4.cell_far _ (by rw [szA]; show w.heap.size < _; omega) howb.symm]; exact hal
    have cp4 : w4.cell? ⟨p, 1, none⟩ = some (.slice aw n cw) := by rw [hgrow4.cell_far _ (by rw [szA]; show p < _; omega) hpo.symm]; exact cpa
    have fp4 : w4.frozen? ⟨p, 1, none⟩ = false := by rw [hgrow4.frozen_far _ (by rw [szA]; show p < _; omega) hpo.symm]; exact fpa
    have hat4 : (Value.slice aw n cw).ownBlock = some g ∨ w.heap.size ≤ g := hat.imp id (fun h => by omega)
    refine hK.out _ _ S4 (fun hHeld => ?_)
    clear hK K
    simp only [Act.put, List.setIfInBounds_toArray, List.set_cons_zero, List.set_cons_succ]
    refine wpAnyH_take (i := 9) (oi := ⟨some 90, .nilCheck (.tmp 81), _, _, _, none⟩) (v := .pointer (some ⟨p, 0, none⟩)) rfl (by kernel_rfl) (by kernel_rfl) (by kernel_rfl) (fun _ _ _ h => h) (Or.inl ⟨by rfl, by intro w _; go_simp⟩) hHeld ?_
    simp only [Act.put, List.setIfInBounds_toArray, List.set_cons_zero, List.set_cons_succ]
    refine wpAnyH_take (i := 10) (oi := ⟨some 91, .fieldAddr 73 (.tmp 90) 1, _, _, _, none⟩) (v := .pointer (some ⟨p, 1, none⟩)) rfl (by kernel_rfl) (by kernel_rfl) (by kernel_rfl) (fun _ _ _ h => h) (Or.inl ⟨by rfl, by intro w _; go_simp⟩) hHeld ?_
    simp only [Act.put, List.setIfInBounds_toArray, List.set_cons_zero, List.set_cons_succ]
    refine wpAnyH_ready (rs := [11]) (by kernel_rfl) (by simp) ?_
    refine AllReadyH.cons (o := ⟨none, .store 34 (.tmp 91) (.tmp 89), _, _, _, none⟩) rfl (fun K hK => ?_) AllReadyH.nil
    refine step_skip rfl (w' := w4.setCell ⟨p, 1, none⟩ (.slice (some ⟨g, 0, none⟩) (n + 1) cap)) (by go_simp) ?_
    refine hK.out _ _ (by rw [World.cell?_setCell_other _ _ _ _ (by first | (simp; omega) | simp)]; exact S4) (fun hHeld => ?_)
    clear hK K
    refine wpAnyH_done (by kernel_rfl) ?_ _
    clear hal cpd cpa fpd fpa hown2 hfr2 news hown1 hf1 S4 cp4 fp4
    simp only [At]
    go_wp2
    go_ret
    exact ⟨rfl, w4, g, cap, hown4, hat4, hlt, hfr4, rfl⟩
end Go.Proofs.YtdidjdoifpfmmaaGreatDoor
