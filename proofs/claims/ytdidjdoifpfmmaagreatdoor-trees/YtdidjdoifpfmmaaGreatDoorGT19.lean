import Derived.Test.YtdidjdoifpfmmaaGreatDoorGT18
import Derived.Test.YtdidjdoifpfmmaaGreatDoorGT3
import Derived.Test.YtdidjdoifpfmmaaGreatDoorGT7
import Derived.Test.YtdidjdoifpfmmaaGreatDoorGT9
/- A step of a script, of a disk. -/
namespace Go.Proofs.YtdidjdoifpfmmaaGreatDoor
open Go.RowKit
set_option maxRecDepth 100000 in
set_option maxHeartbeats 1600000 in
theorem step_disk {w : World} (o : OpR) (hk : o.kind = 4 ∨ o.kind = 5 ∨ o.kind = 6 ∨ o.kind = 7 ∨ o.kind = 9 ∨ o.kind = 10 ∨ o.kind = 11) (hd : -9223372036854775808 ≤ o.d ∧ o.d ≤ 9223372036854775807) (p ga n ca : Nat) (hn : 0 < n) (hn2 : n ≤ 1000000)
    (c2 : w.cell? ⟨p, 2, none⟩ = some (.slice (some ⟨ga, 0, none⟩) n ca)) (Post : World → Prop)
    (hD : ∀ w1, Below w.heap.size w w1 → Calls Tryz.prog 72 #[.pointer (some ⟨p, 0, none⟩), .pointer (some ⟨ga, pickOf o.d n * 4, none⟩), OpR.agg o] w1 fun e w' => e = .returned (.bool true) ∧ Post w') :
    Calls Tryz.prog 41 #[.pointer (some ⟨p, 0, none⟩), OpR.agg o] w fun e w' => e = .returned (.bool true) ∧ Post w' := by
  unfold OpR.agg at hD ⊢
  obtain ⟨k, a, b, d, s, t⟩ := o
  simp only at hk hd hD ⊢
  have lp : p < w.heap.size := World.block_lt_of_cell? w _ c2
  have hp := fun w1 => pick_any d n hn hn2 hd w1
  have hpl := pickOf_lt d n hn
  generalize pickOf d n = j at *
  have j0 : (0 : Int) ≤ (j : Int) := by omega
  have j1 : (j : Int) < (n : Int) := by omega
  have HD : Hid _ := hD
  have HP : Hid _ := hp
  clear hD hp
  rcases hk with rfl | rfl | rfl | rfl | rfl | rfl | rfl
  all_goals go_enter Tryz.func41, Tryz.ntmps41
  all_goals go_wp2
  all_goals go_region_held3 (fun w' => w'.cell? ⟨p, 2, none⟩ = some (.slice (some ⟨ga, 0, none⟩) n ca) ∧ w'.cell? ⟨w.heap.size, 3, none⟩ = some (.int .i64 d)) ((go_split_ands; refine ⟨by go_keep, by go_keep⟩))
    ((go_at_call 71; refine (HP.out _).mono ?_; rintro e w2 ⟨rfl, rfl⟩))
  all_goals go_wp2_with (go_at_call 72; refine (HD.out _ ((below_box w _).drew)).mono ?_; rintro e w3 ⟨rfl, h3⟩)
  all_goals go_ret
  all_goals exact ⟨rfl, h3⟩
end Go.Proofs.YtdidjdoifpfmmaaGreatDoor
namespace Go.Proofs.YtdidjdoifpfmmaaGreatDoor
open Go.RowKit
set_option maxRecDepth 100000 in
set_option maxHeartbeats 1600000 in
theorem step_none {w : World} (o : OpR) (hk : o.kind = 4 ∨ o.kind = 5 ∨ o.kind = 6 ∨ o.kind = 7 ∨ o.kind = 9 ∨ o.kind = 10 ∨ o.kind = 11) (p : Nat) (ag : Option Addr) (ca : Nat)
    (c2 : w.cell? ⟨p, 2, none⟩ = some (.slice ag 0 ca)) :
    Calls Tryz.prog 41 #[.pointer (some ⟨p, 0, none⟩), OpR.agg o] w fun e w' => e = .returned (.bool true) ∧ Below w.heap.size w w' := by
  unfold OpR.agg
  obtain ⟨k, a, b, d, s, t⟩ := o
  simp only at hk ⊢
  have lp : p < w.heap.size := World.block_lt_of_cell? w _ c2
  rcases hk with rfl | rfl | rfl | rfl | rfl | rfl | rfl
  all_goals go_enter Tryz.func41, Tryz.ntmps41
  all_goals go_wp2
  all_goals go_ret
  all_goals exact ⟨rfl, below_box w _⟩
theorem pairInfo : (Tryz.prog.info? 142).map (fun i => (i.zero, i.size, i.bytes)) = some (some (.agg #[.pointer none, .pointer none, .pointer none, .pointer none]), 4, 32) := by kernel_rfl
theorem four_news (W : World) (t : TypeId) (a b c d : Value) : ∀ j u, [a, b, c, d][j]? = some u → (W.alloc (.cells #[a, b, c, d] t)).cell? ((⟨W.heap.size, 0, none⟩ : Addr).add j) = some u := by
  have := World.news_of_block (cs := #[a, b, c, d]) (t := t) (fr := (0, 0)) (heap_alloc_new W (.cells #[a, b, c, d] t))
  exact this
set_option maxRecDepth 100000 in
set_option maxHeartbeats 1600000 in
theorem step_new {w : World} (o : OpR) (hk : o.kind = 3) (p n : Nat) (av : Value) (xs : List Value) (left : Int) (hl0 : -10000 ≤ left) (hl1 : left ≤ 262144) (hn : n ≤ 1000000)
    (N : Nat → World → Prop) (N2 : Nat → Nat → Nat → World → Prop)
    (c2 : w.cell? ⟨p, 2, none⟩ = some av) (c5 : w.cell? ⟨p, 5, none⟩ = some (.int .i64 left)) (fz : ∀ j, w.frozen? ⟨p, j, none⟩ = false) (hown : w.ownsRow 0 142 4 av n xs) (hpo : av.ownBlock ≠ some p)
    (hD : ∀ w1, Below w.heap.size w w1 → Calls Tryz.prog 24 #[.int .i64 o.a] w1 fun e w' => ∃ dp, e = .returned (.pointer (some ⟨dp, 0, none⟩)) ∧ N dp w' ∧ Below w1.heap.size w1 w')
    (hR : ∀ w1 dp, N dp w1 → Calls Tryz.prog 69 #[.int .i64 o.a] w1 fun e w' => ∃ rq m ag cg, e = .returned (.pointer (some ⟨rq, 0, none⟩)) ∧ N2 dp rq m w' ∧ Below w1.heap.size w1 w' ∧ w'.cell? ⟨rq, 1, none⟩ = some (.slice ag m cg) ∧ m ≤ 4096) :
    Calls Tryz.prog 41 #[.pointer (some ⟨p, 0, none⟩), OpR.agg o] w fun e w' => e = .returned (.bool true) ∧ ∃ dp rq m w2 w4 g cap, N2 dp rq m w2 ∧ Below w.heap.size w w2 ∧ w4.ownsRow 0 142 4 (.slice (some ⟨g, 0, none⟩) (n + 1) cap) (n + 1) (xs ++ [.pointer (some ⟨dp, 0, none⟩), .pointer (some ⟨rq, 0, none⟩), .pointer none, .pointer none]) ∧
      (av.ownBlock = some g ∨ w2.heap.size ≤ g) ∧ g < w4.heap.size ∧ Fr (w2.setCell ⟨p, 5, none⟩ (.int .i64 (left - m))) w4 av.ownBlock.toList ∧ w' = w4.setCell ⟨p, 2, none⟩ (.slice (some ⟨g, 0, none⟩) (n + 1) cap) := by
  unfold OpR.agg
  obtain ⟨k, a, b, d, s, t⟩ := o
  simp only at hk hD hR ⊢
  subst hk
  have lp : p < w.heap.size := World.block_lt_of_cell? w _ c2
  have HD : Hid _ := hD
  have HR : Hid _ := hR
  clear hD hR
  go_enter Tryz.func41, Tryz.ntmps41
  go_wp2_with (first
    | (go_at_call 24; refine (HD.out _ (below_box w _)).mono ?_; rintro e w1 ⟨dp, rfl, h1, b1⟩; have k1 : w1.cell? ⟨w.heap.size, 1, none⟩ = some (.int .i64 a) := (by rw [b1.cell (by simp)]; go_simp))
    | (go_at_call 69; refine (HR.out _ dp h1).mono ?_; rintro e w2 ⟨rq, m, ag, cg, rfl, h2, b2, cq, hm⟩))
  have B2 : Below w.heap.size w w2 := ((below_box w _).trans (b1.mono (by simp))).trans (b2.mono (Nat.le_trans (by simp) b1.size))
  have d2 : w2.cell? ⟨p, 2, none⟩ = some av := by rw [B2.cell lp]; exact c2
  have d5 : w2.cell? ⟨p, 5, none⟩ = some (.int .i64 left) := by rw [B2.cell lp]; exact c5
  have e5 : w2.frozen? ⟨p, 5, none⟩ = false := by rw [World.frozen?_of_block (B2.block p lp)]; exact fz 5
  have lq : rq < w2.heap.size := World.block_lt_of_cell? w2 _ cq
  obtain ⟨i0, hi, hz0, hz1, hz2⟩ := info_parts pairInfo
  go_region
  have f2 : Fr w (w2.setCell ⟨p, 5, none⟩ (.int .i64 (left - m))).drew [p] := ((Fr.of_below B2 [p]).setCell _ _ (.inl (by simp))).drew
  have hO : (w2.setCell ⟨p, 5, none⟩ (.int .i64 (left - m))).drew.ownsRow 0 142 4 av n xs := owns_fr hown f2 (fun g hg => by simp; rintro rfl; exact hpo hg)
  have g2 : (w2.setCell ⟨p, 5, none⟩ (.int .i64 (left - m))).drew.cell? ⟨p, 2, none⟩ = some av := by
    rw [World.cell?_drew, World.cell?_setCell_other _ _ _ _ (by simp)]; exact d2
  have g3 : (w2.setCell ⟨p, 5, none⟩ (.int .i64 (left - m))).drew.frozen? ⟨p, 2, none⟩ = false := by
    have := World.frozen?_of_block (B2.block p lp) (a := ⟨p, 2, none⟩)
    simpa [this] using fz 2
  obtain ⟨aw, cw, rfl⟩ : ∃ aw cw, av = .slice aw n cw := by
    rcases hown.2 with ⟨e, e0⟩ | ⟨g', cap', cur, e, _⟩
    · exact ⟨none, 0, by rw [e, e0]⟩
    · exact ⟨_, _, e⟩
  have sz : (w2.setCell ⟨p, 5, none⟩ (.int .i64 (left - m))).drew.heap.size = w2.heap.size := by simp
  have f3 : Fr (w2.setCell ⟨p, 5, none⟩ (.int .i64 (left - m))) (w2.setCell ⟨p, 5, none⟩ (.int .i64 (left - m))).drew (Value.slice aw n cw).ownBlock.toList := (Fr.refl _ _).drew
  generalize (w2.setCell ⟨p, 5, none⟩ (.int .i64 (left - m))).drew = W2 at *
  have lW : p < W2.heap.size := by rw [sz]; exact World.block_lt_of_cell? w2 _ d2
  have SZ : Hid _ := sz
  clear d2 d5 e5 f2 c2 c5 k1 cq b1 b2 sz
  go_wp2_with (at_builtin; refine wpList_append_lies _ rfl _ _ 70 rfl 0 142 i0 (.agg #[.pointer none, .pointer none, .pointer none, .pointer none]) 4 32 Tryz.underlying70 hi hz0 hz1 hz2 rfl (by decide) (.slice aw n cw) n xs rfl (hO.alloc _) ⟨W2.heap.size, 0, none⟩ 1 1 [.pointer (some ⟨dp, 0, none⟩), .pointer (some ⟨rq, 0, none⟩), .pointer none, .pointer none] rfl rfl (four_news _ _ _ _ _ _) (by intro u hu; simp at hu; rcases hu with rfl | rfl | rfl <;> rfl) (by decide) (by unfold maxLen; omega) (by omega) (Nat.zero_le _) (W2.heap.size + 1) (by simp) ?_; intro g cap w4 hown4 hgrow4 hat hlt; have r2 : w4.cell? ⟨p, 2, none⟩ = some (.slice aw n cw) := (by rw [hgrow4.cell_far _ (by simp; omega) hpo.symm]; rw [World.cell?_alloc_lt _ _ _ lW]; exact g2); have r3 : w4.frozen? ⟨p, 2, none⟩ = false := (by rw [hgrow4.frozen_far _ (by simp; omega) hpo.symm]; rw [World.frozen?_alloc_past _ _ _ lW]; exact g3))
  go_ret
  have hs := SZ.out
  exact ⟨rfl, dp, rq, m, w2, w4, g, cap, h2, B2, hown4, hat.imp id (fun h => by omega), hlt, (f3.alloc _).grown hgrow4 (fun k hk => .inl (by rw [hk]; simp)), rfl⟩
end Go.Proofs.YtdidjdoifpfmmaaGreatDoor
namespace Go.Proofs.YtdidjdoifpfmmaaGreatDoor
open Go.RowKit
set_option maxRecDepth 100000 in
set_option maxHeartbeats 1600000 in
theorem step_keep {w : World} (o : OpR) (hk : o.kind = 8) (p n : Nat) (kv : Value) (xs : List Value) (hn : n ≤ 1000000)
    (c1 : w.cell? ⟨p, 1, none⟩ = some kv) (fz : w.frozen? ⟨p, 1, none⟩ = false) (hown : w.ownsRow 0 3 1 kv n xs) (hpo : kv.ownBlock ≠ some p) :
    Calls Tryz.prog 41 #[.pointer (some ⟨p, 0, none⟩), OpR.agg o] w fun e w' => e = .returned (.bool true) ∧ ∃ w4 g cap, w4.ownsRow 0 3 1 (.slice (some ⟨g, 0, none⟩) (n + 1) cap) (n + 1) (xs ++ [.int .i64 o.a]) ∧
      (kv.ownBlock = some g ∨ w.heap.size ≤ g) ∧ g < w4.heap.size ∧ Fr w w4 kv.ownBlock.toList ∧ w' = w4.setCell ⟨p, 1, none⟩ (.slice (some ⟨g, 0, none⟩) (n + 1) cap) := by
  unfold OpR.agg
  obtain ⟨k, a, b, d, s, t⟩ := o
  simp only at hk ⊢
  subst hk
  have lp : p < w.heap.size := World.block_lt_of_cell? w _ c1
  obtain ⟨aw, cw, rfl⟩ : ∃ aw cw, kv = .slice aw n cw := by
    rcases hown.2 with ⟨e, e0⟩ | ⟨g', cap', cur, e, _⟩
    · exact ⟨none, 0, by rw [e, e0]⟩
    · exact ⟨_, _, e⟩
  obtain ⟨i0, hi0, hz0, hz1, hz2⟩ := info_parts intInfo
  have hf1 : Fr w (w.alloc (.cells #[.int .i64 8, .int .i64 a, .int .i64 b, .int .i64 d, .string s, .string t] 67)).drew (Value.slice aw n cw).ownBlock.toList := ((Fr.refl w _).alloc _).drew
  have hown1 : (w.alloc (.cells #[.int .i64 8, .int .i64 a, .int .i64 b, .int .i64 d, .string s, .string t] 67)).drew.ownsRow 0 3 1 (.slice aw n cw) n xs := (hown.alloc _).drew
  have cpd : (w.alloc (.cells #[.int .i64 8, .int .i64 a, .int .i64 b, .int .i64 d, .string s, .string t] 67)).drew.cell? ⟨p, 1, none⟩ = some (.slice aw n cw) := by rw [World.cell?_drew, World.cell?_alloc_lt _ _ _ lp]; exact c1
  have fpd : (w.alloc (.cells #[.int .i64 8, .int .i64 a, .int .i64 b, .int .i64 d, .string s, .string t] 67)).drew.frozen? ⟨p, 1, none⟩ = false := by rw [World.frozen?_drew, World.frozen?_alloc_past _ _ _ lp]; exact fz
  have cbx : (w.alloc (.cells #[.int .i64 8, .int .i64 a, .int .i64 b, .int .i64 d, .string s, .string t] 67)).drew.cell? ⟨w.heap.size, 1, none⟩ = some (.int .i64 a) := by go_simp
  have szW : (w.alloc (.cells #[.int .i64 8, .int .i64 a, .int .i64 b, .int .i64 d, .string s, .string t] 67)).drew.heap.size = w.heap.size + 1 := by simp
  have HH : Hid _ := hown1
  have HF : Hid _ := hf1
  have HZ : Hid _ := szW
  have HC : Hid _ := cpd
  have HP : Hid _ := fpd
  have HX : Hid _ := cbx
  have HL : Hid (∀ g, (Value.slice aw n cw).ownBlock = some g → g < w.heap.size) := own_lt hown
  clear hown1 hf1 szW cpd fpd cbx hown
  go_enter Tryz.func41, Tryz.ntmps41
  go_wp2
  refine wp_at ?_
  refine wp_region_held_drew (S := fun w' => w'.cell? ⟨w.heap.size, 1, none⟩ = some (.int .i64 a)) (by kernel_rfl) HX.out (fun hHeld => ?_)
  have hown1 : (w.alloc (.cells #[.int .i64 8, .int .i64 a, .int .i64 b, .int .i64 d, .string s, .string t] 67)).drew.ownsRow 0 3 1 (.slice aw n cw) n xs := HH.out
  have hf1 := HF.out
  have szW := HZ.out
  have cpd := HC.out
  have fpd := HP.out
  have lb : w.heap.size < (w.alloc (.cells #[.int .i64 8, .int .i64 a, .int .i64 b, .int .i64 d, .string s, .string t] 67)).drew.heap.size := by omega
  generalize (w.alloc (.cells #[.int .i64 8, .int .i64 a, .int .i64 b, .int .i64 d, .string s, .string t] 67)).drew = W at *
  clear HH HF HZ HC HP HX
  refine wpAnyH_take (i := 0) (oi := ⟨some 81, .move (.tmp 0), _, _, _, none⟩) (v := .pointer (some ⟨p, 0, none⟩)) rfl (by kernel_rfl) (by kernel_rfl) (by kernel_rfl) (fun _ _ _ h => h) (Or.inl ⟨by rfl, by intro w hSw; go_simp⟩) hHeld ?_
  simp only [Act.put, List.setIfInBounds_toArray, List.set_cons_zero, List.set_cons_succ]
  refine wpAnyH_take (i := 1) (oi := ⟨some 82, .move (.tmp 0), _, _, _, none⟩) (v := .pointer (some ⟨p, 0, none⟩)) rfl (by kernel_rfl) (by kernel_rfl) (by kernel_rfl) (fun _ _ _ h => h) (Or.inl ⟨by rfl, by intro w hSw; go_simp⟩) hHeld ?_
  simp only [Act.put, List.setIfInBounds_toArray, List.set_cons_zero, List.set_cons_succ]
  refine wpAnyH_take (i := 2) (oi := ⟨some 83, .nilCheck (.tmp 82), _, _, _, none⟩) (v := .pointer (some ⟨p, 0, none⟩)) rfl (by kernel_rfl) (by kernel_rfl) (by kernel_rfl) (fun _ _ _ h => h) (Or.inl ⟨by rfl, by intro w hSw; go_simp⟩) hHeld ?_
  simp only [Act.put, List.setIfInBounds_toArray, List.set_cons_zero, List.set_cons_succ]
  refine wpAnyH_take (i := 3) (oi := ⟨some 84, .fieldAddr 73 (.tmp 83) 1, _, _, _, none⟩) (v := .pointer (some ⟨p, 1, none⟩)) rfl (by kernel_rfl) (by kernel_rfl) (by kernel_rfl) (fun _ _ _ h => h) (Or.inl ⟨by rfl, by intro w hSw; go_simp⟩) hHeld ?_
  simp only [Act.put, List.setIfInBounds_toArray, List.set_cons_zero, List.set_cons_succ]
  refine wpAnyH_take (i := 5) (oi := ⟨some 86, .fieldAddr 67 (.tmp 3) 1, _, _, _, none⟩) (v := .pointer (some ⟨w.heap.size, 1, none⟩)) rfl (by kernel_rfl) (by kernel_rfl) (by kernel_rfl) (fun _ _ _ h => h) (Or.inl ⟨by rfl, by intro w hSw; go_simp⟩) hHeld ?_
  simp only [Act.put, List.setIfInBounds_toArray, List.set_cons_zero, List.set_cons_succ]
  refine wpAnyH_take (i := 6) (oi := ⟨some 87, .load 3 (.tmp 86), _, _, _, none⟩) (v := .int .i64 a) rfl (by kernel_rfl) (by kernel_rfl) (by kernel_rfl) (fun _ _ _ h => h) (Or.inl ⟨by rfl, by intro w hSw; go_simp⟩) hHeld ?_
  simp only [Act.put, List.setIfInBounds_toArray, List.set_cons_zero, List.set_cons_succ]
  have hal : (W.alloc (.cells #[.int .i64 a] 3)).cell? ⟨w.heap.size, 1, none⟩ = some (.int .i64 a) := by rw [World.cell?_alloc_lt _ _ _ lb]; exact hHeld
  have lpW : p < W.heap.size := World.block_lt_of_cell? W _ cpd
  have cpa : (W.alloc (.cells #[.int .i64 a] 3)).cell? ⟨p, 1, none⟩ = some (.slice aw n cw) := by rw [World.cell?_alloc_lt _ _ _ lpW]; exact cpd
  have fpa : (W.alloc (.cells #[.int .i64 a] 3)).frozen? ⟨p, 1, none⟩ = false := by rw [World.frozen?_alloc_past _ _ _ lpW]; exact fpd
  have hown2 : (W.alloc (.cells #[.int .i64 a] 3)).ownsRow 0 3 1 (.slice aw n cw) n xs := hown1.alloc _
  have hfr2 : Fr w (W.alloc (.cells #[.int .i64 a] 3)) (Value.slice aw n cw).ownBlock.toList := hf1.alloc _
  have szA : (W.alloc (.cells #[.int .i64 a] 3)).heap.size = W.heap.size + 1 := by simp
  have news : ∀ j u, [Value.int .i64 a][j]? = some u → (W.alloc (.cells #[.int .i64 a] 3)).cell? ((⟨W.heap.size, 0, none⟩ : Addr).add j) = some u := World.news_of_block (cs := #[Value.int .i64 a]) (t := 3) (fr := (0, 0)) (heap_alloc_new W (.cells #[.int .i64 a] 3))
  have howb : (Value.slice aw n cw).ownBlock ≠ some w.heap.size := fun e => Nat.lt_irrefl _ (HL.out _ e)
  refine wpAnyH_ready (rs := [4, 7]) (by kernel_rfl) (by simp) ?_
  refine AllReadyH.cons (o := ⟨some 85, .load 34 (.tmp 84), _, _, _, none⟩) rfl (fun K hK => ?_) (AllReadyH.cons (o := ⟨some 88, .buildSlice 34 1 #[(0, .tmp 87)], _, _, _, none⟩) rfl (fun K hK => ?_) AllReadyH.nil)
  · refine step_run rfl (v := .slice aw n cw) (w' := W) (by go_simp) ?_
    refine hK.out _ _ hHeld (fun hHeld => ?_)
    clear hK K
    simp only [Act.put, List.setIfInBounds_toArray, List.set_cons_zero, List.set_cons_succ]
    refine wpAnyH_ready (rs := [7]) (by kernel_rfl) (by simp) ?_
    refine AllReadyH.cons (o := ⟨some 88, .buildSlice 34 1 #[(0, .tmp 87)], _, _, _, none⟩) rfl (fun K hK => ?_) AllReadyH.nil
    refine step_run rfl (v := .slice (some ⟨W.heap.size, 0, none⟩) 1 1) (w' := W.alloc (.cells #[.int .i64 a] 3)) (by go_simp) ?_
    refine hK.out _ _ hal (fun hHeld => ?_)
    clear hK K
    simp only [Act.put, List.setIfInBounds_toArray, List.set_cons_zero, List.set_cons_succ]
    refine wpAnyH_ready (rs := [8]) (by kernel_rfl) (by simp) ?_
    refine AllReadyH.cons (o := ⟨some 89, .call { callee := .builtin .append, args := #[.tmp 85, .tmp 88], argTypes := #[34, 34] }, _, _, _, none⟩) rfl (fun K hK => ?_) AllReadyH.nil
    refine step_append_lies _ (by rfl) (.tmp 85) (.tmp 88) 34 (by rfl) 0 3 i0 _ 1 8 Tryz.underlying34 hi0 hz0 hz1 hz2 rfl (by decide) (.slice aw n cw) n xs (by rfl) hown2
        ⟨W.heap.size, 0, none⟩ 1 1 [.int .i64 a] (by rfl) (by rfl) (by exact news) (by intro u hu; simp at hu; subst hu; rfl) (by decide) (by simp [maxLen]; omega) (by omega) (Nat.zero_le _) (W.heap.size + 1) szA ?_
    intro g cap w4 hown4 hgrow4 hat hlt
    have hfr4 : Fr w w4 (Value.slice aw n cw).ownBlock.toList := hfr2.grown hgrow4 (fun k hk => .inl (by rw [hk]; simp))
    have S4 : w4.cell? ⟨w.heap.size, 1, none⟩ = some (.int .i64 a) := by rw [hgrow4.cell_far _ (by rw [szA]; show w.heap.size < _; omega) howb.symm]; exact hal
    have cp4 : w4.cell? ⟨p, 1, none⟩ = some (.slice aw n cw) := by rw [hgrow4.cell_far _ (by rw [szA]; show p < _; omega) hpo.symm]; exact cpa
    have fp4 : w4.frozen? ⟨p, 1, none⟩ = false := by rw [hgrow4.frozen_far _ (by rw [szA]; show p < _; omega) hpo.symm]; exact fpa
    have hat4 : (Value.slice aw n cw).ownBlock = some g ∨ w.heap.size ≤ g := hat.imp id (fun h => by omega)
    refine hK.out _ _ S4 (fun hHeld => ?_)
    clear hK K
    simp only [Act.put, List.setIfInBounds_toArray, List.set_cons_zero, List.set_cons_succ]
    refine wpAnyH_take (i := 9) (oi := ⟨some 90, .nilCheck (.tmp 81), _, _, _, none⟩) (v := .pointer (some ⟨p, 0, none⟩)) rfl (by kernel_rfl) (by kernel_rfl) (by kernel_rfl) (fun _ _ _ h => h) (Or.inl ⟨by rfl, by intro w _; go_simp⟩) hHeld ?_
    simp only [Act.put, List.setIfInBounds_toArray, List.set_cons_zero, List.set_cons_succ]
    refine wpAnyH_take (i := 10) (oi := ⟨some 91, .fieldAddr 73 (.tmp 90) 1, _, _, _, none⟩) (v := .pointer (some ⟨p, 1, none⟩)) rfl (by kernel_rfl) (by kernel_rfl) (by kernel_rfl) (fun _ _ _ h => h) (Or.inl ⟨by rfl, by intro w _; go_simp⟩) hHeld ?_
    simp only [Act.put, List.setIfInBounds_toArray, List.set_cons_zero, List.set_cons_succ]
    refine wpAnyH_ready (rs := [11]) (by kernel_rfl) (by simp) ?_
    refine AllReadyH.cons (o := ⟨none, .store 34 (.tmp 91) (.tmp 89), _, _, _, none⟩) rfl (fun K hK => ?_) AllReadyH.nil
    refine step_skip rfl (w' := w4.setCell ⟨p, 1, none⟩ (.slice (some ⟨g, 0, none⟩) (n + 1) cap)) (by go_simp) ?_
    refine hK.out _ _ (by rw [World.cell?_setCell_other _ _ _ _ (by first | (simp; omega) | simp)]; exact S4) (fun hHeld => ?_)
    clear hK K
    refine wpAnyH_done (by kernel_rfl) ?_ _
    clear hal cpd cpa fpd fpa hown2 hfr2 news hown1 hf1 S4 cp4 fp4
    simp only [At]
    go_wp2
    go_ret
    exact ⟨rfl, w4, g, cap, hown4, hat4, hlt, hfr4, rfl⟩
  · refine step_run rfl (v := .slice (some ⟨W.heap.size, 0, none⟩) 1 1) (w' := W.alloc (.cells #[.int .i64 a] 3)) (by go_simp) ?_
    refine hK.out _ _ hal (fun hHeld => ?_)
    clear hK K
    simp only [Act.put, List.setIfInBounds_toArray, List.set_cons_zero, List.set_cons_succ]
    refine wpAnyH_ready (rs := [4]) (by kernel_rfl) (by simp) ?_
    refine AllReadyH.cons (o := ⟨some 85, .load 34 (.tmp 84), _, _, _, none⟩) rfl (fun K hK => ?_) AllReadyH.nil
    refine step_run rfl (v := .slice aw n cw) (w' := W.alloc (.cells #[.int .i64 a] 3)) (by go_simp) ?_
    refine hK.out _ _ hal (fun hHeld => ?_)
    clear hK K
    simp only [Act.put, List.setIfInBounds_toArray, List.set_cons_zero, List.set_cons_succ]
    refine wpAnyH_ready (rs := [8]) (by kernel_rfl) (by simp) ?_
    refine AllReadyH.cons (o := ⟨some 89, .call { callee := .builtin .append, args := #[.tmp 85, .tmp 88], argTypes := #[34, 34] }, _, _, _, none⟩) rfl (fun K hK => ?_) AllReadyH.nil
    refine step_append_lies _ (by rfl) (.tmp 85) (.tmp 88) 34 (by rfl) 0 3 i0 _ 1 8 Tryz.underlying34 hi0 hz0 hz1 hz2 rfl (by decide) (.slice aw n cw) n xs (by rfl) hown2
        ⟨W.heap.size, 0, none⟩ 1 1 [.int .i64 a] (by rfl) (by rfl) (by exact news) (by intro u hu; simp at hu; subst hu; rfl) (by decide) (by simp [maxLen]; omega) (by omega) (Nat.zero_le _) (W.heap.size + 1) szA ?_
    intro g cap w4 hown4 hgrow4 hat hlt
    have hfr4 : Fr w w4 (Value.slice aw n cw).ownBlock.toList := hfr2.grown hgrow4 (fun k hk => .inl (by rw [hk]; simp))
    have S4 : w4.cell? ⟨w.heap.size, 1, none⟩ = some (.int .i64 a) := by rw [hgrow4.cell_far _ (by rw [szA]; show w.heap.size < _; omega) howb.symm]; exact hal
    have cp4 : w4.cell? ⟨p, 1, none⟩ = some (.slice aw n cw) := by rw [hgrow4.cell_far _ (by rw [szA]; show p < _; omega) hpo.symm]; exact cpa
    have fp4 : w4.frozen? ⟨p, 1, none⟩ = false := by rw [hgrow4.frozen_far _ (by rw [szA]; show p < _; omega) hpo.symm]; exact fpa
    have hat4 : (Value.slice aw n cw).ownBlock = some g ∨ w.heap.size ≤ g := hat.imp id (fun h => by omega)
    refine hK.out _ _ S4 (fun hHeld => ?_)
    clear hK K
    simp only [Act.put, List.setIfInBounds_toArray, List.set_cons_zero, List.set_cons_succ]
    refine wpAnyH_take (i := 9) (oi := ⟨some 90, .nilCheck (.tmp 81), _, _, _, none⟩) (v := .pointer (some ⟨p, 0, none⟩)) rfl (by kernel_rfl) (by kernel_rfl) (by kernel_rfl) (fun _ _ _ h => h) (Or.inl ⟨by rfl, by intro w _; go_simp⟩) hHeld ?_
    simp only [Act.put, List.setIfInBounds_toArray, List.set_cons_zero, List.set_cons_succ]
    refine wpAnyH_take (i := 10) (oi := ⟨some 91, .fieldAddr 73 (.tmp 90) 1, _, _, _, none⟩) (v := .pointer (some ⟨p, 1, none⟩)) rfl (by kernel_rfl) (by kernel_rfl) (by kernel_rfl) (fun _ _ _ h => h) (Or.inl ⟨by rfl, by intro w _; go_simp⟩) hHeld ?_
    simp only [Act.put, List.setIfInBounds_toArray, List.set_cons_zero, List.set_cons_succ]
    refine wpAnyH_ready (rs := [11]) (by kernel_rfl) (by simp) ?_
    refine AllReadyH.cons (o := ⟨none, .store 34 (.tmp 91) (.tmp 89), _, _, _, none⟩) rfl (fun K hK => ?_) AllReadyH.nil
    refine step_skip rfl (w' := w4.setCell ⟨p, 1, none⟩ (.slice (some ⟨g, 0, none⟩) (n + 1) cap)) (by go_simp) ?_
    refine hK.out _ _ (by rw [World.cell?_setCell_other _ _ _ _ (by first | (simp; omega) | simp)]; exact S4) (fun hHeld => ?_)
    clear hK K
    refine wpAnyH_done (by kernel_rfl) ?_ _
    clear hal cpd cpa fpd fpa hown2 hfr2 news hown1 hf1 S4 cp4 fp4
    simp only [At]
    go_wp2
    go_ret
    exact ⟨rfl, w4, g, cap, hown4, hat4, hlt, hfr4, rfl⟩
end Go.Proofs.YtdidjdoifpfmmaaGreatDoor
/- The statements' own loop over a script, with how many steps were made. -/
namespace Go.Proofs.YtdidjdoifpfmmaaGreatDoor
open Go.RowKit Digits
set_option maxHeartbeats 1000000 in
set_option maxRecDepth 3000 in
theorem upTo_gen2 (ops : List OpR) (a0 : Option Addr) (b off cap : Nat) (ha : 0 < ops.length → a0 = some ⟨b, off, none⟩) (made held : Int) (lists : Bool) (w : World) (hs : ScriptAt w b off ops) (hbl : b < w.heap.size) (hn : ops.length ≤ 262144)
    (Inv : Nat → World → Nat → Prop) (D : OpR → Bool) (Hd : Int → Bool)
    (hInit : ∀ w1 pm gk gh ck ch, MakerAt w1 pm gk gh ck ch kList hList → RowIs w1 w.heap.size 73 [.pointer (some ⟨pm, 0, none⟩), .slice none 0 0, .slice none 0 0, .slice none 0 0, .int .i64 0, .int .i64 262144] → Below w.heap.size w w1 → Inv 0 w1 w.heap.size)
    (hMono : ∀ k w1 p, Inv k w1 p → Inv (k + 1) w1 p)
    (hLeft : ∀ k w1 p, Inv k w1 p → ∃ l : Int, w1.cell? ⟨p, 5, none⟩ = some (.int .i64 l))
    (hDoes : ∀ o w1, 1 ≤ o.kind → o.kind ≤ 22 → Calls Tryz.prog 40 #[OpR.agg o, .int .i64 made] w1 fun e w' => e = .returned (.bool (D o)) ∧ Below w1.heap.size w1 w')
    (hBelow : ∀ k w1 w2 p, Inv k w1 p → Below w1.heap.size w1 w2 → Inv k w2 p)
    (hStep : ∀ k o w1, k < ops.length → o ∈ ops → 1 ≤ o.kind → o.kind ≤ 22 → D o = true → Below w.heap.size w w1 → Inv k w1 w.heap.size → (∀ l : Int, w1.cell? ⟨w.heap.size, 5, none⟩ = some (.int .i64 l) → 0 < l) → Calls Tryz.prog 41 #[.pointer (some ⟨w.heap.size, 0, none⟩), OpR.agg o] w1 fun e w' => ∃ ok, e = .returned (.bool ok) ∧ (Hd o.kind = true → ok = true) ∧ Inv (k + 1) w' w.heap.size ∧ Below w.heap.size w w')
    (hLooks : ∀ k w1, Inv k w1 w.heap.size → Below w.heap.size w w1 → Calls Tryz.prog 42 #[.pointer (some ⟨w.heap.size, 0, none⟩)] w1 fun e w' => e = .returned (.bool true) ∧ Inv k w' w.heap.size ∧ Below w.heap.size w w')
    (hHeld : ∀ k : Int, 1 ≤ k → k ≤ 22 → Hd k = false → bits .and .i64 (held / 2 ^ k.toNat) 1 = 0) :
    Calls Tryz.prog 23 #[.slice a0 ops.length cap, .int .i64 made, .int .i64 held, .bool lists] w fun e w' => e = .returned (.int .i64 (-1)) ∧ Below w.heap.size w w' := by
  have HA : Hid _ := ha
  clear ha
  have HInit : Hid _ := hInit
  have HLeft : Hid _ := hLeft
  have HDoes : Hid _ := hDoes
  have HBelow : Hid _ := hBelow
  have HStep : Hid _ := hStep
  have HLooks : Hid _ := hLooks
  have HHeld : Hid _ := hHeld
  have HMono : Hid _ := hMono
  clear hMono
  clear hInit hLeft hDoes hBelow hStep hLooks hHeld
  go_enter Tryz.func23, Tryz.ntmps23
  go_wp2_with (go_at_call 39; refine (newMaker_any _).mono ?_; rintro e w1 ⟨pm, gk, gh, ck, ch, rfl, hM, hb1, hp1, hp2, hp3⟩; have hr := (RowIs.new w 73 [.pointer none, .slice none 0 0, .slice none 0 0, .slice none 0 0, .int .i64 0, .int .i64 262144]).below hb1 (by simp); have hc := hr.cell 0; have hf := hr.frozen 0; simp only [List.getElem?_cons_zero] at hc)
  have hr1 := hr.set 0 (.pointer (some ⟨pm, 0, none⟩))
  have hb2 : Below w.heap.size w (w1.setCell ⟨w.heap.size, 0, none⟩ (.pointer (some ⟨pm, 0, none⟩))) := (((Below.refl _ _).alloc (Nat.le_refl _) _).trans (hb1.mono (by simp))).setCell (Nat.le_refl _) _
  simp only [World.size_alloc] at hp1 hp2 hp3
  have hI := HInit.out _ pm gk gh ck ch (hM.other ⟨w.heap.size, 0, none⟩ (.pointer (some ⟨pm, 0, none⟩)) (by simp; omega) (by simp; omega) (by simp; omega)) hr1 hb2
  clear hr hr1 hc hf hM hb1 hp1 hp2 hp3 HInit
  go_loopw [10] (fun i wr => ∃ k : Nat, k ≤ ops.length ∧ i = .int .i64 k ∧ Inv k wr w.heap.size ∧ Below w.heap.size w wr) (fun i _ => ops.length - (intOf i).toNat)
  case atStart => exact ⟨0, Nat.zero_le _, rfl, hI, hb2⟩
  case round =>
    clear hI hb2
    obtain ⟨k, hk, rfl, hI, hb⟩ := hrel
    obtain ⟨l, hl⟩ := HLeft.out _ _ _ hI
    by_cases hlt : k < ops.length
    · obtain rfl := HA.out (by omega)
      by_cases hl0 : 0 < l
      · obtain ⟨o, ho⟩ : ∃ o, ops[k]? = some o := ⟨ops[k], List.getElem?_eq_getElem hlt⟩
        have hmem : o ∈ ops := List.mem_of_getElem? ho
        have hsc := (hs.below hb hbl) k o ho
        have s0 : wr.cell? ⟨b, off + k * 6, none⟩ = some (.int .i64 o.kind) := hsc 0 _ rfl
        have s1 : wr.cell? ⟨b, off + k * 6 + 1, none⟩ = some (.int .i64 o.a) := hsc 1 _ rfl
        have s2 : wr.cell? ⟨b, off + k * 6 + 2, none⟩ = some (.int .i64 o.b) := hsc 2 _ rfl
        have s3 : wr.cell? ⟨b, off + k * 6 + 3, none⟩ = some (.int .i64 o.d) := hsc 3 _ rfl
        have s4 : wr.cell? ⟨b, off + k * 6 + 4, none⟩ = some (.string o.s) := hsc 4 _ rfl
        have s5 : wr.cell? ⟨b, off + k * 6 + 5, none⟩ = some (.string o.t) := hsc 5 _ rfl
        have ho2 : Hid (ops[k]? = some o) := ho
        clear hsc ho
        by_cases hr : 1 ≤ o.kind ∧ o.kind ≤ 22
        · obtain ⟨hr1, hr2⟩ := hr
          have hD := HDoes.out o wr hr1 hr2
          unfold OpR.agg at hD
          cases hd : D o
          · rw [hd] at hD
            go_wp2_with (go_at_call 40; refine hD.mono ?_; rintro e w2 ⟨rfl, hb2⟩)
            go_roundw
            case rel => exact ⟨k + 1, by omega, by go_num, HMono.out _ _ _ (HBelow.out _ _ _ _ hI hb2), hb.trans (hb2.mono hb.size)⟩
            case measure => simp [intOf]; omega
          · rw [hd] at hD
            have HL2 : Hid (∀ w2, Below wr.heap.size wr w2 → ∀ l' : Int, w2.cell? ⟨w.heap.size, 5, none⟩ = some (.int .i64 l') → 0 < l') := by
              intro w2 hb2 l' hl'
              rw [hb2.cell (World.block_lt_of_cell? wr _ hl), hl] at hl'
              injection hl' with hl'
              injection hl' with _ hl'
              omega
            have hS := fun w2 (hb2 : Below wr.heap.size wr w2) => HStep.out k o w2 hlt hmem hr1 hr2 hd (hb.trans (hb2.mono hb.size)) (HBelow.out _ _ _ _ hI hb2) (HL2.out w2 hb2)
            unfold OpR.agg at hS
            have HS : Hid _ := hS
            have hH : Hid _ := HHeld.out o.kind hr1 hr2
            clear hS
            go_wp2_with (first | (go_at_call 40; refine hD.mono ?_; rintro e w2 ⟨rfl, hb2⟩; have hS2 := HS.out w2 hb2; have z := ((hs.below hb hbl).below hb2 (Nat.lt_of_lt_of_le hbl hb.size)) k o ho2.out; have z0 : w2.cell? ⟨b, off + k * 6, none⟩ = some (.int .i64 o.kind) := z 0 _ rfl; have z1 : w2.cell? ⟨b, off + k * 6 + 1, none⟩ = some (.int .i64 o.a) := z 1 _ rfl; have z2 : w2.cell? ⟨b, off + k * 6 + 2, none⟩ = some (.int .i64 o.b) := z 2 _ rfl; have z3 : w2.cell? ⟨b, off + k * 6 + 3, none⟩ = some (.int .i64 o.d) := z 3 _ rfl; have z4 : w2.cell? ⟨b, off + k * 6 + 4, none⟩ = some (.string o.s) := z 4 _ rfl; have z5 : w2.cell? ⟨b, off + k * 6 + 5, none⟩ = some (.string o.t) := z 5 _ rfl; clear hD z HS) | (go_at_call 41; refine hS2.mono ?_; rintro e w3 ⟨ok, rfl, hok, hI3, hb3⟩; clear hS2) | (go_at_call 42; refine (HLooks.out _ w3 hI3 hb3).mono ?_; rintro e w4 ⟨rfl, hI4, hb4⟩))
            all_goals first
              | (refine ⟨⟨k + 1, by omega, by go_num, hI4, hb4⟩, ?_⟩; simp [intOf]; omega)
              | (exfalso; have hnk : ¬ ok = true := by assumption
                 have hbt : (bits BinOp.and IntKind.i64 (held / 2 ^ o.kind.toNat) 1 == 1) = true := by assumption
                 have hf : Hd o.kind = false := by
                   cases hq : Hd o.kind
                   · rfl
                   · exact absurd (hok hq) hnk
                 rw [hH.out hf] at hbt
                 exact absurd hbt (by decide))
        · by_cases h1 : o.kind < 1
          · go_wp2
            go_roundw
            case rel => exact ⟨k + 1, by omega, by go_num, HMono.out _ _ _ hI, hb⟩
            case measure => simp [intOf]; omega
          · have h2 : 22 < o.kind := by omega
            go_wp2
            go_roundw
            case rel => exact ⟨k + 1, by omega, by go_num, HMono.out _ _ _ hI, hb⟩
            case measure => simp [intOf]; omega
      · go_wp2
        go_ret
        exact ⟨rfl, hb⟩
    · go_wp2
      go_ret
      exact ⟨rfl, hb⟩
end Go.Proofs.YtdidjdoifpfmmaaGreatDoor
/- The program's Read: a sector for which a write waits; no such sector. -/
namespace Go.Proofs.YtdidjdoifpfmmaaGreatDoor
open Go.RowKit
theorem rangeAt_tail {w : World} {b o : Nat} {v : Value} {cs : List Value} (h : w.rangeAt b o (v :: cs)) : w.rangeAt b (o + 1) cs := by
  intro j u hu
  rw [show o + 1 + j = o + (j + 1) by omega]
  exact h (j + 1) u (by simpa using hu)
/-- Where writes wait, their slice has a block. -/
theorem DevAt.waits {w : World} {d : DP} {S : Dk} (h : DevAt w d S) (hne : 0 < S.wait.length) : ∃ g cap, d.wv = .slice (some ⟨g, 0, none⟩) S.wait.length cap ∧ Has w g 192 cap 65 (wcells S.wait) ∧ S.wait.length ≤ cap ∧ cap ≤ maxLen ∧ d.p ≠ g ∧ d.gs ≠ g ∧ d.gm ≠ g := by
  rcases h.wait.2 with ⟨e, e0⟩ | ⟨g, cap, cur, e, _⟩
  · omega
  · have hw := h.wait
    rw [e] at hw
    obtain ⟨h1, h2, h3⟩ := has_of_owns hw
    exact ⟨g, cap, e, h1, h2, h3, h.ne.2.2.2 g (by rw [e]; rfl)⟩
set_option maxRecDepth 100000 in
set_option maxHeartbeats 1600000 in
theorem devRead_some {w : World} {d : DP} {S : Dk} (h : DevAt w d S) (ok : S.Ok) (k : Nat) (hk : k < S.safe.length) (hyes : Maps.has (lastD S.wait) (.int .i64 (k : Nat)) = true) (i : Nat) (y : ByteArray) (hi : S.wait[i]? = some (k, y))
    (hat : ∀ z, (lastD S.wait).atKey (.int .i64 (k : Nat)) z = .lit (.int .i64 (i : Nat))) :
    Calls Tryz.prog 84 #[.pointer (some ⟨d.p, 0, none⟩), .int .i64 (k : Nat)] w fun e w' =>
      e = .returned (.tuple #[.string y, .nilIface]) ∧ DevAt w' d S ∧ Fr w w' [d.p] := by
  obtain ⟨hil, hiy⟩ := List.getElem?_eq_some_iff.1 hi
  obtain ⟨g, cap, hwv, hw, hlc, hcm, n1, n2, n3⟩ := h.waits (by omega)
  have z0 : w.cell? ⟨d.p, 0, none⟩ = some (.int .i32 0) := h.row.cell 0
  have z1 := h.row.frozen 0
  have h1 := h.row.set 0 (.int .i32 1)
  have c2 : (w.setCell ⟨d.p, 0, none⟩ (.int .i32 1)).cell? ⟨d.p, 2, none⟩ = some (.slice (some ⟨d.gs, 0, none⟩) S.safe.length S.safe.length) := h1.cell 2
  have hn := ok.most
  have hfew := ok.few
  have hh := devHas_any (d := d) (S := S) (lk := 1) h1 ok k
  rw [decide_eq_true (by omega)] at hh
  have hsec := ok.sec
  have hr1 : RowIs (w.setCell ⟨d.p, 0, none⟩ (.int .i32 1)) d.gs 190 (secs S.safe) := h.safe.other _ (by simpa using h.ne.1.symm)
  have hl64 : (bytes (textOf S.safe[k])).length = 64 := sec_length _ (hsec _ (List.getElem_mem hk))
  have hy64 : (bytes (textOf y)).length = 64 := sec_length _ (ok.wr (k, y) (List.mem_of_getElem? hi)).2
  have hrg := secs_range hr1 hsec k hk
  have hi1 : (Tryz.prog.info? 190).map (·.size) = some (bytes (textOf S.safe[k])).length := by rw [hl64]; exact secSize
  have hi3 : (Tryz.prog.info? 190).map (·.size) = some (bytes (textOf y)).length := by rw [hy64]; exact secSize
  have hw3 := RowIs.new (w.setCell ⟨d.p, 0, none⟩ (.int .i32 1)) 190 (bytes (textOf y))
  have hB : ∀ o, Below (w.setCell ⟨d.p, 0, none⟩ (.int .i32 1)).heap.size (w.setCell ⟨d.p, 0, none⟩ (.int .i32 1)) ((w.setCell ⟨d.p, 0, none⟩ (.int .i32 1)).alloc o) := fun o => (Below.refl _ _).alloc (Nat.le_refl _) _
  have h2 := h1.below (hB (.cells (bytes (textOf S.safe[k])).toArray 190)) h1.lt
  have h3 := h1.below (hB (.cells (bytes (textOf y)).toArray 190)) h1.lt
  have c4 : ((w.setCell ⟨d.p, 0, none⟩ (.int .i32 1)).alloc (.cells (bytes (textOf S.safe[k])).toArray 190)).cell? ⟨d.p, 4, none⟩ = some (.map (some d.gm)) := h2.cell 4
  have c3 : ((w.setCell ⟨d.p, 0, none⟩ (.int .i32 1)).alloc (.cells (bytes (textOf S.safe[k])).toArray 190)).cell? ⟨d.p, 3, none⟩ = some (.slice (some ⟨g, 0, none⟩) S.wait.length cap) := by rw [← hwv]; exact h2.cell 3
  have hm2 : ((w.setCell ⟨d.p, 0, none⟩ (.int .i32 1)).alloc (.cells (bytes (textOf S.safe[k])).toArray 190)).ownsMap (H := Unit) Tryz.prog 3 (plainElem Tryz.prog 3) d.gm S.wait.length (lastD S.wait) := (h.last.setCell (by simpa using h.ne.2.1.symm) _).alloc _
  obtain ⟨c, hlook, hc⟩ := last_look hm2 k (by omega)
  rw [hyes] at hlook
  rw [hat] at hc
  injection hc with hc
  injection hc with _ hc
  subst hc
  have hwr := (hw.other (a := ⟨d.p, 0, none⟩) (.int .i32 1) (by simpa using n1.symm)).keep ((hB (.cells (bytes (textOf S.safe[k])).toArray 190)).block g (by simpa using hw.lt))
  have hrw := rangeAt_tail (wcells_range hwr (fun x hx => (ok.wr x hx).2) i hil)
  rw [hiy] at hrw
  have hconv := back_any (P := Tryz.prog) 124 9 5 Tryz.underlying124 Tryz.underlying5 Tryz.underlying9 _ _ 64 190 (textOf y) [] (by rw [List.append_nil]; exact hw3) (textOf_lt _)
  rw [text_textOf, show (textOf y).length = 64 by rw [← bytes_length]; exact hy64] at hconv
  have hs0 : (w.setCell ⟨d.p, 0, none⟩ (.int .i32 1)).heap.size = w.heap.size := by simp
  rw [hs0] at hconv
  have hone := bytes_one (textOf S.safe[k])
  have hone3 := bytes_one (textOf y)
  have hsz : (bytes (textOf S.safe[k])).toArray.size = 64 := hl64
  have hsz3 : (bytes (textOf y)).toArray.size = 64 := hy64
  have hi2 : (Tryz.prog.info? 190).map (·.size) = some (bytes (textOf S.safe[k])).toArray.size := hi1
  have hi4 : (Tryz.prog.info? 190).map (·.size) = some (bytes (textOf y)).toArray.size := hi3
  have HF : Hid (Fr w (((w.setCell ⟨d.p, 0, none⟩ (.int .i32 1)).alloc (.cells (bytes (textOf y)).toArray 190)).setCell ⟨d.p, 0, none⟩ (.int .i32 0)) [d.p]) := (((Fr.refl _ _).setCell _ _ (.inl (by simp))).alloc _).setCell _ _ (.inl (by simp))
  have HD : Hid (DevAt (((w.setCell ⟨d.p, 0, none⟩ (.int .i32 1)).alloc (.cells (bytes (textOf y)).toArray 190)).setCell ⟨d.p, 0, none⟩ (.int .i32 0)) d S) := h.turn rfl rfl (h3.set 0 (.int .i32 0)) HF.out
  have H3 : Hid _ := h3
  clear hw3 hm2 h2 h3 hB hwr hiy
  generalize bytes (textOf S.safe[k]) = C at *
  generalize bytes (textOf y) = Y at *
  go_enter_defers Tryz.func84, Tryz.ntmps84
  go_wp2_with (first
    | (go_at_call 57; refine (lock_free ⟨d.p, 0, none⟩ _ z0 z1).mono ?_; rintro e w' ⟨rfl, rfl⟩)
    | (go_at_call 142; refine hh.mono ?_; rintro e w' ⟨rfl, rfl⟩)
    | (refine wpList_load_mid rfl 190 _ rfl d.gs (k * 64) rfl _ _ hrg Tryz.underlying190 rfl hi1 ?_)
    | (refine wpList_load_mid rfl 190 _ rfl g (i * 65 + 1) rfl _ _ hrw Tryz.underlying190 rfl hi3 ?_)
    | (refine wpList_store_new rfl 190 _ _ rfl w.heap.size _ _ (by simp) rfl rfl hi2 (by rw [hsz]; rfl) hone ?_)
    | (refine wpList_store_new rfl 190 _ _ rfl w.heap.size _ _ (by simp) rfl rfl hi4 (by rw [hsz3, hsz]) hone3 ?_))
  refine leaves_cons (f := 58) (args := #[.pointer (some ⟨d.p, 0, none⟩)]) (by simp) (by simp [go_sem]) ?_
  refine (unlock_deferred ⟨d.p, 0, none⟩ .returning _ (H3.out.cell 0) (H3.out.frozen 0)).mono ?_
  rintro e u' w'' ⟨rfl, rfl, rfl⟩
  exact ⟨_, results_tmp2 rfl _ _ _, rfl, HD.out, HF.out⟩
end Go.Proofs.YtdidjdoifpfmmaaGreatDoor
