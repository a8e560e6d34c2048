import Derived.Test.YtcfngilicgaakaaGreatDoorNotU
import Derived.Deep.QuietTactic
import Derived.BigQuiet
namespace Go.Proofs.YtcfngilicgaakaaGreatDoor
open Go.RowKit

/-- What is added so far. -/
def addTo (l m : List Nat) (n : Nat) : List Nat := addW (l.take n) (m.take n) ++ l.drop n
theorem addTo_step (s t : St) (n : Nat) (h : n < 8) : (addTo s.list t.list n).set n ((s.list.getD n 0 + t.list.getD n 0) % 4294967296) = addTo s.list t.list (n + 1) := by
  obtain rfl | rfl | rfl | rfl | rfl | rfl | rfl | rfl : n = 0 ∨ n = 1 ∨ n = 2 ∨ n = 3 ∨ n = 4 ∨ n = 5 ∨ n = 6 ∨ n = 7 := by omega
  all_goals rfl
theorem addTo_get (s t : St) (n : Nat) (h : n < 8) : (addTo s.list t.list n).getD n 0 = s.list.getD n 0 := by
  obtain rfl | rfl | rfl | rfl | rfl | rfl | rfl | rfl : n = 0 ∨ n = 1 ∨ n = 2 ∨ n = 3 ∨ n = 4 ∨ n = 5 ∨ n = 6 ∨ n = 7 := by omega
  all_goals rfl
theorem addTo_len (s t : St) (n : Nat) (h : n ≤ 8) : (addTo s.list t.list n).length = 8 := by
  obtain rfl | rfl | rfl | rfl | rfl | rfl | rfl | rfl | rfl : n = 0 ∨ n = 1 ∨ n = 2 ∨ n = 3 ∨ n = 4 ∨ n = 5 ∨ n = 6 ∨ n = 7 ∨ n = 8 := by omega
  all_goals rfl
theorem St.Ok.get {s : St} (h : s.Ok) (n : Nat) : s.list.getD n 0 < 4294967296 := by
  apply getD_lt32
  intro x hx
  simp only [St.list, List.mem_cons, List.not_mem_nil, or_false] at hx
  rcases hx with rfl | rfl | rfl | rfl | rfl | rfl | rfl | rfl
  · exact h.a
  · exact h.b
  · exact h.c
  · exact h.d
  · exact h.e
  · exact h.f
  · exact h.g
  · exact h.h

theorem put_none (a : Act) (v : Value) : a.put none v = a := rfl
/-- The table of the rounds stands in memory. -/
def TabU (w : World) (g : Nat) (K : List Nat) : Prop := ∀ j, j < K.length → w.cell? ⟨g, j, none⟩ = some (.int .u32 (K.getD j 0 : Nat))
theorem TabU.below {w w' : World} {B g : Nat} {K : List Nat} (h : TabU w g K) (hb : Below B w w') (hg : g < B) : TabU w' g K := fun j hj => by
  rw [hb.cell hg]; exact h j hj

set_option maxHeartbeats 4000000 in
set_option maxRecDepth 3000 in
theorem mixed_any (K : List Nat) (hK : K.length = 64) (dK : ∀ x ∈ K, x < 4294967296) (s : St) (ok : s.Ok) (b : List Nat) (hb : b.length = 64) (hd : ∀ x ∈ b, x < 256) (w : World) (hT : TabU w 14 K) (hg : 14 < w.heap.size) :
    Calls Tryz.prog 116 #[.agg (u32s s.list).toArray, .agg (bytes b).toArray] w fun e w' => e = .returned (.agg (u32s (mix K s b)).toArray) ∧ Below w.heap.size w w' := by
  have hS := spread_any b hb hd
  go_enter Tryz.func116, Tryz.ntmps116
  go_upto_region 1 with fail
  show Code.wp _ _ _ _ (((w.alloc (.cells (u32s s.list).toArray 213)).alloc (.cells (bytes b).toArray 200)).alloc (.cells (u32s (List.replicate 8 0)).toArray 213))
  obtain ⟨hb0, h1, h2, h3, hz⟩ := three_rows w 213 200 213 (u32s s.list) (bytes b) (u32s (List.replicate 8 0))
  generalize (((w.alloc (.cells (u32s s.list).toArray 213)).alloc (.cells (bytes b).toArray 200)).alloc (.cells (u32s (List.replicate 8 0)).toArray 213)) = W at *
  have hszb : (Tryz.prog.info? 200).map (·.size) = some (bytes b).toArray.size := by rw [List.size_toArray, bytes_length, hb]; kernel_rfl
  have hlen := laid_len b 48 (Nat.le_refl _)
  have hlt := laid_lt b hd 48
  have hS1 := hS W
  have hmix : Hid (mix K s b = addW s.list (St.run K (laid b 48) s 64).list) := rfl
  generalize laid b 48 = L at *
  have hszw : (Tryz.prog.info? 269).map (·.size) = some (u32s L).toArray.size := by rw [List.size_toArray, u32s_length, hlen]; kernel_rfl
  have hone := u32s_one L
  have hold : 64 = (u32s L).toArray.size := by rw [List.size_toArray, u32s_length, hlen]
  go_wp2_with (first | (refine wpList_load_row rfl 200 _ rfl (w.heap.size + 1) rfl _ _ _ _ h2.heap Tryz.underlying200 rfl hszb ?_) | (go_at_call 157; refine hS1.mono ?_; rintro e w1 ⟨rfl, hb1⟩; clear hS1) | (refine wpList_store_row rfl 269 _ _ rfl w1.heap.size _ rfl rfl _ _ (heap_alloc_new w1 _) hszw hold hone ?_))
  show Code.wp _ _ _ _ ((w1.alloc (.cells (u32s (List.replicate 64 0)).toArray 269)).setRow w1.heap.size (u32s L).toArray)
  have hs1 := hb1.size
  have hbA : Below w1.heap.size w1 ((w1.alloc (.cells (u32s (List.replicate 64 0)).toArray 269)).setRow w1.heap.size (u32s L).toArray) := ((Below.refl _ _).alloc (Nat.le_refl _) _).setRow _ (Nat.le_refl _)
  have hbB := hb0.trans ((hb1.mono hb0.size).trans (hbA.mono (by omega)))
  have rS := ((h1.below hb1 (by omega)).below hbA (by omega))
  have r0 := rS.cell
  have r2 := ((h3.below hb1 (by omega)).below hbA (by omega))
  have rW : RowIs ((w1.alloc (.cells (u32s (List.replicate 64 0)).toArray 269)).setRow w1.heap.size (u32s L).toArray) w1.heap.size 269 (u32s L) := ⟨setRow_heap _ _ _ _ _ _ (heap_alloc_new w1 _)⟩
  have hT2 := hT.below hbB hg
  have hw1 : w.heap.size + 3 ≤ w1.heap.size := by omega
  clear h1 h2 h3 hb0 hb1 hbA hs1 hT hz hszb hszw hone hold hS hb hd
  generalize ((w1.alloc (.cells (u32s (List.replicate 64 0)).toArray 269)).setRow w1.heap.size (u32s L).toArray) = W2 at *
  generalize w1.heap.size = g3 at *
  have c0 : W2.cell? ⟨w.heap.size, 0, none⟩ = some (.int .u32 (s.a : Int)) := r0 0
  have c1 : W2.cell? ⟨w.heap.size, 1, none⟩ = some (.int .u32 (s.b : Int)) := r0 1
  have c2 : W2.cell? ⟨w.heap.size, 2, none⟩ = some (.int .u32 (s.c : Int)) := r0 2
  have c3 : W2.cell? ⟨w.heap.size, 3, none⟩ = some (.int .u32 (s.d : Int)) := r0 3
  have c4 : W2.cell? ⟨w.heap.size, 4, none⟩ = some (.int .u32 (s.e : Int)) := r0 4
  have c5 : W2.cell? ⟨w.heap.size, 5, none⟩ = some (.int .u32 (s.f : Int)) := r0 5
  have c6 : W2.cell? ⟨w.heap.size, 6, none⟩ = some (.int .u32 (s.g : Int)) := r0 6
  have c7 : W2.cell? ⟨w.heap.size, 7, none⟩ = some (.int .u32 (s.h : Int)) := r0 7
  clear r0
  rw [put_none]
  go_region
  go_wp2
  go_region
  go_wp2
  clear c0 c1 c2 c3 c4 c5 c6 c7
  have hhp0 : Hid (W2.drew.drew.heap = W2.heap) := rfl
  go_loopw [6, 7, 8, 9, 10, 11, 12, 13, 39] (fun a b c d e f g h i wr => ∃ n : Nat, n ≤ 64 ∧ i = .int .i64 n ∧ a = .int .u32 ((St.run K L s n).a : Nat) ∧ b = .int .u32 ((St.run K L s n).b : Nat) ∧ c = .int .u32 ((St.run K L s n).c : Nat) ∧ d = .int .u32 ((St.run K L s n).d : Nat) ∧ e = .int .u32 ((St.run K L s n).e : Nat) ∧ f = .int .u32 ((St.run K L s n).f : Nat) ∧ g = .int .u32 ((St.run K L s n).g : Nat) ∧ h = .int .u32 ((St.run K L s n).h : Nat) ∧ Hid (wr.heap = W2.heap) ∧ Below w.heap.size w wr) (fun _ _ _ _ _ _ _ _ i _ => 64 - (intOf i).toNat)
  case atStart => exact ⟨0, by omega, rfl, rfl, rfl, rfl, rfl, rfl, rfl, rfl, rfl, hhp0, hbB.drew.drew⟩
  case round =>
    obtain ⟨n, hn, rfl, rfl, rfl, rfl, rfl, rfl, rfl, rfl, rfl, hhp, hb⟩ := hrel
    by_cases hn64 : n < 64
    · have hck : wr.cell? ⟨14, n, none⟩ = some (.int .u32 (K.getD n 0 : Nat)) := by rw [← hT2 n (by omega)]; simp only [World.cell?, hhp.out]
      have hcw : wr.cell? ⟨g3, n, none⟩ = some (.int .u32 (L.getD n 0 : Nat)) := by rw [← u32s_get L n (by omega), ← rW.cell n]; simp only [World.cell?, hhp.out]
      have lk := getD_lt32 K dK n
      have lw := getD_lt32 L hlt n
      have hok := ok.run K L n
      have hrn : Hid (St.run K L s (n + 1) = (St.run K L s n).round (K.getD n 0) (L.getD n 0)) := rfl
      generalize K.getD n 0 = kn at hck lk hrn
      generalize L.getD n 0 = wn at hcw lw hrn
      generalize St.run K L s n = t at hok hrn ⊢
      have n1 := not_u32 t.e hok.e
      have b1 := u32_and_nat t.e t.f hok.e hok.f
      have b2 := u32_and_nat (4294967295 - t.e) t.g (by omega) hok.g
      have b3 : bits .xor .u32 ((t.e &&& t.f : Nat) : Int) (((4294967295 - t.e) &&& t.g : Nat) : Int) = ((choice t.e t.f t.g : Nat) : Int) := u32_xor_nat _ _ (and_lt _ _ hok.f) (and_lt _ _ hok.g)
      have m1 := u32_and_nat t.a t.b hok.a hok.b
      have m2 := u32_and_nat t.a t.c hok.a hok.c
      have m3 := u32_and_nat t.b t.c hok.b hok.c
      have m4 := u32_xor_nat (t.a &&& t.b) (t.a &&& t.c) (and_lt _ _ hok.b) (and_lt _ _ hok.c)
      have m5 : bits .xor .u32 (((t.a &&& t.b) ^^^ (t.a &&& t.c) : Nat) : Int) ((t.b &&& t.c : Nat) : Int) = ((majority t.a t.b t.c : Nat) : Int) := u32_xor_nat _ _ (xor_lt _ _ (and_lt _ _ hok.b) (and_lt _ _ hok.c)) (and_lt _ _ hok.c)
      have t1 : ∀ w, Calls Tryz.prog 158 #[.int .u32 (t.e : Int), .int .i64 6, .int .i64 11, .int .i64 25] w fun e w' => e = .returned (.int .u32 (big1 t.e : Nat)) ∧ w' = w := fun w => (turned_any t.e 6 11 25 hok.e (by decide) (by decide) (by decide) (by decide) (by decide) (by decide) w).mono fun e w' h => ⟨h.1, h.2.symm⟩
      have t2 : ∀ w, Calls Tryz.prog 158 #[.int .u32 (t.a : Int), .int .i64 2, .int .i64 13, .int .i64 22] w fun e w' => e = .returned (.int .u32 (big0 t.a : Nat)) ∧ w = w' := fun w => turned_any t.a 2 13 22 hok.a (by decide) (by decide) (by decide) (by decide) (by decide) (by decide) w
      have q1 := big1_lt t.e
      have q2 := big0_lt t.a
      have q3 := choice_lt t.e t.f t.g hok.f hok.g
      have q4 := majority_lt t.a t.b t.c hok.b hok.c
      have ta := hok.a
      have td := hok.d
      have th := hok.h
      have hval : Hid ((St.run K L s (n + 1)).a = (t.h + big1 t.e + choice t.e t.f t.g + kn + wn + (big0 t.a + majority t.a t.b t.c)) % 4294967296 ∧ (St.run K L s (n + 1)).e = (t.d + (t.h + big1 t.e + choice t.e t.f t.g + kn + wn)) % 4294967296 ∧ (St.run K L s (n + 1)).b = t.a ∧ (St.run K L s (n + 1)).c = t.b ∧ (St.run K L s (n + 1)).d = t.c ∧ (St.run K L s (n + 1)).f = t.e ∧ (St.run K L s (n + 1)).g = t.f ∧ (St.run K L s (n + 1)).h = t.g) := by
        rw [hrn.out]; exact ⟨rfl, rfl, rfl, rfl, rfl, rfl, rfl, rfl⟩
      clear hrn
      go_upto_region 9 with fail
      go_quiet ((go_at_call 158; exact Calls.quiet_of_same (t1 _)))
      go_wp2_with (go_at_call 158; refine (t2 _).mono ?_; rintro e w' ⟨rfl, rfl⟩)
      refine ⟨⟨n + 1, by omega, by go_num, ?_, by rw [hval.out.2.2.1], by rw [hval.out.2.2.2.1], by rw [hval.out.2.2.2.2.1], ?_, by rw [hval.out.2.2.2.2.2.1], by rw [hval.out.2.2.2.2.2.2.1], by rw [hval.out.2.2.2.2.2.2.2], hhp, below_drewN hb nq⟩, by simp [intOf]; omega⟩
      · rw [hval.out.1]
        exact congrArg (Value.int .u32) (by omega)
      · rw [hval.out.2.1]
        exact congrArg (Value.int .u32) (by omega)
    · have en : n = 64 := by omega
      subst en
      have hok := ok.run K L 64
      have R0 : RowIs wr w.heap.size 213 (u32s s.list) := ⟨by rw [hhp.out]; exact rS.heap⟩
      have R2 : RowIs wr (w.heap.size + 1 + 1) 213 (u32s (List.replicate 8 0)) := ⟨by rw [hhp.out]; exact r2.heap⟩
      clear hT2 rW rS r2 hhp hhp0 hbB hlt hlen hw1 hn64 hn
      generalize St.run K L s 64 = t at hok hmix ⊢
      go_wp2
      go_loopw [101] (fun i wv => ∃ n : Nat, n ≤ 8 ∧ i = .int .i64 n ∧ RowIs wv w.heap.size 213 (u32s (addTo s.list t.list n)) ∧ RowIs wv (w.heap.size + 1 + 1) 213 (u32s (List.replicate 8 0)) ∧ Below w.heap.size w wv) (fun i _ => 8 - (intOf i).toNat)
      case atStart => exact ⟨0, by omega, rfl, R0, R2, hb⟩
      case round =>
        clear R0 R2 hb
        obtain ⟨n, hn, rfl, R0, R2, hb⟩ := hrel
        by_cases hlt : n < 8
        · rename World => wv
          have hx : (Instr.index 213 (.agg #[.int .u32 (t.a : Int), .int .u32 (t.b : Int), .int .u32 (t.c : Int), .int .u32 (t.d : Int), .int .u32 (t.e : Int), .int .u32 (t.f : Int), .int .u32 (t.g : Int), .int .u32 (t.h : Int)]) (.int .i64 (n : Int))).run Tryz.prog wv = .ok (.int .u32 (t.list.getD n 0 : Nat)) wv :=
            index_agg wv _ _ 8 (u32s t.list) n _ Tryz.underlying213 hlt (fun _ => by kernel_rfl) (fun _ => by kernel_rfl) (u32s_get t.list n hlt)
          have hc := R0.cell n
          rw [u32s_get _ _ (by rw [addTo_len s t n hn]; exact hlt), addTo_get s t n hlt] at hc
          have hf := R0.frozen n
          have hst : Hid _ := addTo_step s t n hlt
          have l1 := hok.get n
          have l2 := ok.get n
          generalize t.list.getD n 0 = y at hx hst l1
          generalize s.list.getD n 0 = x at hc hst l2
          go_wp2
          have hR3 := R0.set n (.int .u32 (((x : Int) + (y : Int)) % 4294967296))
          rw [show (u32s (addTo s.list t.list n)).set n (.int .u32 (((x : Int) + (y : Int)) % 4294967296)) = u32s (addTo s.list t.list (n + 1)) by rw [show ((x : Int) + (y : Int)) % 4294967296 = (((x + y) % 4294967296 : Nat) : Int) by omega, u32s_set, hst.out]] at hR3
          refine ⟨⟨n + 1, by omega, by go_num, hR3, R2.other _ (by simp; omega), hb.setCell (Nat.le_refl _) _⟩, by simp [intOf]; omega⟩
        · have en : n = 8 := by omega
          have en2 : (n : Int) = 8 := by omega
          rw [en2]
          subst en
          have hadd : addTo s.list t.list 8 = mix K s b := hmix.out.symm
          rw [hadd] at R0
          have hlM : (mix K s b).length = 8 := by rw [← hadd]; exact addTo_len s t 8 (Nat.le_refl _)
          clear hadd hmix
          obtain ⟨M, HM⟩ : ∃ M, Hid (mix K s b = M) := ⟨_, rfl⟩
          rw [HM.out] at R0 hlM
          have hsz : (Tryz.prog.info? 213).map (·.size) = some (u32s M).toArray.size := by rw [List.size_toArray, u32s_length, hlM]; kernel_rfl
          have hz : (u32s (List.replicate 8 0)).toArray.size = (u32s M).toArray.size := by rw [List.size_toArray, List.size_toArray, u32s_length, u32s_length, hlM]; simp
          have hone := u32s_one M
          rename World => wv
          have hB2 : Below w.heap.size w (wv.setRow (w.heap.size + 1 + 1) (u32s M).toArray) := hb.setRow _ (by omega)
          have hg2 := setRow_heap wv (w.heap.size + 1 + 1) _ (u32s M).toArray _ _ R2.heap
          go_wp2_with (first | (refine wpList_load_row rfl 213 _ rfl w.heap.size rfl _ _ _ _ R0.heap Tryz.underlying213 rfl hsz ?_) | (refine wpList_store_row rfl 213 _ _ rfl (w.heap.size + 1 + 1) _ rfl rfl _ _ R2.heap hsz hz hone ?_))
          refine bodyPost_ret (v := .agg (u32s M).toArray) ?_ rfl ⟨by rw [HM.out], hB2⟩
          exact results_cell_row (P := Tryz.prog) Tryz.results116 _ _ (w.heap.size + 1 + 1) _ _ _ _ rfl hg2 Tryz.underlying213 rfl hsz
end Go.Proofs.YtcfngilicgaakaaGreatDoor
