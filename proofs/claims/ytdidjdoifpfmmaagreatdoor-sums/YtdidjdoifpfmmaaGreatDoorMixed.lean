import Derived.Test.YtdidjdoifpfmmaaGreatDoorMixLoop
namespace Go.Proofs.YtdidjdoifpfmmaaGreatDoor
open Go.RowKit

noncomputable def mixAdd : Code := fstC (sndC (sndC (sndC (sndC (sndC mixedCode)))))
set_option maxHeartbeats 4000000 in
set_option maxRecDepth 1000000 in
theorem mixAdd_any {x0 x1 x3 x4 x5 x14 x15 x16 x17 x18 x19 x20 x21 x22 x23 x24 x25 x26 x27 x28 x29 x30 x31 x32 x33 x34 x35 x36 x37 x38 x39 x40 x41 x42 x43 x44 x45 x46 x47 x48 x49 x50 x51 x52 x53 x54 x55 x56 x57 x58 x59 x60 x61 x62 x63 x64 x65 x66 x67 x68 x69 x70 x71 x72 x73 x74 x75 x76 x77 x78 x79 x80 x81 x82 x83 x84 x85 x86 x87 x88 x89 x90 x91 x92 x93 x94 x95 x96 x97 x98 x99 x100 x101 x102 x103 x104 x105 x106 x107 x108 x109 x110 x111 x112 : Value} (g0 gr B : Nat) (s t : St) (w : World) (Q : Exit → Act → World → Prop)
    (hB : B ≤ g0) (ok : s.Ok) (hok : t.Ok) (hne : gr ≠ g0) (R0 : RowIs w g0 293 (u32s s.list)) (R2 : RowIs w gr 293 (u32s (List.replicate 8 0)))
    (hQ : Hid (∀ (y19 y20 y92 y93 y94 y95 y96 y97 y98 y99 y100 y101 y102 y103 y104 y105 y106 y107 y108 y109 y110 y111 : Value) (w' : World), RowIs w' g0 293 (u32s (addW s.list t.list)) → RowIs w' gr 293 (u32s (List.replicate 8 0)) → Below B w w' → Q .normal ⟨#[x0, x1, .pointer (some ⟨g0, 0, none⟩), x3, x4, x5, .int .u32 (t.a : Nat), .int .u32 (t.b : Nat), .int .u32 (t.c : Nat), .int .u32 (t.d : Nat), .int .u32 (t.e : Nat), .int .u32 (t.f : Nat), .int .u32 (t.g : Nat), .int .u32 (t.h : Nat), x14, x15, x16, x17, x18, y19, y20, x21, x22, x23, x24, x25, x26, x27, x28, x29, x30, x31, x32, x33, x34, x35, x36, x37, x38, x39, x40, x41, x42, x43, x44, x45, x46, x47, x48, x49, x50, x51, x52, x53, x54, x55, x56, x57, x58, x59, x60, x61, x62, x63, x64, x65, x66, x67, x68, x69, x70, x71, x72, x73, x74, x75, x76, x77, x78, x79, x80, x81, x82, x83, x84, x85, x86, x87, x88, x89, x90, x91, y92, y93, y94, y95, y96, y97, y98, y99, y100, y101, y102, y103, y104, y105, y106, y107, y108, y109, y110, y111, x112], []⟩ w')) :
    Code.wp Tryz.prog mixAdd Q ⟨#[x0, x1, .pointer (some ⟨g0, 0, none⟩), x3, x4, x5, .int .u32 (t.a : Nat), .int .u32 (t.b : Nat), .int .u32 (t.c : Nat), .int .u32 (t.d : Nat), .int .u32 (t.e : Nat), .int .u32 (t.f : Nat), .int .u32 (t.g : Nat), .int .u32 (t.h : Nat), x14, x15, x16, x17, x18, x19, x20, x21, x22, x23, x24, x25, x26, x27, x28, x29, x30, x31, x32, x33, x34, x35, x36, x37, x38, x39, x40, x41, x42, x43, x44, x45, x46, x47, x48, x49, x50, x51, x52, x53, x54, x55, x56, x57, x58, x59, x60, x61, x62, x63, x64, x65, x66, x67, x68, x69, x70, x71, x72, x73, x74, x75, x76, x77, x78, x79, x80, x81, x82, x83, x84, x85, x86, x87, x88, x89, x90, x91, x92, x93, x94, x95, x96, x97, x98, x99, x100, x101, x102, x103, x104, x105, x106, x107, x108, x109, x110, x111, x112], []⟩ w := by
  conv => arg 2; whnf
  refine seq_at ?_
  go_wp2
  show Code.wp _ _ _ _ _
  refine wp_block ?_
  go_loopw [101] (fun i wv => ∃ n : Nat, n ≤ 8 ∧ i = .int .i64 n ∧ RowIs wv g0 293 (u32s (addTo s.list t.list n)) ∧ RowIs wv gr 293 (u32s (List.replicate 8 0)) ∧ Below B w wv) (fun i _ => 8 - (intOf i).toNat)
  case atStart => exact ⟨0, by omega, rfl, R0, R2, Below.refl _ _⟩
  case round =>
    clear R0 R2
    obtain ⟨n, hn, rfl, R0, R2, hb⟩ := hrel
    by_cases hlt : n < 8
    · have hx : (Instr.index 293 (.agg #[.int .u32 (t.a : Int), .int .u32 (t.b : Int), .int .u32 (t.c : Int), .int .u32 (t.d : Int), .int .u32 (t.e : Int), .int .u32 (t.f : Int), .int .u32 (t.g : Int), .int .u32 (t.h : Int)]) (.int .i64 (n : Int))).run Tryz.prog wr = .ok (.int .u32 (t.list.getD n 0 : Nat)) wr :=
        index_agg wr _ _ 8 (u32s t.list) n _ Tryz.underlying293 hlt (fun _ => by kernel_rfl) (fun _ => by kernel_rfl) (u32s_get t.list n hlt)
      have hc := R0.cell n
      rw [u32s_get _ _ (by rw [addTo_len s t n hn]; exact hlt), addTo_get s t n hlt] at hc
      have hf := R0.frozen n
      have hst : Hid _ := addTo_step s t n hlt
      have l1 := hok.get n
      have l2 := ok.get n
      generalize t.list.getD n 0 = y at hx hst l1
      generalize s.list.getD n 0 = x at hc hst l2
      have hR3 := R0.set n (.int .u32 (((x : Int) + (y : Int)) % 4294967296))
      rw [show (u32s (addTo s.list t.list n)).set n (.int .u32 (((x : Int) + (y : Int)) % 4294967296)) = u32s (addTo s.list t.list (n + 1)) by rw [show ((x : Int) + (y : Int)) % 4294967296 = (((x + y) % 4294967296 : Nat) : Int) by omega, u32s_set, hst.out]] at hR3
      have HR : Hid _ := hR3
      have H2 : Hid (∀ v, RowIs (wr.setCell ⟨g0, n, none⟩ v) gr 293 (u32s (List.replicate 8 0))) := fun v => R2.other v hne
      have H3 : Hid (∀ v, Below B w (wr.setCell ⟨g0, n, none⟩ v)) := fun v => hb.setCell hB v
      clear hR3 R0 R2 hb
      go_wp2
      exact ⟨⟨n + 1, by omega, by go_num, HR.out, H2.out _, H3.out _⟩, by simp [intOf]; omega⟩
    · have en : n = 8 := by omega
      subst en
      go_wp2
      exact hQ.out _ _ _ _ _ _ _ _ _ _ _ _ _ _ _ _ _ _ _ _ _ _ _ R0 R2 hb

set_option maxHeartbeats 4000000 in
set_option maxRecDepth 100000 in
theorem mixed_any (K : List Nat) (hK : K.length = 64) (dK : ∀ x ∈ K, x < 4294967296) (s : St) (ok : s.Ok) (b : List Nat) (hb : b.length = 64) (hd : ∀ x ∈ b, x < 256) (w : World) (hT : TabU w 14 K) (hg : 14 < w.heap.size) :
    Calls Tryz.prog 183 #[.agg (u32s s.list).toArray, .agg (bytes b).toArray] w fun e w' => e = .returned (.agg (u32s (mix K s b)).toArray) ∧ Below w.heap.size w w' := by
  have hS := spread_any b hb hd
  go_enter Tryz.func183, Tryz.ntmps183
  refine seq_at ?_
  go_wp2
  show Code.wp _ _ _ _ (((w.alloc (.cells (u32s s.list).toArray 293)).alloc (.cells (bytes b).toArray 189)).alloc (.cells (u32s (List.replicate 8 0)).toArray 293))
  obtain ⟨hb0, h1, h2, h3, hz⟩ := three_rows w 293 189 293 (u32s s.list) (bytes b) (u32s (List.replicate 8 0))
  generalize (((w.alloc (.cells (u32s s.list).toArray 293)).alloc (.cells (bytes b).toArray 189)).alloc (.cells (u32s (List.replicate 8 0)).toArray 293)) = W at *
  have hszb : (Tryz.prog.info? 189).map (·.size) = some (bytes b).toArray.size := by rw [List.size_toArray, bytes_length, hb]; kernel_rfl
  have hlen := laid_len b 48 (Nat.le_refl _)
  have hlt := laid_lt b hd 48
  have hS1 := hS W
  have hmix : Hid (mix K s b = addW s.list (St.run K (laid b 48) s 64).list) := rfl
  generalize laid b 48 = L at *
  have hszw : (Tryz.prog.info? 379).map (·.size) = some (u32s L).toArray.size := by rw [List.size_toArray, u32s_length, hlen]; kernel_rfl
  have hone := u32s_one L
  have hold : Hid (64 = (u32s L).toArray.size) := by show _ = _; rw [List.size_toArray, u32s_length, hlen]
  refine seq_at ?_
  go_wp2_with (first | (refine wpList_load_row rfl 189 _ rfl (w.heap.size + 1) rfl _ _ _ _ h2.heap Tryz.underlying189 rfl hszb ?_) | (go_at_call 248; refine hS1.mono ?_; rintro e w1 ⟨rfl, hb1⟩; clear hS1) | (refine wpList_store_row rfl 379 _ _ rfl w1.heap.size _ rfl rfl _ _ (heap_alloc_new w1 _) hszw hold.out hone ?_))
  show Code.wp _ _ _ _ ((w1.alloc (.cells (u32s (List.replicate 64 0)).toArray 379)).setRow w1.heap.size (u32s L).toArray)
  have hs1 := hb1.size
  have hbA : Below w1.heap.size w1 ((w1.alloc (.cells (u32s (List.replicate 64 0)).toArray 379)).setRow w1.heap.size (u32s L).toArray) := ((Below.refl _ _).alloc (Nat.le_refl _) _).setRow _ (Nat.le_refl _)
  have hbB := hb0.trans ((hb1.mono hb0.size).trans (hbA.mono (by omega)))
  have rS := ((h1.below hb1 (by omega)).below hbA (by omega))
  have r0 := rS.cell
  have r2 := ((h3.below hb1 (by omega)).below hbA (by omega))
  have rW : RowIs ((w1.alloc (.cells (u32s (List.replicate 64 0)).toArray 379)).setRow w1.heap.size (u32s L).toArray) w1.heap.size 379 (u32s L) := ⟨setRow_heap _ _ _ _ _ _ (heap_alloc_new w1 _)⟩
  have hT2 := hT.below hbB hg
  have hw1 : w.heap.size + 3 ≤ w1.heap.size := by omega
  clear h1 h2 h3 hb0 hb1 hbA hs1 hT hz hszb hszw hone hold hS hb hd
  generalize ((w1.alloc (.cells (u32s (List.replicate 64 0)).toArray 379)).setRow w1.heap.size (u32s L).toArray) = W2 at *
  generalize w1.heap.size = g3 at *
  have c0 : W2.cell? ⟨w.heap.size, 0, none⟩ = some (.int .u32 (s.a : Int)) := r0 0
  have c1 : W2.cell? ⟨w.heap.size, 1, none⟩ = some (.int .u32 (s.b : Int)) := r0 1
  have c2 : W2.cell? ⟨w.heap.size, 2, none⟩ = some (.int .u32 (s.c : Int)) := r0 2
  have c3 : W2.cell? ⟨w.heap.size, 3, none⟩ = some (.int .u32 (s.d : Int)) := r0 3
  have c4 : W2.cell? ⟨w.heap.size, 4, none⟩ = some (.int .u32 (s.e : Int)) := r0 4
  have c5 : W2.cell? ⟨w.heap.size, 5, none⟩ = some (.int .u32 (s.f : Int)) := r0 5
  have c6 : W2.cell? ⟨w.heap.size, 6, none⟩ = some (.int .u32 (s.g : Int)) := r0 6
  have c7 : W2.cell? ⟨w.heap.size, 7, none⟩ = some (.int .u32 (s.h : Int)) := r0 7
  clear r0
  refine seq_at ?_
  go_region
  show Code.wp _ _ _ _ _
  refine seq_at ?_
  go_region
  show Code.wp _ _ _ _ _
  clear c0 c1 c2 c3 c4 c5 c6 c7
  have hT3 : TabU W2.drew.drew 14 K := hT2
  have rW3 : RowIs W2.drew.drew g3 379 (u32s L) := rW.drew.drew
  refine seq_at (wp_at (mixLoop_any g3 K L s _ _ ok dK hlt hK hT3 hlen rW3 ?_))
  refine fun y14 y15 y16 y17 y18 y39 y40 y41 y42 y43 y44 y45 y46 y47 y48 y49 y50 y51 y52 y53 y54 y55 y56 y57 y58 y59 y60 y61 y62 y63 y64 y65 y66 y67 y68 y69 y70 y71 y72 y73 y74 y75 y76 y77 y78 y79 y80 y81 y82 y83 y84 y85 y86 y87 y88 y89 y90 y91 w4 hh4 hb4 => ?_
  show Code.wp _ _ _ _ _
  have hok := ok.run K L 64
  have R0 : RowIs w4 w.heap.size 293 (u32s s.list) := ⟨by rw [hh4]; exact rS.heap⟩
  have R2 : RowIs w4 (w.heap.size + 1 + 1) 293 (u32s (List.replicate 8 0)) := ⟨by rw [hh4]; exact r2.heap⟩
  have hbw4 : Below w.heap.size w w4 := hbB.drew.drew.trans (hb4.mono hbB.drew.drew.size)
  clear hT2 hT3 rW rW3 rS r2 hh4 hb4 hbB hlt hlen hw1
  generalize St.run K L s 64 = t at hok hmix ⊢
  refine seq_at (wp_at (mixAdd_any w.heap.size (w.heap.size + 1 + 1) w.heap.size s t w4 _ (Nat.le_refl _) ok hok (by omega) R0 R2 ?_))
  refine fun z19 z20 z92 z93 z94 z95 z96 z97 z98 z99 z100 z101 z102 z103 z104 z105 z106 z107 z108 z109 z110 z111 w5 R5 R6 hb5 => ?_
  show Code.wp _ _ _ _ _
  have hb := hbw4.trans hb5
  rw [← hmix.out] at R5
  have hlM : (mix K s b).length = 8 := by rw [hmix.out]; rfl
  clear hmix R0 R2 hbw4 hb5
  obtain ⟨M, HM⟩ : ∃ M, Hid (mix K s b = M) := ⟨_, rfl⟩
  rw [HM.out] at R5 hlM
  have hsz : (Tryz.prog.info? 293).map (·.size) = some (u32s M).toArray.size := by rw [List.size_toArray, u32s_length, hlM]; kernel_rfl
  have hz : (u32s (List.replicate 8 0)).toArray.size = (u32s M).toArray.size := by rw [List.size_toArray, List.size_toArray, u32s_length, u32s_length, hlM]; simp
  have hone := u32s_one M
  have hB2 : Below w.heap.size w (w5.setRow (w.heap.size + 1 + 1) (u32s M).toArray) := hb.setRow _ (by omega)
  have hg2 := setRow_heap w5 (w.heap.size + 1 + 1) _ (u32s M).toArray _ _ R6.heap
  go_wp2_with (first | (refine wpList_load_row rfl 293 _ rfl w.heap.size rfl _ _ _ _ R5.heap Tryz.underlying293 rfl hsz ?_) | (refine wpList_store_row rfl 293 _ _ rfl (w.heap.size + 1 + 1) _ rfl rfl _ _ R6.heap hsz hz hone ?_))
  refine bodyPost_ret (v := .agg (u32s M).toArray) ?_ rfl ⟨by rw [HM.out], hB2⟩
  exact results_cell_row (P := Tryz.prog) Tryz.results183 _ _ (w.heap.size + 1 + 1) _ _ _ _ rfl hg2 Tryz.underlying293 rfl hsz
end Go.Proofs.YtdidjdoifpfmmaaGreatDoor
