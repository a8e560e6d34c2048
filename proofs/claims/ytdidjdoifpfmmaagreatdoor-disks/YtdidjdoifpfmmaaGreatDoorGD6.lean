import Derived.Test.YtdidjdoifpfmmaaGreatDoorGD5
import Derived.Test.YtdidjdoifpfmmaaGreatDoorRefCrash
namespace Go.Proofs.YtdidjdoifpfmmaaGreatDoor
open Go.RowKit
noncomputable def crA : Code := fstC (sndC (sndC crCode))
theorem kept_sizes (ws : List (Nat × ByteArray)) (l : List ByteArray) (ks : List Int) (h : ∀ x ∈ l, x.size = 64) (hw : ∀ x ∈ ws, x.2.size = 64) : ∀ x ∈ keptL ws l ks, x.size = 64 := by
  induction ks generalizing l with
  | nil => exact h
  | cons k ks ih =>
    intro x hx
    refine ih (kept1 ws l k) ?_ x hx
    intro y hy
    unfold kept1 at hy
    split at hy
    · rename_i hin
      rcases List.mem_or_eq_of_mem_set hy with hy | hy
      · exact h y hy
      · rw [hy, List.getD_eq_getElem?_getD, List.getElem?_eq_getElem (by omega)]
        exact hw _ (List.getElem_mem _)
    · exact h y hy
set_option maxRecDepth 100000 in
set_option maxHeartbeats 4000000 in
theorem crA_any {df : List Deferred} {x2 x3 x4 x5 x6 x7 x8 x9 x10 x11 x12 x13 x14 x15 x16 x17 x18 x19 x20 x21 x22 x23 x24 x25 x26 x27 x28 x29 x30 x31 x32 x33 x34 x35 x36 x37 x38 x39 x40 x41 x42 x43 x44 x45 x46 x47 x48 x49 x50 x51 x52 x53 x54 x55 : Value} {w : World} {d : DP} {S : Dk} (h : Locked w d S) (ok : S.Ok) (a0 : Option Addr) (g off ck : Nat) (ks : List Int) (hks : ks.length ≤ 1000000) (hkp : KeepAt w a0 g off ks) (hg : g ∉ d.blocks) (R : Act → World → Prop)
    (hQ : Hid (∀ (y5 y6 y14 y15 y16 y17 y18 y19 y20 y21 y22 y23 y24 y25 y26 y27 y28 y29 y30 y31 y32 y33 y34 y35 y36 y37 y38 y39 y40 y41 y42 y43 y44 y45 y46 y47 : Value) (w' : World), RowIs w' d.gs 190 (secs (keptL S.wait S.safe ks)) → Fr w w' [d.gs] → R ⟨#[.pointer (some ⟨d.p, 0, none⟩), .slice a0 ks.length ck, x2, x3, x4, y5, y6, x7, x8, x9, x10, x11, x12, x13, y14, y15, y16, y17, y18, y19, y20, y21, y22, y23, y24, y25, y26, y27, y28, y29, y30, y31, y32, y33, y34, y35, y36, y37, y38, y39, y40, y41, y42, y43, y44, y45, y46, y47, x48, x49, x50, x51, x52, x53, x54, x55], df⟩ w')) :
    Code.wp Tryz.prog crA (At R) ⟨#[.pointer (some ⟨d.p, 0, none⟩), .slice a0 ks.length ck, x2, x3, x4, x5, x6, x7, x8, x9, x10, x11, x12, x13, x14, x15, x16, x17, x18, x19, x20, x21, x22, x23, x24, x25, x26, x27, x28, x29, x30, x31, x32, x33, x34, x35, x36, x37, x38, x39, x40, x41, x42, x43, x44, x45, x46, x47, x48, x49, x50, x51, x52, x53, x54, x55], df⟩ w := by
  conv => arg 2; whnf
  obtain ⟨np, npm, ngm, nown⟩ := h.ne
  obtain ⟨aw, cw, hwv⟩ := h.slice
  have hfew := ok.few
  have hmost := ok.most
  have hgq : g ≠ d.gs := fun e => hg (by rw [e]; simp [DP.blocks])
  have HW : Hid _ := h
  have HK : Hid _ := hkp.2
  have HA : Hid _ := hkp.1
  clear h hkp
  refine seq_at ?_
  go_wp2
  show Code.wp _ _ _ _ _
  refine wp_block ?_
  go_loopw [16] (fun i wr => ∃ j : Nat, j ≤ ks.length ∧ i = .int .i64 j ∧ RowIs wr d.gs 190 (secs (keptL S.wait S.safe (ks.take j))) ∧ Fr w wr [d.gs]) (fun i _ => ks.length - (intOf i).toNat)
  case atStart => exact ⟨0, Nat.zero_le _, rfl, by simpa [keptL] using HW.out.safe, Fr.refl _ _⟩
  case round =>
    obtain ⟨j, hj, rfl, hs, hf⟩ := hrel
    by_cases hlt : j < ks.length
    · obtain rfl := HA.out (by omega)
      have ck0 : wr.cell? ⟨g, off + j, none⟩ = some (.int .i64 (ks.getD j 0)) := by
        have := HK.out j hlt
        rw [World.cell?_of_block (hf.block g (World.block_lt_of_cell? w _ this) (by simpa using hgq))]; exact this
      have hstep : Hid (keptL S.wait S.safe (ks.take (j + 1)) = kept1 S.wait (keptL S.wait S.safe (ks.take j)) (ks.getD j 0)) := by
        show _ = _
        rw [take_snoc ks j 0 hlt, keptL_snoc]
      have hlk := keptL_len S.wait S.safe (ks.take j)
      have hsz := fun x hx => (ok.wr x hx).2
      have hos := kept_sizes S.wait S.safe (ks.take j) ok.sec hsz
      have rp := hf.row HW.out.row (by simpa using np)
      have c3 : wr.cell? ⟨d.p, 3, none⟩ = some (.slice aw S.wait.length cw) := by rw [← hwv]; exact rp.cell 3
      generalize ks.getD j 0 = kk at ck0 hstep
      generalize keptL S.wait S.safe (ks.take j) = l at hs hstep hlk hos
      by_cases hin : 0 ≤ kk ∧ kk < S.wait.length
      · obtain ⟨kn, rfl⟩ := Int.eq_ofNat_of_zero_le hin.1
        have hkn : kn < S.wait.length := by omega
        obtain ⟨gw, cap, hwv', hw, hlc, hcm, m1, m2, m3⟩ := HW.out.waits (by omega)
        have e := hwv.symm.trans hwv'
        injection e with e1 _ e2
        subst e1 e2
        have hwr := hw.fr hf (by simpa using m2.symm)
        have hrg := wcells_range hwr hsz kn hkn
        have hat := (ok.wr _ (List.getElem_mem hkn)).1
        have hx64 := hsz _ (List.getElem_mem hkn)
        have hst2 : keptL S.wait S.safe (ks.take (j + 1)) = l.set S.wait[kn].1 S.wait[kn].2 := by
          rw [hstep.out]
          unfold kept1
          rw [if_pos hin, Int.toNat_natCast, List.getD_eq_getElem?_getD, List.getElem?_eq_getElem hkn]
          rfl
        generalize S.wait[kn].1 = k at *
        generalize S.wait[kn].2 = x at *
        have hl64 := sec_length x hx64
        have hB : ∀ o, Below wr.heap.size wr (wr.alloc o) := fun o => (Below.refl _ _).alloc (Nat.le_refl _) _
        have cp2 : ∀ o, (wr.alloc o).cell? ⟨d.p, 2, none⟩ = some (.slice (some ⟨d.gs, 0, none⟩) S.safe.length S.safe.length) := fun o => (rp.below (hB o) rp.lt).cell 2
        have hs2 : ∀ o, RowIs (wr.alloc o) d.gs 190 (secs l) := fun o => hs.below (hB o) hs.lt
        have ht2 := fun o => secs_there (hs2 o) hos k (by omega)
        have rw_ := RowIs.new wr 192 (.int .i64 (k : Nat) :: bytes (textOf x))
        have ca2 : (wr.alloc (.cells (.int .i64 (k : Nat) :: bytes (textOf x)).toArray 192)).cell? ⟨wr.heap.size, 0, none⟩ = some (.int .i64 (k : Nat)) := rw_.cell 0
        have hrg2 : (wr.alloc (.cells (.int .i64 (k : Nat) :: bytes (textOf x)).toArray 192)).rangeAt wr.heap.size 1 (bytes (textOf x)) := by
          intro i v hv
          rw [rw_.cell, Nat.add_comm 1 i, List.getElem?_cons_succ, hv]
        have hsl := hs.lt
        have HN : Hid (RowIs ((wr.alloc (.cells (.int .i64 (k : Nat) :: bytes (textOf x)).toArray 192)).drew.setCells d.gs (k * 64) (bytes (textOf x))) d.gs 190 (secs (keptL S.wait S.safe (ks.take (j + 1))))) := by
          rw [hst2]
          exact secs_store (hs2 _).drew hos k (by omega) x hx64
        have HF : Hid (Fr w ((wr.alloc (.cells (.int .i64 (k : Nat) :: bytes (textOf x)).toArray 192)).drew.setCells d.gs (k * 64) (bytes (textOf x))) [d.gs]) := fr_many _ _ _ (hf.alloc _).drew (.inl (by simp))
        have hone : ∀ v ∈ bytes (textOf x), v.oneCell' = true := by
          intro v hv
          obtain ⟨n, _, rfl⟩ := List.mem_map.1 hv
          rfl
        have hoC : (.int .i64 (k : Nat) :: bytes (textOf x) : List Value).toArray.all (·.oneCell') = true := all_oneCell_toArray (by
          intro v hv
          rcases List.mem_cons.1 hv with rfl | hv
          · rfl
          · exact hone v hv)
        have hlC : (.int .i64 (k : Nat) :: bytes (textOf x) : List Value).length = 65 := by rw [List.length_cons, hl64]
        generalize bytes (textOf x) = D at *
        generalize (.int .i64 (k : Nat) :: D : List Value) = C at *
        have hiC : (Tryz.prog.info? 192).map (·.size) = some C.length := by rw [hlC]; exact wrSize
        have hiC2 : (Tryz.prog.info? 192).map (·.size) = some C.toArray.size := hiC
        have hsC : (Tryz.zeroCells192).size = C.toArray.size := by rw [show C.toArray.size = 65 from hlC, zeroW]; simp
        have HT : Hid _ := ht2
        have HR2 : Hid _ := hrg2
        have HO : Hid _ := hone
        clear hs hs2 rw_ rp hB hwr hf hw hos ht2 hrg2 hone hsz hstep hst2
        go_wp2_with (first
          | (refine wpList_load_mid rfl 192 _ rfl gw (kn * 65) rfl _ _ hrg Tryz.underlying192 rfl hiC ?_)
          | (refine wpList_store_new rfl 192 _ _ rfl wr.heap.size _ C.toArray rfl rfl rfl hiC2 hsC hoC ?_))
        refine wp_at (cr7_any d.p d.gs wr.heap.size S.safe.length k D _ _ (cp2 _) ca2 HR2.out hl64 HO.out hat hmost (HT.out _) np (by omega) ?_)
        refine fun y38 y39 y40 y41 y42 y43 y44 y45 y46 => ?_
        go_wp2
        exact ⟨⟨j + 1, by omega, by go_num, HN.out, HF.out⟩, by simp [intOf]; omega⟩
      · have hst2 : keptL S.wait S.safe (ks.take (j + 1)) = l := by
          rw [hstep.out]
          unfold kept1
          rw [if_neg hin]
        rw [← hst2] at hs
        have HS : Hid _ := hs
        have HF : Hid _ := hf
        clear hs hf rp hstep hst2
        by_cases hneg : kk < 0
        · go_wp2
          exact ⟨⟨j + 1, by omega, by go_num, HS.out, HF.out⟩, by simp [intOf]; omega⟩
        · have hge : ¬ kk < (S.wait.length : Int) := by omega
          go_wp2
          exact ⟨⟨j + 1, by omega, by go_num, HS.out, HF.out⟩, by simp [intOf]; omega⟩
    · have ej : j = ks.length := by omega
      subst ej
      rw [List.take_length] at hs
      have HS : Hid _ := hs
      clear hs
      go_wp2
      exact hQ.out _ _ _ _ _ _ _ _ _ _ _ _ _ _ _ _ _ _ _ _ _ _ _ _ _ _ _ _ _ _ _ _ _ _ _ _ _ HS.out hf
end Go.Proofs.YtdidjdoifpfmmaaGreatDoor
namespace Go.Proofs.YtdidjdoifpfmmaaGreatDoor
open Go.RowKit
set_option maxRecDepth 100000 in
set_option maxHeartbeats 4000000 in
theorem devCrash_any {w : World} {d : DP} {S : Dk} (h : DevAt w d S) (ok : S.Ok) (a0 : Option Addr) (g off ck : Nat) (ks : List Int) (hks : ks.length ≤ 1000000) (hkp : KeepAt w a0 g off ks) (hg : g ∉ d.blocks) :
    Calls Tryz.prog 59 #[.pointer (some ⟨d.p, 0, none⟩), .slice a0 ks.length ck] w fun e w' =>
      e = .returned (.tuple #[]) ∧ (∃ d', DevAt w' d' ⟨keptL S.wait S.safe ks, [], 0, false⟩ ∧ d'.p = d.p ∧ (∀ b ∈ d'.blocks, b ∈ d.blocks ∨ w.heap.size ≤ b)) ∧ Fr w w' d.blocks := by
  have z0 : w.cell? ⟨d.p, 0, none⟩ = some (.int .i32 0) := h.row.cell 0
  have z1 := h.row.frozen 0
  have hL := h.lock
  obtain ⟨np, npm, ngm, nown⟩ := h.ne
  have hfL : Fr w (w.setCell ⟨d.p, 0, none⟩ (.int .i32 1)) d.blocks := (Fr.refl _ _).setCell _ _ (.inl (by simp [DP.blocks]))
  have hkL : KeepAt (w.setCell ⟨d.p, 0, none⟩ (.int .i32 1)) a0 g off ks := ⟨hkp.1, fun j hj => by
    rw [World.cell?_setCell_other _ _ _ _ (by simp; intro e _; exact hg (by rw [← e]; simp [DP.blocks]))]
    exact hkp.2 j hj⟩
  have hlk := keptL_len S.wait S.safe ks
  generalize hWL : w.setCell ⟨d.p, 0, none⟩ (.int .i32 1) = L at *
  have HL : Hid _ := hL
  have HK : Hid _ := hkL
  have HB : Hid _ := hfL
  clear h hkp hL hkL hfL
  go_enter_defers Tryz.func59, Tryz.ntmps59
  refine seq_at ?_
  go_wp2_with (go_at_call 57; refine (lock_free ⟨d.p, 0, none⟩ _ z0 z1).mono ?_; rintro e w' ⟨rfl, rfl⟩)
  show Code.wp _ _ _ _ _
  refine seq_at ?_
  go_wp2
  show Code.wp _ _ _ _ _
  refine seq_at (crA_any HL.out ok a0 g off ck ks hks HK.out hg _ ?_)
  refine fun y5 y6 y14 y15 y16 y17 y18 y19 y20 y21 y22 y23 y24 y25 y26 y27 y28 y29 y30 y31 y32 y33 y34 y35 y36 y37 y38 y39 y40 y41 y42 y43 y44 y45 y46 y47 w1 hs f1 => ?_
  show Code.wp _ _ _ _ _
  have h := HL.out
  have rp := f1.row h.row (by simpa using np)
  have hm1 := map_fr h.last f1 (by simpa using ngm.symm)
  have hfo := devForget_any rp hm1 npm
  have HQ : Hid (∀ w2, RowIs w2 d.p 88 ({ d with wv := .slice none 0 0 }.cells S 1) → w2.ownsMap (H := Unit) Tryz.prog 3 (plainElem Tryz.prog 3) d.gm 0 (.map []) → Fr w1 w2 [d.p, d.gm] → Locked ((w2.setCell ⟨d.p, 5, none⟩ (.int .i64 0)).setCell ⟨d.p, 6, none⟩ (.bool false)) { d with wv := .slice none 0 0 } ⟨keptL S.wait S.safe ks, [], 0, false⟩ ∧ Fr w ((w2.setCell ⟨d.p, 5, none⟩ (.int .i64 0)).setCell ⟨d.p, 6, none⟩ (.bool false)) d.blocks) := by
    intro w2 hr hm f2
    have f3 : Fr w2 ((w2.setCell ⟨d.p, 5, none⟩ (.int .i64 0)).setCell ⟨d.p, 6, none⟩ (.bool false)) [d.p] := ((Fr.refl _ _).setCell _ _ (.inl (by simp))).setCell _ _ (.inl (by simp))
    refine ⟨⟨?_, f3.row (f2.row hs (by simp; exact ⟨np.symm, ngm⟩)) (by simpa using np.symm), World.ownsRow_nil _ _ _ _, map_fr hm f3 (by simpa using npm.symm), ?_⟩, ((HB.out.trans f1 (by simp [DP.blocks])).trans f2 (by intro y hy _; simp at hy; rcases hy with rfl | rfl <;> simp [DP.blocks])).trans f3 (by simp [DP.blocks])⟩
    · show RowIs _ _ _ [_, _, .slice (some ⟨d.gs, 0, none⟩) (keptL S.wait S.safe ks).length (keptL S.wait S.safe ks).length, _, _, _, _]
      rw [hlk]
      exact (hr.set 5 (.int .i64 0)).set 6 (.bool false)
    · show (d.p :: d.gs :: d.gm :: []).Nodup
      simp only [List.nodup_cons, List.mem_cons, List.not_mem_nil, or_false, not_or, not_false_eq_true, List.nodup_nil, and_true]
      exact ⟨⟨np, npm⟩, ngm⟩
  clear h rp hm1 hs f1
  refine seq_at ?_
  go_wp2_with (go_at_call 104; refine hfo.mono ?_; rintro e w' ⟨rfl, h1, h2, h3⟩)
  show Code.wp _ _ _ _ _
  have c5 : w'.cell? ⟨d.p, 5, none⟩ = some (.int .i64 (S.fuse : Nat)) := h1.cell 5
  have f5 := h1.frozen 5
  have h15 := h1.set 5 (.int .i64 0)
  have c6 : (w'.setCell ⟨d.p, 5, none⟩ (.int .i64 0)).cell? ⟨d.p, 6, none⟩ = some (.bool S.down) := h15.cell 6
  have f6 := h15.frozen 6
  have HE : Hid _ := HQ.out w' h1 h2 h3
  have h16 := h15.set 6 (.bool false)
  have q0 : ((w'.setCell ⟨d.p, 5, none⟩ (.int .i64 0)).setCell ⟨d.p, 6, none⟩ (.bool false)).cell? ⟨d.p, 0, none⟩ = some (.int .i32 1) := h16.cell 0
  have q1 := h16.frozen 0
  clear h1 h2 h3 h15 h16
  go_wp2
  refine leaves_cons (f := 58) (args := #[.pointer (some ⟨d.p, 0, none⟩)]) (by simp) (by simp [go_sem]) ?_
  refine (unlock_deferred ⟨d.p, 0, none⟩ .returning _ q0 q1).mono ?_
  rintro e u' w'' ⟨rfl, rfl, rfl⟩
  simp [Leaves, settle, results, Tryz.results59]
  refine ⟨⟨_, HE.out.1.free, rfl, ?_⟩, HE.out.2.setCell _ _ (.inl (by simp [DP.blocks]))⟩
  intro b hb
  have hb' : b ∈ (d.p :: d.gs :: d.gm :: []) := hb
  simp only [List.mem_cons, List.not_mem_nil, or_false] at hb'
  left
  rcases hb' with rfl | rfl | rfl <;> simp [DP.blocks]
end Go.Proofs.YtdidjdoifpfmmaaGreatDoor
