import Derived.Test.YtdidjdoifpfmmaaGreatDoorGD4
import Derived.Test.YtdidjdoifpfmmaaGreatDoorGD2
import Derived.Test.YtdidjdoifpfmmaaGreatDoorGD3
namespace Go.Proofs.YtdidjdoifpfmmaaGreatDoor
open Go.RowKit
theorem Wrote.from {w w1 w' : World} {d : DP} {S : Dk} {lk : Int} {k : Nat} {x : ByteArray} (f : Fr w w1 [d.p]) (h : Wrote w1 w' d S lk k x) : Wrote w w' d S lk k x := by
  obtain ⟨wv', h1, h2, h3, h4, h5⟩ := h
  refine ⟨wv', h1, h2, h3, fun g hg => (h4 g hg).imp id (fun h => Nat.le_trans f.size h), ?_⟩
  exact (f.wider (by simp)).trans h5 (fun _ h _ => h)
/-- The disk's rows behind boxes that were made. -/
theorem DevAt.below {w : World} {d : DP} {S : Dk} (h : DevAt w d S) {w' : World} (hB : Below w.heap.size w w') : DevAt w' d S :=
  ⟨h.row.below hB h.row.lt, h.safe.below hB h.safe.lt, owns_fr h.wait (Fr.of_below hB []) (by simp), map_fr h.last (Fr.of_below hB []) (by simp), h.apart⟩
/-- A disk, locked. -/
structure Locked (w : World) (d : DP) (S : Dk) : Prop where
  row : RowIs w d.p 88 (d.cells S 1)
  safe : RowIs w d.gs 190 (secs S.safe)
  wait : w.ownsRow 0 192 65 d.wv S.wait.length (wcells S.wait)
  last : w.ownsMap (H := Unit) Tryz.prog 3 (plainElem Tryz.prog 3) d.gm S.wait.length (lastD S.wait)
  apart : d.blocks.Nodup
theorem DevAt.lock {w : World} {d : DP} {S : Dk} (h : DevAt w d S) : Locked (w.setCell ⟨d.p, 0, none⟩ (.int .i32 1)) d S := by
  obtain ⟨n1, n2, n3, n4⟩ := h.ne
  have f : Fr w (w.setCell ⟨d.p, 0, none⟩ (.int .i32 1)) [d.p] := (Fr.refl _ _).setCell _ _ (.inl (by simp))
  exact ⟨h.row.set 0 _, f.row h.safe (by simpa using n1.symm), owns_fr h.wait f (fun g hg => by simp; rintro rfl; exact (n4 _ hg).1 rfl), map_fr h.last f (by simpa using n2.symm), h.apart⟩
theorem Locked.free {w : World} {d : DP} {S : Dk} (h : Locked w d S) : DevAt (w.setCell ⟨d.p, 0, none⟩ (.int .i32 0)) d S := by
  have hd : DevAt (w.setCell ⟨d.p, 0, none⟩ (.int .i32 0)) d S := by
    have hn := h.apart
    simp only [DP.blocks, List.nodup_cons, List.mem_cons, not_or] at hn
    have f : Fr w (w.setCell ⟨d.p, 0, none⟩ (.int .i32 0)) [d.p] := (Fr.refl _ _).setCell _ _ (.inl (by simp))
    refine ⟨h.row.set 0 _, f.row h.safe (by simpa using fun e => hn.1.1 e.symm), owns_fr h.wait f (fun g hg => ?_), map_fr h.last f (by simpa using fun e => hn.1.2.1 e.symm), h.apart⟩
    rw [hg] at hn
    simp
    rintro rfl
    simp at hn
  exact hd
theorem Wrote.locked {w w' : World} {d : DP} {S : Dk} {k : Nat} {x : ByteArray} (h : Locked w d S) (hw : Wrote w w' d S 1 k x) : ∃ d', Locked w' d' { S with wait := S.wait ++ [(k, x)] } ∧ d'.p = d.p ∧ (∀ b ∈ d'.blocks, b ∈ d.blocks ∨ w.heap.size ≤ b) ∧ Fr w w' d.blocks := by
  obtain ⟨wv', h1, h2, h3, h4, h5⟩ := hw
  have hn := h.apart
  have hs := h.safe.lt
  have hp := h.row.lt
  have hm := h.last.lt
  simp only [DP.blocks, List.nodup_cons, List.mem_cons, not_or] at hn
  have hsub : ∀ b ∈ DP.blocks { d with wv := wv' }, b ∈ d.blocks ∨ w.heap.size ≤ b := by
    intro b hb
    simp only [DP.blocks, List.mem_cons, Option.mem_toList] at hb ⊢
    rcases hb with hb | hb | hb | hb
    · exact .inl (.inl hb)
    · exact .inl (.inr (.inl hb))
    · exact .inl (.inr (.inr (.inl hb)))
    · rcases h4 b hb with hq | hq
      · exact .inl (.inr (.inr (.inr hq)))
      · exact .inr hq
  refine ⟨{ d with wv := wv' }, ⟨h1, ?_, ?_, ?_, ?_⟩, rfl, hsub, h5.wider (by intro y hy; simp only [DP.blocks, List.mem_cons] at hy ⊢; rcases hy with hy | hy | hy; exact .inl hy; exact .inr (.inr (.inl hy)); exact .inr (.inr (.inr hy)))⟩
  · refine h5.row h.safe ?_
    simp only [List.mem_cons, not_or]
    exact ⟨fun e => hn.1.1 e.symm, hn.2.1.1, hn.2.1.2⟩
  · simpa using h2
  · simpa using h3
  · show (d.p :: d.gs :: d.gm :: wv'.ownBlock.toList).Nodup
    cases hq : wv'.ownBlock with
    | none =>
      simp only [Option.toList_none, List.nodup_cons, List.mem_cons, List.not_mem_nil, or_false, not_or, not_false_eq_true, List.nodup_nil, and_true]
      exact ⟨⟨hn.1.1, hn.1.2.1⟩, hn.2.1.1⟩
    | some g =>
      have hg : d.p ≠ g ∧ d.gs ≠ g ∧ d.gm ≠ g := by
        rcases h4 g hq with hx | hx
        · rw [hx] at hn
          simp at hn
          omega
        · omega
      simp only [Option.toList_some, List.nodup_cons, List.mem_cons, List.not_mem_nil, or_false, not_or, not_false_eq_true, List.nodup_nil, and_true]
      exact ⟨⟨hn.1.1, hn.1.2.1, hg.1⟩, ⟨hn.2.1.1, hg.2.1⟩, hg.2.2⟩
/-- The slice of the writes that wait, as a value. -/
theorem Locked.slice {w : World} {d : DP} {S : Dk} (h : Locked w d S) : ∃ aw cw, d.wv = .slice aw S.wait.length cw := by
  rcases h.wait.2 with ⟨e, e0⟩ | ⟨g', cap', cur, e, _⟩
  · exact ⟨none, 0, by rw [e, e0]⟩
  · exact ⟨_, _, e⟩
theorem Locked.tick {w w' : World} {d : DP} {S : Dk} (h : Locked w d S) (hr : RowIs w' d.p 88 (d.cells S.tick 1)) (f : Fr w w' [d.p]) : Locked w' d S.tick := by
  have hn := h.apart
  simp only [DP.blocks, List.nodup_cons, List.mem_cons, not_or] at hn
  refine ⟨hr, ?_, ?_, ?_, h.apart⟩
  · rw [S.tick_safe]; exact f.row h.safe (by simpa using fun e => hn.1.1 e.symm)
  · rw [S.tick_wait]
    refine owns_fr h.wait f (fun g hg => ?_)
    rw [hg] at hn
    simp
    rintro rfl
    simp at hn
  · rw [S.tick_wait]; exact map_fr h.last f (by simpa using fun e => hn.1.2.1 e.symm)
set_option maxRecDepth 100000 in
set_option maxHeartbeats 1600000 in
theorem devWrite_ok {w : World} {d : DP} {S : Dk} (h : DevAt w d S) (ok : S.Ok) (k : Nat) (hk : k < S.safe.length) (x : ByteArray) (hx : x.size = 64) (hu : S.tick.down = false) (hf : S.fuse ≤ 9223372036854775807) (hfew : S.wait.length + 1 ≤ 1000000) :
    Calls Tryz.prog 81 #[.pointer (some ⟨d.p, 0, none⟩), .int .i64 (k : Nat), .string x] w fun e w' =>
      e = .returned .nilIface ∧ (∃ d', DevAt w' d' { S.tick with wait := S.wait ++ [(k, x)] } ∧ d'.p = d.p ∧ (∀ b ∈ d'.blocks, b ∈ d.blocks ∨ w.heap.size ≤ b)) ∧ Fr w w' d.blocks := by
  have hB : Below w.heap.size w (((w.alloc (.cells #[.pointer (some ⟨d.p, 0, none⟩)] 30)).alloc (.cells #[.int .i64 (k : Nat)] 3)).alloc (.cells #[.string x] 9)) := (((Below.refl _ _).alloc (Nat.le_refl _) _).alloc (by simp) _).alloc (by simp; omega) _
  have r3 : RowIs (((w.alloc (.cells #[.pointer (some ⟨d.p, 0, none⟩)] 30)).alloc (.cells #[.int .i64 (k : Nat)] 3)).alloc (.cells #[.string x] 9)) w.heap.size 30 [.pointer (some ⟨d.p, 0, none⟩)] := ⟨by rw [heap_alloc_old _ _ (by simp; omega), heap_alloc_old _ _ (by simp)]; exact (RowIs.new w 30 [.pointer (some ⟨d.p, 0, none⟩)]).heap⟩
  have r1 : RowIs (((w.alloc (.cells #[.pointer (some ⟨d.p, 0, none⟩)] 30)).alloc (.cells #[.int .i64 (k : Nat)] 3)).alloc (.cells #[.string x] 9)) (w.heap.size + 1) 3 [.int .i64 (k : Nat)] := ⟨by
    rw [heap_alloc_old _ _ (by simp)]
    have := (RowIs.new (w.alloc (.cells #[.pointer (some ⟨d.p, 0, none⟩)] 30)) 3 [.int .i64 (k : Nat)]).heap
    simpa using this⟩
  have r2 : RowIs (((w.alloc (.cells #[.pointer (some ⟨d.p, 0, none⟩)] 30)).alloc (.cells #[.int .i64 (k : Nat)] 3)).alloc (.cells #[.string x] 9)) (w.heap.size + 1 + 1) 9 [.string x] := ⟨by
    have := (RowIs.new ((w.alloc (.cells #[.pointer (some ⟨d.p, 0, none⟩)] 30)).alloc (.cells #[.int .i64 (k : Nat)] 3)) 9 [.string x]).heap
    simpa using this⟩
  have h1 := h.below hB
  generalize hW : (((w.alloc (.cells #[.pointer (some ⟨d.p, 0, none⟩)] 30)).alloc (.cells #[.int .i64 (k : Nat)] 3)).alloc (.cells #[.string x] 9)) = W at *
  have lp := h.row.lt
  have lm := h.last.lt
  have z0 : W.cell? ⟨d.p, 0, none⟩ = some (.int .i32 0) := h1.row.cell 0
  have z1 := h1.row.frozen 0
  have c3 : W.cell? ⟨w.heap.size, 0, none⟩ = some (.pointer (some ⟨d.p, 0, none⟩)) := r3.cell 0
  have hL := h1.lock
  have s3 : RowIs (W.setCell ⟨d.p, 0, none⟩ (.int .i32 1)) w.heap.size 30 [.pointer (some ⟨d.p, 0, none⟩)] := r3.other _ (by simp; omega)
  have s1 : RowIs (W.setCell ⟨d.p, 0, none⟩ (.int .i32 1)) (w.heap.size + 1) 3 [.int .i64 (k : Nat)] := r1.other _ (by simp; omega)
  have s2 : RowIs (W.setCell ⟨d.p, 0, none⟩ (.int .i32 1)) (w.heap.size + 1 + 1) 9 [.string x] := r2.other _ (by simp; omega)
  have hfL : Fr w (W.setCell ⟨d.p, 0, none⟩ (.int .i32 1)) d.blocks := (Fr.of_below hB _).setCell _ _ (.inl (by simp [DP.blocks]))
  generalize hWL : W.setCell ⟨d.p, 0, none⟩ (.int .i32 1) = L at *
  have l3 : L.cell? ⟨w.heap.size, 0, none⟩ = some (.pointer (some ⟨d.p, 0, none⟩)) := s3.cell 0
  have l1 : L.cell? ⟨w.heap.size + 1, 0, none⟩ = some (.int .i64 (k : Nat)) := s1.cell 0
  have l2 : L.cell? ⟨w.heap.size + 1 + 1, 0, none⟩ = some (.string x) := s2.cell 0
  have hh := devHas_any (d := d) (S := S) (lk := 1) hL.row ok k
  rw [decide_eq_true (by omega)] at hh
  have hmost := ok.most
  have hop := devOperate_write hL.row hu hf #[.pointer (some ⟨w.heap.size + 1, 0, none⟩), .pointer (some ⟨w.heap.size + 1 + 1, 0, none⟩), .pointer (some ⟨w.heap.size, 0, none⟩)] (fun w' => ∃ d', Locked w' d' { S.tick with wait := S.wait ++ [(k, x)] } ∧ d'.p = d.p ∧ (∀ b ∈ d'.blocks, b ∈ d.blocks ∨ w.heap.size ≤ b) ∧ Fr w w' d.blocks) (by
    intro w1 hr f1
    have hT := hL.tick hr f1
    obtain ⟨aw, cw, hwv⟩ := hT.slice
    have hn := hT.apart
    have hwt := hT.wait
    rw [hwv] at hwt
    have ho : ∀ g, (Value.slice aw S.tick.wait.length cw).ownBlock = some g → d.p ≠ g ∧ d.gm ≠ g ∧ g < w.heap.size := by
      intro g hg
      have hq : d.wv.ownBlock = some g := by rw [hwv]; exact hg
      have := own_lt h.wait g hq
      have := h.ne.2.2.2 g hq
      omega
    have np := h.ne.2.1
    refine (devWrite1_any hr hT.last aw cw hwv hwt (fun e => (ho _ e).2.1 rfl) (fun e => (ho _ e).1 rfl) k (by omega) (by rw [S.tick_wait]; omega) x hx (w.heap.size + 1) (w.heap.size + 1 + 1) w.heap.size (by omega) (by omega) np (by omega) (fun e => Nat.lt_irrefl _ (ho _ e).2.2) (f1.row s1 (by simp; omega)) (f1.row s2 (by simp; omega)) (f1.row s3 (by simp; omega))).mono ?_
    rintro e w' ⟨rfl, hw'⟩
    refine ⟨rfl, ?_⟩
    obtain ⟨d', a1, a2, a3, a4⟩ := Wrote.locked hT hw'
    have hs1 : w.heap.size ≤ w1.heap.size := Nat.le_trans hfL.size f1.size
    refine ⟨d', by rw [S.tick_wait] at a1; exact a1, a2, fun b hb => (a3 b hb).imp id (fun h => by omega), (hfL.trans f1 (by simp [DP.blocks])).trans a4 (fun y hy _ => hy)⟩)
  have HO : Hid _ := hop
  clear h1 r1 r2 r3 s1 s2 s3 hL h hop hfL hB
  go_enter_defers Tryz.func81, Tryz.ntmps81
  go_wp2_with (first
    | (go_at_call 57; refine (lock_free ⟨d.p, 0, none⟩ _ z0 z1).mono ?_; rintro e w' ⟨rfl, rfl⟩)
    | (go_at_call 142; refine hh.mono ?_; rintro e w' ⟨rfl, rfl⟩))
  refine Calls.mono HO.out ?_
  rintro e w' ⟨rfl, d', hl, hp', hsub, hfr⟩
  have q0 : w'.cell? ⟨d.p, 0, none⟩ = some (.int .i32 1) := by rw [← hp']; exact hl.row.cell 0
  have q1 : w'.frozen? ⟨d.p, 0, none⟩ = false := by rw [← hp']; exact hl.row.frozen 0
  have HD : Hid (DevAt (w'.setCell ⟨d.p, 0, none⟩ (.int .i32 0)) d' { S.tick with wait := S.wait ++ [(k, x)] }) := by rw [← hp']; exact hl.free
  have HF : Hid (Fr w (w'.setCell ⟨d.p, 0, none⟩ (.int .i32 0)) d.blocks) := hfr.setCell _ _ (.inl (by simp [DP.blocks]))
  clear hl hfr
  go_wp2
  refine leaves_cons (f := 58) (args := #[.pointer (some ⟨d.p, 0, none⟩)]) (by simp) (by simp [go_sem]) ?_
  refine (unlock_deferred ⟨d.p, 0, none⟩ .returning _ q0 q1).mono ?_
  rintro e u' w'' ⟨rfl, rfl, rfl⟩
  exact ⟨_, results_tmp rfl _ _ _, rfl, ⟨d', HD.out, hp', hsub⟩, HF.out⟩
set_option maxRecDepth 100000 in
set_option maxHeartbeats 1600000 in
theorem devWrite_down {w : World} {d : DP} {S : Dk} (h : DevAt w d S) (ok : S.Ok) (k : Nat) (hk : k < S.safe.length) (x : ByteArray) (hx : x.size = 64) (hu : S.tick.down = true) (hf : S.fuse ≤ 9223372036854775807) (ea : Addr) (hg : w.cell? ⟨1, 0, none⟩ = some (.iface 452 (.pointer (some ea)))) (hp1 : d.p ≠ 1) :
    Calls Tryz.prog 81 #[.pointer (some ⟨d.p, 0, none⟩), .int .i64 (k : Nat), .string x] w fun e w' =>
      e = .returned (.iface 452 (.pointer (some ea))) ∧ DevAt w' d S.tick ∧ Fr w w' [d.p] := by
  have hB : Below w.heap.size w (((w.alloc (.cells #[.pointer (some ⟨d.p, 0, none⟩)] 30)).alloc (.cells #[.int .i64 (k : Nat)] 3)).alloc (.cells #[.string x] 9)) := (((Below.refl _ _).alloc (Nat.le_refl _) _).alloc (by simp) _).alloc (by simp; omega) _
  have r3 : RowIs (((w.alloc (.cells #[.pointer (some ⟨d.p, 0, none⟩)] 30)).alloc (.cells #[.int .i64 (k : Nat)] 3)).alloc (.cells #[.string x] 9)) w.heap.size 30 [.pointer (some ⟨d.p, 0, none⟩)] := ⟨by rw [heap_alloc_old _ _ (by simp; omega), heap_alloc_old _ _ (by simp)]; exact (RowIs.new w 30 [.pointer (some ⟨d.p, 0, none⟩)]).heap⟩
  have r1 : RowIs (((w.alloc (.cells #[.pointer (some ⟨d.p, 0, none⟩)] 30)).alloc (.cells #[.int .i64 (k : Nat)] 3)).alloc (.cells #[.string x] 9)) (w.heap.size + 1) 3 [.int .i64 (k : Nat)] := ⟨by
    rw [heap_alloc_old _ _ (by simp)]
    have := (RowIs.new (w.alloc (.cells #[.pointer (some ⟨d.p, 0, none⟩)] 30)) 3 [.int .i64 (k : Nat)]).heap
    simpa using this⟩
  have r2 : RowIs (((w.alloc (.cells #[.pointer (some ⟨d.p, 0, none⟩)] 30)).alloc (.cells #[.int .i64 (k : Nat)] 3)).alloc (.cells #[.string x] 9)) (w.heap.size + 1 + 1) 9 [.string x] := ⟨by
    have := (RowIs.new ((w.alloc (.cells #[.pointer (some ⟨d.p, 0, none⟩)] 30)).alloc (.cells #[.int .i64 (k : Nat)] 3)) 9 [.string x]).heap
    simpa using this⟩
  have h1 := h.below hB
  generalize hW : (((w.alloc (.cells #[.pointer (some ⟨d.p, 0, none⟩)] 30)).alloc (.cells #[.int .i64 (k : Nat)] 3)).alloc (.cells #[.string x] 9)) = W at *
  have lp := h.row.lt
  have lm := h.last.lt
  have z0 : W.cell? ⟨d.p, 0, none⟩ = some (.int .i32 0) := h1.row.cell 0
  have z1 := h1.row.frozen 0
  have c3 : W.cell? ⟨w.heap.size, 0, none⟩ = some (.pointer (some ⟨d.p, 0, none⟩)) := r3.cell 0
  have hL := h1.lock
  have s3 : RowIs (W.setCell ⟨d.p, 0, none⟩ (.int .i32 1)) w.heap.size 30 [.pointer (some ⟨d.p, 0, none⟩)] := r3.other _ (by simp; omega)
  have s1 : RowIs (W.setCell ⟨d.p, 0, none⟩ (.int .i32 1)) (w.heap.size + 1) 3 [.int .i64 (k : Nat)] := r1.other _ (by simp; omega)
  have s2 : RowIs (W.setCell ⟨d.p, 0, none⟩ (.int .i32 1)) (w.heap.size + 1 + 1) 9 [.string x] := r2.other _ (by simp; omega)
  have hfL : Fr w (W.setCell ⟨d.p, 0, none⟩ (.int .i32 1)) [d.p] := (Fr.of_below hB _).setCell _ _ (.inl (by simp))
  generalize hWL : W.setCell ⟨d.p, 0, none⟩ (.int .i32 1) = L at *
  have l3 : L.cell? ⟨w.heap.size, 0, none⟩ = some (.pointer (some ⟨d.p, 0, none⟩)) := s3.cell 0
  have l1 : L.cell? ⟨w.heap.size + 1, 0, none⟩ = some (.int .i64 (k : Nat)) := s1.cell 0
  have l2 : L.cell? ⟨w.heap.size + 1 + 1, 0, none⟩ = some (.string x) := s2.cell 0
  have hh := devHas_any (d := d) (S := S) (lk := 1) hL.row ok k
  rw [decide_eq_true (by omega)] at hh
  have hmost := ok.most
  have gL : L.cell? ⟨1, 0, none⟩ = some (.iface 452 (.pointer (some ea))) := by
    rw [← hWL, World.cell?_setCell_other _ _ _ _ (by simp []), World.cell?_of_block (hB.block 1 (World.block_lt_of_cell? w _ hg))]
    exact hg
  have hop := devOperate_down hL.row hu hf (.func (.func 144) #[] #[.pointer (some ⟨w.heap.size + 1, 0, none⟩), .pointer (some ⟨w.heap.size + 1 + 1, 0, none⟩), .pointer (some ⟨w.heap.size, 0, none⟩)]) ea gL hp1
  have HK : Hid (∀ w', RowIs w' d.p 88 (d.cells S.tick 1) → Fr L w' [d.p] → DevAt (w'.setCell ⟨d.p, 0, none⟩ (.int .i32 0)) d S.tick ∧ Fr w (w'.setCell ⟨d.p, 0, none⟩ (.int .i32 0)) [d.p]) := by
    intro w' hr f
    exact ⟨(hL.tick hr f).free, (hfL.trans f (by simp)).setCell _ _ (.inl (by simp))⟩
  have HO : Hid _ := hop
  clear h1 r1 r2 r3 s1 s2 s3 hL h hop hfL hB
  go_enter_defers Tryz.func81, Tryz.ntmps81
  go_wp2_with (first
    | (go_at_call 57; refine (lock_free ⟨d.p, 0, none⟩ _ z0 z1).mono ?_; rintro e w' ⟨rfl, rfl⟩)
    | (go_at_call 142; refine hh.mono ?_; rintro e w' ⟨rfl, rfl⟩))
  refine Calls.mono HO.out ?_
  rintro e w' ⟨rfl, hr, f⟩
  have q0 : w'.cell? ⟨d.p, 0, none⟩ = some (.int .i32 1) := hr.cell 0
  have q1 := hr.frozen 0
  have HD := HK.out w' hr f
  have HE : Hid _ := HD
  clear hr f HD
  go_wp2
  refine leaves_cons (f := 58) (args := #[.pointer (some ⟨d.p, 0, none⟩)]) (by simp) (by simp [go_sem]) ?_
  refine (unlock_deferred ⟨d.p, 0, none⟩ .returning _ q0 q1).mono ?_
  rintro e u' w'' ⟨rfl, rfl, rfl⟩
  exact ⟨_, results_tmp rfl _ _ _, rfl, HE.out⟩
set_option maxRecDepth 100000 in
set_option maxHeartbeats 1600000 in
theorem devWrite_arg {w : World} {d : DP} {S : Dk} (h : DevAt w d S) (ok : S.Ok) (n : Int) (x : ByteArray) (hbad : ¬ (0 ≤ n ∧ n < S.safe.length) ∨ x.size ≠ 64) (_hxz : x.size ≤ 140737488351232) (ea : Addr) (hg : w.cell? ⟨0, 0, none⟩ = some (.iface 452 (.pointer (some ea)))) (hp1 : d.p ≠ 0) :
    Calls Tryz.prog 81 #[.pointer (some ⟨d.p, 0, none⟩), .int .i64 n, .string x] w fun e w' =>
      e = .returned (.iface 452 (.pointer (some ea))) ∧ DevAt w' d S ∧ Fr w w' [d.p] := by
  have hB : Below w.heap.size w (((w.alloc (.cells #[.pointer (some ⟨d.p, 0, none⟩)] 30)).alloc (.cells #[.int .i64 n] 3)).alloc (.cells #[.string x] 9)) := (((Below.refl _ _).alloc (Nat.le_refl _) _).alloc (by simp) _).alloc (by simp; omega) _
  have r3 : RowIs (((w.alloc (.cells #[.pointer (some ⟨d.p, 0, none⟩)] 30)).alloc (.cells #[.int .i64 n] 3)).alloc (.cells #[.string x] 9)) w.heap.size 30 [.pointer (some ⟨d.p, 0, none⟩)] := ⟨by rw [heap_alloc_old _ _ (by simp; omega), heap_alloc_old _ _ (by simp)]; exact (RowIs.new w 30 [.pointer (some ⟨d.p, 0, none⟩)]).heap⟩
  have r1 : RowIs (((w.alloc (.cells #[.pointer (some ⟨d.p, 0, none⟩)] 30)).alloc (.cells #[.int .i64 n] 3)).alloc (.cells #[.string x] 9)) (w.heap.size + 1) 3 [.int .i64 n] := ⟨by
    rw [heap_alloc_old _ _ (by simp)]
    have := (RowIs.new (w.alloc (.cells #[.pointer (some ⟨d.p, 0, none⟩)] 30)) 3 [.int .i64 n]).heap
    simpa using this⟩
  have r2 : RowIs (((w.alloc (.cells #[.pointer (some ⟨d.p, 0, none⟩)] 30)).alloc (.cells #[.int .i64 n] 3)).alloc (.cells #[.string x] 9)) (w.heap.size + 1 + 1) 9 [.string x] := ⟨by
    have := (RowIs.new ((w.alloc (.cells #[.pointer (some ⟨d.p, 0, none⟩)] 30)).alloc (.cells #[.int .i64 n] 3)) 9 [.string x]).heap
    simpa using this⟩
  have h1 := h.below hB
  generalize hW : (((w.alloc (.cells #[.pointer (some ⟨d.p, 0, none⟩)] 30)).alloc (.cells #[.int .i64 n] 3)).alloc (.cells #[.string x] 9)) = W at *
  have lp := h.row.lt
  have lm := h.last.lt
  have z0 : W.cell? ⟨d.p, 0, none⟩ = some (.int .i32 0) := h1.row.cell 0
  have z1 := h1.row.frozen 0
  have c3 : W.cell? ⟨w.heap.size, 0, none⟩ = some (.pointer (some ⟨d.p, 0, none⟩)) := r3.cell 0
  have hL := h1.lock
  have s3 : RowIs (W.setCell ⟨d.p, 0, none⟩ (.int .i32 1)) w.heap.size 30 [.pointer (some ⟨d.p, 0, none⟩)] := r3.other _ (by simp; omega)
  have s1 : RowIs (W.setCell ⟨d.p, 0, none⟩ (.int .i32 1)) (w.heap.size + 1) 3 [.int .i64 n] := r1.other _ (by simp; omega)
  have s2 : RowIs (W.setCell ⟨d.p, 0, none⟩ (.int .i32 1)) (w.heap.size + 1 + 1) 9 [.string x] := r2.other _ (by simp; omega)
  have hfL : Fr w (W.setCell ⟨d.p, 0, none⟩ (.int .i32 1)) [d.p] := (Fr.of_below hB _).setCell _ _ (.inl (by simp))
  generalize hWL : W.setCell ⟨d.p, 0, none⟩ (.int .i32 1) = L at *
  have l3 : L.cell? ⟨w.heap.size, 0, none⟩ = some (.pointer (some ⟨d.p, 0, none⟩)) := s3.cell 0
  have l1 : L.cell? ⟨w.heap.size + 1, 0, none⟩ = some (.int .i64 n) := s1.cell 0
  have l2 : L.cell? ⟨w.heap.size + 1 + 1, 0, none⟩ = some (.string x) := s2.cell 0
  have gL : L.cell? ⟨0, 0, none⟩ = some (.iface 452 (.pointer (some ea))) := by
    rw [← hWL, World.cell?_setCell_other _ _ _ _ (by simp []), World.cell?_of_block (hB.block 0 (World.block_lt_of_cell? w _ hg))]
    exact hg
  have q0 : L.cell? ⟨d.p, 0, none⟩ = some (.int .i32 1) := hL.row.cell 0
  have q1 := hL.row.frozen 0
  have HD : Hid (DevAt (L.setCell ⟨d.p, 0, none⟩ (.int .i32 0)) d S) := hL.free
  have HF : Hid (Fr w (L.setCell ⟨d.p, 0, none⟩ (.int .i32 0)) [d.p]) := hfL.setCell _ _ (.inl (by simp))
  have hh := devHas_any (d := d) (S := S) (lk := 1) hL.row ok n
  clear h1 r1 r2 r3 s1 s2 s3 hL h hfL hB
  by_cases hin : 0 ≤ n ∧ n < S.safe.length
  · rw [decide_eq_true hin] at hh
    have h64 : ((x.size : Int) != 64) = true := by
      rcases hbad with hb | hb
      · exact absurd hin hb
      · simp; omega
    go_enter_defers Tryz.func81, Tryz.ntmps81
    go_wp2_with (first
      | (go_at_call 57; refine (lock_free ⟨d.p, 0, none⟩ _ z0 z1).mono ?_; rintro e w' ⟨rfl, rfl⟩)
      | (go_at_call 142; refine hh.mono ?_; rintro e w' ⟨rfl, rfl⟩))
    refine leaves_cons (f := 58) (args := #[.pointer (some ⟨d.p, 0, none⟩)]) (by simp) (by simp [go_sem]) ?_
    refine (unlock_deferred ⟨d.p, 0, none⟩ .returning _ q0 q1).mono ?_
    rintro e u' w'' ⟨rfl, rfl, rfl⟩
    exact ⟨_, results_tmp rfl _ _ _, rfl, HD.out, HF.out⟩
  · rw [decide_eq_false hin] at hh
    go_enter_defers Tryz.func81, Tryz.ntmps81
    go_wp2_with (first
      | (go_at_call 57; refine (lock_free ⟨d.p, 0, none⟩ _ z0 z1).mono ?_; rintro e w' ⟨rfl, rfl⟩)
      | (go_at_call 142; refine hh.mono ?_; rintro e w' ⟨rfl, rfl⟩))
    refine leaves_cons (f := 58) (args := #[.pointer (some ⟨d.p, 0, none⟩)]) (by simp) (by simp [go_sem]) ?_
    refine (unlock_deferred ⟨d.p, 0, none⟩ .returning _ q0 q1).mono ?_
    rintro e u' w'' ⟨rfl, rfl, rfl⟩
    exact ⟨_, results_tmp rfl _ _ _, rfl, HD.out, HF.out⟩
end Go.Proofs.YtdidjdoifpfmmaaGreatDoor
/- A sector is stored among the safe ones. -/
namespace Go.Proofs.YtdidjdoifpfmmaaGreatDoor
open Go.RowKit
def setMany : List Value → Nat → List Value → List Value
  | l, _, [] => l
  | l, o, v :: r => setMany (l.set o v) (o + 1) r
theorem setMany_get (vs : List Value) : ∀ (l : List Value) (o i : Nat), o + vs.length ≤ l.length → (setMany l o vs)[i]? = if o ≤ i ∧ i < o + vs.length then vs[i - o]? else l[i]? := by
  induction vs with
  | nil => intro l o i _; simp only [setMany, List.length_nil, Nat.add_zero]; rw [if_neg (by omega)]
  | cons v r ih =>
    intro l o i h
    rw [List.length_cons] at h
    rw [setMany, ih _ _ _ (by rw [List.length_set]; omega), List.length_cons]
    by_cases h1 : o = i
    · subst h1
      rw [if_neg (by omega), if_pos (by omega), List.getElem?_set_self (by omega)]
      simp
    · rw [List.getElem?_set_ne h1]
      by_cases h2 : o + 1 ≤ i ∧ i < o + 1 + r.length
      · rw [if_pos h2, if_pos (by omega), show i - o = (i - (o + 1)) + 1 by omega]
        simp
      · rw [if_neg h2, if_neg (by omega)]
theorem row_many (vs : List Value) : ∀ {w : World} {g : Nat} {t : TypeId} {l : List Value} (o : Nat), RowIs w g t l → RowIs (w.setCells g o vs) g t (setMany l o vs) := by
  induction vs with
  | nil => intro w g t l o h; exact h
  | cons v r ih => intro w g t l o h; exact ih (o + 1) (h.set o v)
theorem fr_many (vs : List Value) : ∀ {w w' : World} {bs : List Nat} (g o : Nat), Fr w w' bs → (g ∈ bs ∨ w.heap.size ≤ g) → Fr w (w'.setCells g o vs) bs := by
  induction vs with
  | nil => intro w w' bs g o h _; exact h
  | cons v r ih => intro w w' bs g o h hg; exact ih g (o + 1) (h.setCell ⟨g, o, none⟩ v hg) hg
theorem secs_store {w : World} {g : Nat} {t : TypeId} {l : List ByteArray} (h : RowIs w g t (secs l)) (hs : ∀ x ∈ l, x.size = 64) (k : Nat) (hk : k < l.length) (x : ByteArray) (hx : x.size = 64) : RowIs (w.setCells g (k * 64) (bytes (textOf x))) g t (secs (l.set k x)) := by
  have h1 := row_many (bytes (textOf x)) (k * 64) h
  have hl := secs_length l hs
  have e : setMany (secs l) (k * 64) (bytes (textOf x)) = secs (l.set k x) := by
    apply List.ext_getElem?
    intro i
    rw [setMany_get _ _ _ _ (by rw [sec_length x hx, hl]; omega), sec_length x hx]
    exact (flat_set _ 64 l (fun y hy => sec_length y (hs y hy)) k hk x (sec_length x hx) i).symm
  rw [e] at h1
  exact h1
/-- All writes are done, as they came: the sectors as they are seen. -/
theorem over_take_succ (l : List ByteArray) (ws : List (Nat × ByteArray)) (j : Nat) (hj : j < ws.length) : over l (ws.take (j + 1)) = (over l (ws.take j)).set ws[j].1 ws[j].2 := by
  rw [List.take_add_one, List.getElem?_eq_getElem hj, Option.toList_some, over_snoc]
theorem over_sizes (l : List ByteArray) (ws : List (Nat × ByteArray)) (h : ∀ x ∈ l, x.size = 64) (hw : ∀ x ∈ ws, x.2.size = 64) : ∀ x ∈ over l ws, x.size = 64 := by
  induction ws generalizing l with
  | nil => exact h
  | cons y ws ih =>
    intro x hx
    refine ih (l.set y.1 y.2) ?_ (fun z hz => hw z (List.mem_cons_of_mem _ hz)) x hx
    intro z hz
    rcases List.mem_or_eq_of_mem_set hz with hz | hz
    · exact h z hz
    · rw [hz]; exact hw y List.mem_cons_self
end Go.Proofs.YtdidjdoifpfmmaaGreatDoor
namespace Go.Proofs.YtdidjdoifpfmmaaGreatDoor
open Go.RowKit
def thenC : Code → Code
  | .cond _ a _ => a
  | c => c
noncomputable def flCode : Code := Tryz.f148.body.getD .skip
noncomputable def flLoop : Code := inC (inC (sndC (fstC flCode)))
noncomputable def fl3 : Code := sndC (inC (fstC (sndC (sndC flLoop))))
noncomputable def crCode : Code := Tryz.f59.body.getD .skip
noncomputable def crLoop : Code := inC (inC (sndC (fstC (sndC (sndC crCode)))))
noncomputable def cr7 : Code := sndC (thenC (sndC (sndC (inC (fstC (sndC (sndC crLoop)))))))
set_option maxRecDepth 100000 in
set_option maxHeartbeats 1600000 in
theorem fl3_any {x1 x3 x4 x5 x6 x7 x8 x9 x10 x11 x12 x13 x14 x15 x16 x17 x18 x19 x20 x21 x22 x23 : Value} (p gs wb n k : Nat) (b : Nat) (D : List Value) (w : World) (R : Act → World → Prop)
    (cb : w.cell? ⟨b, 0, none⟩ = some (.pointer (some ⟨p, 0, none⟩))) (nb : b ≠ gs)
    (cp : w.cell? ⟨p, 2, none⟩ = some (.slice (some ⟨gs, 0, none⟩) n n)) (ca : w.cell? ⟨wb, 0, none⟩ = some (.int .i64 (k : Nat))) (hrg : w.rangeAt wb 1 D) (hD : D.length = 64) (h1 : ∀ v ∈ D, v.oneCell' = true)
    (hk : k < n) (_hn : n ≤ 4096) (ht : w.there gs (k * 64) 64) (np : p ≠ gs) (nw : wb ≠ gs)
    (hQ : Hid (∀ (y12 y13 y14 y15 y16 y17 y18 y19 y20 : Value), R ⟨#[.pointer (some ⟨b, 0, none⟩), x1, .pointer (some ⟨wb, 0, none⟩), x3, x4, x5, x6, x7, x8, x9, x10, x11, y12, y13, y14, y15, y16, y17, y18, y19, y20, x21, x22, x23], []⟩ (w.drew.setCells gs (k * 64) D))) :
    Code.wp Tryz.prog fl3 (At R) ⟨#[.pointer (some ⟨b, 0, none⟩), x1, .pointer (some ⟨wb, 0, none⟩), x3, x4, x5, x6, x7, x8, x9, x10, x11, x12, x13, x14, x15, x16, x17, x18, x19, x20, x21, x22, x23], []⟩ w := by
  conv => arg 2; whnf
  have hiD : (Tryz.prog.info? 190).map (·.size) = some D.length := by rw [hD]; exact secSize
  have k0 : (0 : Int) ≤ (k : Int) := by omega
  have k1 : (k : Int) < (n : Int) := by omega
  refine wp_region_held_drew (S := fun w' => w'.cell? ⟨b, 0, none⟩ = some (.pointer (some ⟨p, 0, none⟩)) ∧ w'.cell? ⟨p, 2, none⟩ = some (.slice (some ⟨gs, 0, none⟩) n n) ∧ w'.cell? ⟨wb, 0, none⟩ = some (.int .i64 (k : Nat)) ∧ w'.rangeAt wb 1 D) (by kernel_rfl) ⟨by simpa using cb, by simpa using cp, by simpa using ca, by simpa using hrg⟩ (fun hHeld => ?_)
  refine wpAnyH_take (i := 0) (oi := ⟨some 12, .load 30 (.tmp 0), _, _, _, none⟩) (v := .pointer (some ⟨p, 0, none⟩)) rfl (by kernel_rfl) (by kernel_rfl) (by kernel_rfl) (fun _ _ _ h => h) (Or.inl ⟨by rfl, by intro w hSw; obtain ⟨s1, s2, s3⟩ := hSw; go_simp⟩) hHeld ?_
  simp only [Act.put, List.setIfInBounds_toArray, List.set_cons_zero, List.set_cons_succ]
  refine wpAnyH_take (i := 1) (oi := ⟨some 13, .nilCheck (.tmp 12), _, _, _, none⟩) (v := .pointer (some ⟨p, 0, none⟩)) rfl (by kernel_rfl) (by kernel_rfl) (by kernel_rfl) (fun _ _ _ h => h) (Or.inl ⟨by rfl, by intro w hSw; go_simp⟩) hHeld ?_
  simp only [Act.put, List.setIfInBounds_toArray, List.set_cons_zero, List.set_cons_succ]
  refine wpAnyH_take (i := 2) (oi := ⟨some 14, .fieldAddr 88 (.tmp 13) 1, _, _, _, none⟩) (v := .pointer (some ⟨p, 2, none⟩)) rfl (by kernel_rfl) (by kernel_rfl) (by kernel_rfl) (fun _ _ _ h => h) (Or.inl ⟨by rfl, by intro w hSw; go_simp⟩) hHeld ?_
  simp only [Act.put, List.setIfInBounds_toArray, List.set_cons_zero, List.set_cons_succ]
  refine wpAnyH_take (i := 3) (oi := ⟨some 15, .load 77 (.tmp 14), _, _, _, none⟩) (v := .slice (some ⟨gs, 0, none⟩) n n) rfl (by kernel_rfl) (by kernel_rfl) (by kernel_rfl) (fun _ _ _ h => h) (Or.inl ⟨by rfl, by intro w hSw; go_split_ands; go_simp⟩) hHeld ?_
  simp only [Act.put, List.setIfInBounds_toArray, List.set_cons_zero, List.set_cons_succ]
  refine wpAnyH_take (i := 4) (oi := ⟨some 16, .fieldAddr 192 (.tmp 2) 0, _, _, _, none⟩) (v := .pointer (some ⟨wb, 0, none⟩)) rfl (by kernel_rfl) (by kernel_rfl) (by kernel_rfl) (fun _ _ _ h => h) (Or.inl ⟨by rfl, by intro w hSw; go_simp⟩) hHeld ?_
  simp only [Act.put, List.setIfInBounds_toArray, List.set_cons_zero, List.set_cons_succ]
  refine wpAnyH_take (i := 5) (oi := ⟨some 17, .load 3 (.tmp 16), _, _, _, none⟩) (v := .int .i64 (k : Nat)) rfl (by kernel_rfl) (by kernel_rfl) (by kernel_rfl) (fun _ _ _ h => h) (Or.inl ⟨by rfl, by intro w hSw; go_split_ands; go_simp⟩) hHeld ?_
  simp only [Act.put, List.setIfInBounds_toArray, List.set_cons_zero, List.set_cons_succ]
  refine wpAnyH_take (i := 6) (oi := ⟨some 18, .fieldAddr 192 (.tmp 2) 1, _, _, _, none⟩) (v := .pointer (some ⟨wb, 1, none⟩)) rfl (by kernel_rfl) (by kernel_rfl) (by kernel_rfl) (fun _ _ _ h => h) (Or.inl ⟨by rfl, by intro w hSw; go_simp⟩) hHeld ?_
  simp only [Act.put, List.setIfInBounds_toArray, List.set_cons_zero, List.set_cons_succ]
  refine wpAnyH_take (i := 7) (oi := ⟨some 19, .load 190 (.tmp 18), _, _, _, none⟩) (v := .agg D.toArray) rfl (by kernel_rfl) (by kernel_rfl) (by kernel_rfl) (fun _ _ _ h => h) (yieldsIf_load_mid (by rfl) _ _ rfl wb 1 rfl D _ (fun w h => by go_split_ands; assumption) Tryz.underlying190 rfl hiD) hHeld ?_
  simp only [Act.put, List.setIfInBounds_toArray, List.set_cons_zero, List.set_cons_succ]
  refine wpAnyH_take (i := 8) (oi := ⟨some 20, .indexAddr 77 (.tmp 15) (.tmp 17), _, _, _, none⟩) (v := .pointer (some ⟨gs, k * 64, none⟩)) rfl (by kernel_rfl) (by kernel_rfl) (by kernel_rfl) (fun _ _ _ h => h) (Or.inl ⟨by rfl, by intro w hSw; go_simp⟩) hHeld ?_
  simp only [Act.put, List.setIfInBounds_toArray, List.set_cons_zero, List.set_cons_succ]
  refine wpAnyH_ready (rs := [9]) (by kernel_rfl) (by simp) ?_
  refine AllReadyH.cons (o := ⟨none, .store 190 (.tmp 20) (.tmp 19), _, _, _, none⟩) rfl (fun K hK => ?_) AllReadyH.nil
  rw [if_pos (by rfl)]
  refine wp_store_mid _ _ _ rfl gs (k * 64) D.toArray rfl rfl (by simpa [hD] using ht) (by simpa using hiD) (all_oneCell_toArray h1) ?_
  have hap : ∀ (a : Addr), a.block ≠ gs → (w.drew.setCells gs (k * 64) D.toArray.toList).cell? a = w.drew.cell? a := fun a ha => World.cell?_setCells_out gs _ _ _ a (fun hb => absurd hb ha)
  refine hK.out _ _ ?_ (fun hHeld2 => ?_)
  · go_split_ands
    refine ⟨by rw [hap _ nb]; assumption, by rw [hap _ np]; assumption, by rw [hap _ nw]; assumption, World.rangeAt_setCells_apart (by assumption) _ _ _ (.inl nw)⟩
  clear hK K
  simp only [Act.put]
  refine wpAnyH_done (by kernel_rfl) ?_ _
  exact hQ.out _ _ _ _ _ _ _ _ _
set_option maxRecDepth 100000 in
set_option maxHeartbeats 1600000 in
theorem cr7_any {df : List Deferred} {x1 x2 x3 x4 x5 x7 x8 x9 x10 x11 x12 x13 x14 x15 x16 x17 x18 x19 x20 x21 x22 x23 x24 x25 x26 x27 x28 x29 x30 x31 x32 x33 x34 x35 x36 x37 x38 x39 x40 x41 x42 x43 x44 x45 x46 x47 x48 x49 x50 x51 x52 x53 x54 x55 : Value} (p gs wb n k : Nat) (D : List Value) (w : World) (R : Act → World → Prop)
    (cp : w.cell? ⟨p, 2, none⟩ = some (.slice (some ⟨gs, 0, none⟩) n n)) (ca : w.cell? ⟨wb, 0, none⟩ = some (.int .i64 (k : Nat))) (hrg : w.rangeAt wb 1 D) (hD : D.length = 64) (h1 : ∀ v ∈ D, v.oneCell' = true)
    (hk : k < n) (_hn : n ≤ 4096) (ht : w.there gs (k * 64) 64) (np : p ≠ gs) (nw : wb ≠ gs)
    (hQ : Hid (∀ (y38 y39 y40 y41 y42 y43 y44 y45 y46 : Value), R ⟨#[.pointer (some ⟨p, 0, none⟩), x1, x2, x3, x4, x5, .pointer (some ⟨wb, 0, none⟩), x7, x8, x9, x10, x11, x12, x13, x14, x15, x16, x17, x18, x19, x20, x21, x22, x23, x24, x25, x26, x27, x28, x29, x30, x31, x32, x33, x34, x35, x36, x37, y38, y39, y40, y41, y42, y43, y44, y45, y46, x47, x48, x49, x50, x51, x52, x53, x54, x55], df⟩ (w.drew.setCells gs (k * 64) D))) :
    Code.wp Tryz.prog cr7 (At R) ⟨#[.pointer (some ⟨p, 0, none⟩), x1, x2, x3, x4, x5, .pointer (some ⟨wb, 0, none⟩), x7, x8, x9, x10, x11, x12, x13, x14, x15, x16, x17, x18, x19, x20, x21, x22, x23, x24, x25, x26, x27, x28, x29, x30, x31, x32, x33, x34, x35, x36, x37, x38, x39, x40, x41, x42, x43, x44, x45, x46, x47, x48, x49, x50, x51, x52, x53, x54, x55], df⟩ w := by
  conv => arg 2; whnf
  have hiD : (Tryz.prog.info? 190).map (·.size) = some D.length := by rw [hD]; exact secSize
  have k0 : (0 : Int) ≤ (k : Int) := by omega
  have k1 : (k : Int) < (n : Int) := by omega
  refine wp_region_held_drew (S := fun w' => w'.cell? ⟨p, 2, none⟩ = some (.slice (some ⟨gs, 0, none⟩) n n) ∧ w'.cell? ⟨wb, 0, none⟩ = some (.int .i64 (k : Nat)) ∧ w'.rangeAt wb 1 D) (by kernel_rfl) ⟨by simpa using cp, by simpa using ca, by simpa using hrg⟩ (fun hHeld => ?_)
  refine wpAnyH_take (i := 0) (oi := ⟨some 38, .move (.tmp 0), _, _, _, none⟩) (v := .pointer (some ⟨p, 0, none⟩)) rfl (by kernel_rfl) (by kernel_rfl) (by kernel_rfl) (fun _ _ _ h => h) (Or.inl ⟨by rfl, by intro w hSw; go_simp⟩) hHeld ?_
  simp only [Act.put, List.setIfInBounds_toArray, List.set_cons_zero, List.set_cons_succ]
  refine wpAnyH_take (i := 1) (oi := ⟨some 39, .nilCheck (.tmp 38), _, _, _, none⟩) (v := .pointer (some ⟨p, 0, none⟩)) rfl (by kernel_rfl) (by kernel_rfl) (by kernel_rfl) (fun _ _ _ h => h) (Or.inl ⟨by rfl, by intro w hSw; go_simp⟩) hHeld ?_
  simp only [Act.put, List.setIfInBounds_toArray, List.set_cons_zero, List.set_cons_succ]
  refine wpAnyH_take (i := 2) (oi := ⟨some 40, .fieldAddr 88 (.tmp 39) 1, _, _, _, none⟩) (v := .pointer (some ⟨p, 2, none⟩)) rfl (by kernel_rfl) (by kernel_rfl) (by kernel_rfl) (fun _ _ _ h => h) (Or.inl ⟨by rfl, by intro w hSw; go_simp⟩) hHeld ?_
  simp only [Act.put, List.setIfInBounds_toArray, List.set_cons_zero, List.set_cons_succ]
  refine wpAnyH_take (i := 3) (oi := ⟨some 41, .load 77 (.tmp 40), _, _, _, none⟩) (v := .slice (some ⟨gs, 0, none⟩) n n) rfl (by kernel_rfl) (by kernel_rfl) (by kernel_rfl) (fun _ _ _ h => h) (Or.inl ⟨by rfl, by intro w hSw; go_split_ands; go_simp⟩) hHeld ?_
  simp only [Act.put, List.setIfInBounds_toArray, List.set_cons_zero, List.set_cons_succ]
  refine wpAnyH_take (i := 4) (oi := ⟨some 42, .fieldAddr 192 (.tmp 6) 0, _, _, _, none⟩) (v := .pointer (some ⟨wb, 0, none⟩)) rfl (by kernel_rfl) (by kernel_rfl) (by kernel_rfl) (fun _ _ _ h => h) (Or.inl ⟨by rfl, by intro w hSw; go_simp⟩) hHeld ?_
  simp only [Act.put, List.setIfInBounds_toArray, List.set_cons_zero, List.set_cons_succ]
  refine wpAnyH_take (i := 5) (oi := ⟨some 43, .load 3 (.tmp 42), _, _, _, none⟩) (v := .int .i64 (k : Nat)) rfl (by kernel_rfl) (by kernel_rfl) (by kernel_rfl) (fun _ _ _ h => h) (Or.inl ⟨by rfl, by intro w hSw; go_split_ands; go_simp⟩) hHeld ?_
  simp only [Act.put, List.setIfInBounds_toArray, List.set_cons_zero, List.set_cons_succ]
  refine wpAnyH_take (i := 6) (oi := ⟨some 44, .fieldAddr 192 (.tmp 6) 1, _, _, _, none⟩) (v := .pointer (some ⟨wb, 1, none⟩)) rfl (by kernel_rfl) (by kernel_rfl) (by kernel_rfl) (fun _ _ _ h => h) (Or.inl ⟨by rfl, by intro w hSw; go_simp⟩) hHeld ?_
  simp only [Act.put, List.setIfInBounds_toArray, List.set_cons_zero, List.set_cons_succ]
  refine wpAnyH_take (i := 7) (oi := ⟨some 45, .load 190 (.tmp 44), _, _, _, none⟩) (v := .agg D.toArray) rfl (by kernel_rfl) (by kernel_rfl) (by kernel_rfl) (fun _ _ _ h => h) (yieldsIf_load_mid (by rfl) _ _ rfl wb 1 rfl D _ (fun w h => by go_split_ands; assumption) Tryz.underlying190 rfl hiD) hHeld ?_
  simp only [Act.put, List.setIfInBounds_toArray, List.set_cons_zero, List.set_cons_succ]
  refine wpAnyH_take (i := 8) (oi := ⟨some 46, .indexAddr 77 (.tmp 41) (.tmp 43), _, _, _, none⟩) (v := .pointer (some ⟨gs, k * 64, none⟩)) rfl (by kernel_rfl) (by kernel_rfl) (by kernel_rfl) (fun _ _ _ h => h) (Or.inl ⟨by rfl, by intro w hSw; go_simp⟩) hHeld ?_
  simp only [Act.put, List.setIfInBounds_toArray, List.set_cons_zero, List.set_cons_succ]
  refine wpAnyH_ready (rs := [9]) (by kernel_rfl) (by simp) ?_
  refine AllReadyH.cons (o := ⟨none, .store 190 (.tmp 46) (.tmp 45), _, _, _, none⟩) rfl (fun K hK => ?_) AllReadyH.nil
  rw [if_pos (by rfl)]
  refine wp_store_mid _ _ _ rfl gs (k * 64) D.toArray rfl rfl (by simpa [hD] using ht) (by simpa using hiD) (all_oneCell_toArray h1) ?_
  have hap : ∀ (a : Addr), a.block ≠ gs → (w.drew.setCells gs (k * 64) D.toArray.toList).cell? a = w.drew.cell? a := fun a ha => World.cell?_setCells_out gs _ _ _ a (fun hb => absurd hb ha)
  refine hK.out _ _ ?_ (fun hHeld2 => ?_)
  · go_split_ands
    refine ⟨by rw [hap _ np]; assumption, by rw [hap _ nw]; assumption, World.rangeAt_setCells_apart (by assumption) _ _ _ (.inl nw)⟩
  clear hK K
  simp only [Act.put]
  refine wpAnyH_done (by kernel_rfl) ?_ _
  exact hQ.out _ _ _ _ _ _ _ _ _
end Go.Proofs.YtdidjdoifpfmmaaGreatDoor
namespace Go.Proofs.YtdidjdoifpfmmaaGreatDoor
open Go.RowKit
noncomputable def flA : Code := fstC flCode
theorem Locked.ne {w : World} {d : DP} {S : Dk} (h : Locked w d S) : d.p ≠ d.gs ∧ d.p ≠ d.gm ∧ d.gs ≠ d.gm ∧ (∀ g, d.wv.ownBlock = some g → d.p ≠ g ∧ d.gs ≠ g ∧ d.gm ≠ g) := by
  have hn := h.apart
  simp only [DP.blocks, List.nodup_cons, List.mem_cons, not_or] at hn
  refine ⟨hn.1.1, hn.1.2.1, hn.2.1.1, fun g hg => ?_⟩
  rw [hg] at hn
  simp at hn
  omega
theorem Locked.waits {w : World} {d : DP} {S : Dk} (h : Locked w d S) (hne : 0 < S.wait.length) : ∃ g cap, d.wv = .slice (some ⟨g, 0, none⟩) S.wait.length cap ∧ Has w g 192 cap 65 (wcells S.wait) ∧ S.wait.length ≤ cap ∧ cap ≤ maxLen ∧ d.p ≠ g ∧ d.gs ≠ g ∧ d.gm ≠ g := by
  rcases h.wait.2 with ⟨e, e0⟩ | ⟨g, cap, cur, e, _⟩
  · omega
  · have hw := h.wait
    rw [e] at hw
    obtain ⟨h1, h2, h3⟩ := has_of_owns hw
    exact ⟨g, cap, e, h1, h2, h3, h.ne.2.2.2 g (by rw [e]; rfl)⟩
set_option maxRecDepth 100000 in
set_option maxHeartbeats 1600000 in
theorem flA_any {x1 x2 x3 x4 x5 x6 x7 x8 x9 x10 x11 x12 x13 x14 x15 x16 x17 x18 x19 x20 x21 x22 x23 : Value} {w : World} {d : DP} {S : Dk} (h : Locked w d S) (ok : S.Ok) (b : Nat) (r : RowIs w b 30 [.pointer (some ⟨d.p, 0, none⟩)]) (nb : b ≠ d.gs) (R : Act → World → Prop)
    (hQ : Hid (∀ (y2 y3 y4 y5 y6 y7 y8 y9 y10 y11 y12 y13 y14 y15 y16 y17 y18 y19 y20 y21 : Value) (w' : World), RowIs w' d.gs 190 (secs S.seen) → Fr w w' [d.gs] → R ⟨#[.pointer (some ⟨b, 0, none⟩), x1, y2, y3, y4, y5, y6, y7, y8, y9, y10, y11, y12, y13, y14, y15, y16, y17, y18, y19, y20, y21, x22, x23], []⟩ w')) :
    Code.wp Tryz.prog flA (At R) ⟨#[.pointer (some ⟨b, 0, none⟩), x1, x2, x3, x4, x5, x6, x7, x8, x9, x10, x11, x12, x13, x14, x15, x16, x17, x18, x19, x20, x21, x22, x23], []⟩ w := by
  conv => arg 2; whnf
  obtain ⟨np, npm, ngm, nown⟩ := h.ne
  obtain ⟨aw, cw, hwv⟩ := h.slice
  have hfew := ok.few
  have hmost := ok.most
  have c3 : w.cell? ⟨d.p, 3, none⟩ = some (.slice aw S.wait.length cw) := by rw [← hwv]; exact h.row.cell 3
  have cb : w.cell? ⟨b, 0, none⟩ = some (.pointer (some ⟨d.p, 0, none⟩)) := r.cell 0
  have HW : Hid _ := h
  have HB : Hid _ := r
  clear h r
  refine seq_at ?_
  go_wp2
  show Code.wp _ _ _ _ _
  refine wp_block ?_
  go_loopw [8] (fun i wr => ∃ j : Nat, j ≤ S.wait.length ∧ i = .int .i64 j ∧ RowIs wr d.gs 190 (secs (over S.safe (S.wait.take j))) ∧ Fr w wr [d.gs]) (fun i _ => S.wait.length - (intOf i).toNat)
  case atStart => exact ⟨0, Nat.zero_le _, rfl, by simpa [over] using HW.out.safe, Fr.refl _ _⟩
  case round =>
    obtain ⟨j, hj, rfl, hs, hf⟩ := hrel
    by_cases hlt : j < S.wait.length
    · obtain ⟨g, cap, hwv', hw, hlc, hcm, m1, m2, m3⟩ := HW.out.waits (by omega)
      have e := hwv.symm.trans hwv'
      injection e with e1 _ e2
      subst e1 e2
      have hsz := fun x hx => (ok.wr x hx).2
      have hwr := hw.fr hf (by simpa using m2.symm)
      have hrg := wcells_range hwr hsz j hlt
      have hat := (ok.wr _ (List.getElem_mem hlt)).1
      have hx64 := hsz _ (List.getElem_mem hlt)
      have hstep := over_take_succ S.safe S.wait j hlt
      generalize S.wait[j].1 = k at *
      generalize S.wait[j].2 = x at *
      have hl64 := sec_length x hx64
      have rp := hf.row HW.out.row (by simpa using np)
      have rb := hf.row HB.out (by simpa using nb)
      have hB : ∀ o, Below wr.heap.size wr (wr.alloc o) := fun o => (Below.refl _ _).alloc (Nat.le_refl _) _
      have cb2 : ∀ o, (wr.alloc o).cell? ⟨b, 0, none⟩ = some (.pointer (some ⟨d.p, 0, none⟩)) := fun o => (rb.below (hB o) rb.lt).cell 0
      have cp2 : ∀ o, (wr.alloc o).cell? ⟨d.p, 2, none⟩ = some (.slice (some ⟨d.gs, 0, none⟩) S.safe.length S.safe.length) := fun o => (rp.below (hB o) rp.lt).cell 2
      have hos := over_sizes S.safe (S.wait.take j) ok.sec (fun x hx => hsz x (List.mem_of_mem_take hx))
      have hol := over_length S.safe (S.wait.take j)
      have hs2 : ∀ o, RowIs (wr.alloc o) d.gs 190 (secs (over S.safe (S.wait.take j))) := fun o => hs.below (hB o) hs.lt
      have ht2 := fun o => secs_there (hs2 o) hos k (by omega)
      have rw_ := RowIs.new wr 192 (.int .i64 (k : Nat) :: bytes (textOf x))
      have ca2 : (wr.alloc (.cells (.int .i64 (k : Nat) :: bytes (textOf x)).toArray 192)).cell? ⟨wr.heap.size, 0, none⟩ = some (.int .i64 (k : Nat)) := rw_.cell 0
      have hrg2 : (wr.alloc (.cells (.int .i64 (k : Nat) :: bytes (textOf x)).toArray 192)).rangeAt wr.heap.size 1 (bytes (textOf x)) := by
        intro i v hv
        rw [rw_.cell, Nat.add_comm 1 i, List.getElem?_cons_succ, hv]
      have hsl := hs.lt
      have HN : Hid (RowIs ((wr.alloc (.cells (.int .i64 (k : Nat) :: bytes (textOf x)).toArray 192)).drew.setCells d.gs (k * 64) (bytes (textOf x))) d.gs 190 (secs (over S.safe (S.wait.take (j + 1))))) := by
        rw [hstep]
        exact secs_store (hs2 _).drew hos k (by omega) x hx64
      have HF : Hid (Fr w ((wr.alloc (.cells (.int .i64 (k : Nat) :: bytes (textOf x)).toArray 192)).drew.setCells d.gs (k * 64) (bytes (textOf x))) [d.gs]) := fr_many _ _ _ (hf.alloc _).drew (.inl (by simp))
      have hone : ∀ v ∈ bytes (textOf x), v.oneCell' = true := by
        intro v hv
        obtain ⟨n, _, rfl⟩ := List.mem_map.1 hv
        rfl
      have hoC : (.int .i64 (k : Nat) :: bytes (textOf x) : List Value).toArray.all (·.oneCell') = true := all_oneCell_toArray (by
        intro v hv
        rcases List.mem_cons.1 hv with rfl | hv
        · rfl
        · exact hone v hv)
      have hlC : (.int .i64 (k : Nat) :: bytes (textOf x) : List Value).length = 65 := by rw [List.length_cons, hl64]
      generalize bytes (textOf x) = D at *
      generalize (.int .i64 (k : Nat) :: D : List Value) = C at *
      have hiC : (Tryz.prog.info? 192).map (·.size) = some C.length := by rw [hlC]; exact wrSize
      have hiC2 : (Tryz.prog.info? 192).map (·.size) = some C.toArray.size := hiC
      have hsC : (Tryz.zeroCells192).size = C.toArray.size := by rw [show C.toArray.size = 65 from hlC, zeroW]; simp
      have HT : Hid _ := ht2
      have HR2 : Hid _ := hrg2
      have HO : Hid _ := hone
      clear hs hs2 rw_ rb rp hB hwr hf hw hos ht2 hrg2 hone hsz hstep
      go_wp2_with (first
        | (refine wpList_load_mid rfl 192 _ rfl g (j * 65) rfl _ _ hrg Tryz.underlying192 rfl hiC ?_)
        | (refine wpList_store_new rfl 192 _ _ rfl wr.heap.size _ C.toArray rfl rfl rfl hiC2 hsC hoC ?_))
      refine wp_at (fl3_any d.p d.gs wr.heap.size S.safe.length k b D _ _ (cb2 _) nb (cp2 _) ca2 HR2.out hl64 HO.out hat hmost (HT.out _) np (by omega) ?_)
      refine fun y12 y13 y14 y15 y16 y17 y18 y19 y20 => ?_
      go_wp2
      exact ⟨⟨j + 1, by omega, by go_num, HN.out, HF.out⟩, by simp [intOf]; omega⟩
    · have ej : j = S.wait.length := by omega
      subst ej
      rw [List.take_length] at hs
      have HS : Hid _ := hs
      clear hs
      go_wp2
      exact hQ.out _ _ _ _ _ _ _ _ _ _ _ _ _ _ _ _ _ _ _ _ _ HS.out hf
set_option maxRecDepth 100000 in
set_option maxHeartbeats 1600000 in
theorem devFlush1_any {w : World} {d : DP} {S : Dk} (h : Locked w d S) (ok : S.Ok) (b : Nat) (r : RowIs w b 30 [.pointer (some ⟨d.p, 0, none⟩)]) (nb : b ≠ d.gs) :
    Calls Tryz.prog 148 #[.pointer (some ⟨b, 0, none⟩)] w fun e w' => e = .returned (.tuple #[]) ∧ Locked w' { d with wv := .slice none 0 0 } { S with safe := S.seen, wait := [] } ∧ Fr w w' d.blocks := by
  obtain ⟨np, npm, ngm, nown⟩ := h.ne
  have HQ : Hid (∀ w1 : World, RowIs w1 d.gs 190 (secs S.seen) → Fr w w1 [d.gs] → ∀ w2, RowIs w2 d.p 88 ({ d with wv := .slice none 0 0 }.cells S 1) → w2.ownsMap (H := Unit) Tryz.prog 3 (plainElem Tryz.prog 3) d.gm 0 (.map []) → Fr w1 w2 [d.p, d.gm] → Locked w2 { d with wv := .slice none 0 0 } { S with safe := S.seen, wait := [] } ∧ Fr w w2 d.blocks) := by
    intro w1 hs f1 w2 hr hm f2
    refine ⟨⟨?_, f2.row hs (by simp; exact ⟨np.symm, ngm⟩), World.ownsRow_nil _ _ _ _, hm, ?_⟩, (f1.wider (by simp [DP.blocks])).trans f2 (by intro y hy _; simp at hy; rcases hy with rfl | rfl <;> simp [DP.blocks])⟩
    · show RowIs _ _ _ [_, _, .slice (some ⟨d.gs, 0, none⟩) S.seen.length S.seen.length, _, _, _, _]
      rw [S.seen_length]; exact hr
    · show (d.p :: d.gs :: d.gm :: []).Nodup
      simp only [List.nodup_cons, List.mem_cons, List.not_mem_nil, or_false, not_or, not_false_eq_true, List.nodup_nil, and_true]
      exact ⟨⟨np, npm⟩, ngm⟩
  go_enter Tryz.func148, Tryz.ntmps148
  refine seq_at (flA_any h ok b r nb _ ?_)
  refine fun y2 y3 y4 y5 y6 y7 y8 y9 y10 y11 y12 y13 y14 y15 y16 y17 y18 y19 y20 y21 w1 hs f1 => ?_
  show Code.wp _ _ _ _ _
  have rp := f1.row h.row (by simpa using np)
  have rb : w1.cell? ⟨b, 0, none⟩ = some (.pointer (some ⟨d.p, 0, none⟩)) := (f1.row r (by simpa using nb)).cell 0
  have hm1 := map_fr h.last f1 (by simpa using ngm.symm)
  have hfo := devForget_any rp hm1 npm
  have HK := HQ.out w1 hs f1
  have HL : Hid _ := HK
  clear h r rp hm1 hs f1 HK
  go_wp2_with (go_at_call 104; refine hfo.mono ?_; rintro e w' ⟨rfl, h1, h2, h3⟩)
  go_end0
  exact ⟨rfl, HL.out _ h1 h2 h3⟩
end Go.Proofs.YtdidjdoifpfmmaaGreatDoor
namespace Go.Proofs.YtdidjdoifpfmmaaGreatDoor
open Go.RowKit
set_option maxRecDepth 100000 in
set_option maxHeartbeats 1600000 in
theorem devFlush_ok {w : World} {d : DP} {S : Dk} (h : DevAt w d S) (ok : S.Ok) (hu : S.tick.down = false) (hf : S.fuse ≤ 9223372036854775807) :
    Calls Tryz.prog 83 #[.pointer (some ⟨d.p, 0, none⟩)] w fun e w' =>
      e = .returned .nilIface ∧ (∃ d', DevAt w' d' { S.tick with safe := S.seen, wait := [] } ∧ d'.p = d.p ∧ (∀ b ∈ d'.blocks, b ∈ d.blocks ∨ w.heap.size ≤ b)) ∧ Fr w w' d.blocks := by
  have hB : Below w.heap.size w (w.alloc (.cells #[.pointer (some ⟨d.p, 0, none⟩)] 30)) := (Below.refl _ _).alloc (Nat.le_refl _) _
  have r3 : RowIs (w.alloc (.cells #[.pointer (some ⟨d.p, 0, none⟩)] 30)) w.heap.size 30 [.pointer (some ⟨d.p, 0, none⟩)] := RowIs.new w 30 [.pointer (some ⟨d.p, 0, none⟩)]
  have h1 := h.below hB
  generalize hW : (w.alloc (.cells #[.pointer (some ⟨d.p, 0, none⟩)] 30)) = W at *
  have lp := h.row.lt
  have lm := h.last.lt
  have ls := h.safe.lt
  have z0 : W.cell? ⟨d.p, 0, none⟩ = some (.int .i32 0) := h1.row.cell 0
  have z1 := h1.row.frozen 0
  have c3 : W.cell? ⟨w.heap.size, 0, none⟩ = some (.pointer (some ⟨d.p, 0, none⟩)) := r3.cell 0
  have hL := h1.lock
  have s3 : RowIs (W.setCell ⟨d.p, 0, none⟩ (.int .i32 1)) w.heap.size 30 [.pointer (some ⟨d.p, 0, none⟩)] := r3.other _ (by simp; omega)
  have hfL : Fr w (W.setCell ⟨d.p, 0, none⟩ (.int .i32 1)) d.blocks := (Fr.of_below hB _).setCell _ _ (.inl (by simp [DP.blocks]))
  generalize hWL : W.setCell ⟨d.p, 0, none⟩ (.int .i32 1) = L at *
  have l3 : L.cell? ⟨w.heap.size, 0, none⟩ = some (.pointer (some ⟨d.p, 0, none⟩)) := s3.cell 0
  have hop := devOperate_flush hL.row hu hf #[.pointer (some ⟨w.heap.size, 0, none⟩)] (fun w' => Locked w' { d with wv := .slice none 0 0 } { S.tick with safe := S.seen, wait := [] } ∧ Fr w w' d.blocks) (by
    intro w1 hr f1
    have hT := hL.tick hr f1
    refine (devFlush1_any hT ok.tick w.heap.size (f1.row s3 (by simp; omega)) (by omega)).mono ?_
    rintro e w' ⟨rfl, a1, a2⟩
    refine ⟨rfl, ?_, (hfL.trans f1 (by simp [DP.blocks])).trans a2 (fun y hy _ => hy)⟩
    rw [S.tick_seen] at a1
    exact a1)
  have HO : Hid _ := hop
  clear h1 r3 s3 hL h hop hfL hB
  go_enter_defers Tryz.func83, Tryz.ntmps83
  go_wp2_with (go_at_call 57; refine (lock_free ⟨d.p, 0, none⟩ _ z0 z1).mono ?_; rintro e w' ⟨rfl, rfl⟩)
  refine Calls.mono HO.out ?_
  rintro e w' ⟨rfl, hl, hfr⟩
  have q0 : w'.cell? ⟨d.p, 0, none⟩ = some (.int .i32 1) := hl.row.cell 0
  have q1 : w'.frozen? ⟨d.p, 0, none⟩ = false := hl.row.frozen 0
  have HD : Hid (DevAt (w'.setCell ⟨d.p, 0, none⟩ (.int .i32 0)) { d with wv := .slice none 0 0 } { S.tick with safe := S.seen, wait := [] }) := hl.free
  have HF : Hid (Fr w (w'.setCell ⟨d.p, 0, none⟩ (.int .i32 0)) d.blocks) := hfr.setCell _ _ (.inl (by simp [DP.blocks]))
  clear hl hfr
  go_wp2
  refine leaves_cons (f := 58) (args := #[.pointer (some ⟨d.p, 0, none⟩)]) (by simp) (by simp [go_sem]) ?_
  refine (unlock_deferred ⟨d.p, 0, none⟩ .returning _ q0 q1).mono ?_
  rintro e u' w'' ⟨rfl, rfl, rfl⟩
  refine ⟨_, results_tmp rfl _ _ _, rfl, ⟨_, HD.out, rfl, ?_⟩, HF.out⟩
  intro b hb
  have hb' : b ∈ (d.p :: d.gs :: d.gm :: []) := hb
  simp only [List.mem_cons, List.not_mem_nil, or_false] at hb'
  left
  rcases hb' with rfl | rfl | rfl <;> simp [DP.blocks]
set_option maxRecDepth 100000 in
set_option maxHeartbeats 1600000 in
theorem devFlush_down {w : World} {d : DP} {S : Dk} (h : DevAt w d S) (hu : S.tick.down = true) (hf : S.fuse ≤ 9223372036854775807) (ea : Addr) (hg : w.cell? ⟨1, 0, none⟩ = some (.iface 452 (.pointer (some ea)))) (hp1 : d.p ≠ 1) :
    Calls Tryz.prog 83 #[.pointer (some ⟨d.p, 0, none⟩)] w fun e w' =>
      e = .returned (.iface 452 (.pointer (some ea))) ∧ DevAt w' d S.tick ∧ Fr w w' [d.p] := by
  have hB : Below w.heap.size w (w.alloc (.cells #[.pointer (some ⟨d.p, 0, none⟩)] 30)) := (Below.refl _ _).alloc (Nat.le_refl _) _
  have r3 : RowIs (w.alloc (.cells #[.pointer (some ⟨d.p, 0, none⟩)] 30)) w.heap.size 30 [.pointer (some ⟨d.p, 0, none⟩)] := RowIs.new w 30 [.pointer (some ⟨d.p, 0, none⟩)]
  have h1 := h.below hB
  generalize hW : (w.alloc (.cells #[.pointer (some ⟨d.p, 0, none⟩)] 30)) = W at *
  have lp := h.row.lt
  have z0 : W.cell? ⟨d.p, 0, none⟩ = some (.int .i32 0) := h1.row.cell 0
  have z1 := h1.row.frozen 0
  have c3 : W.cell? ⟨w.heap.size, 0, none⟩ = some (.pointer (some ⟨d.p, 0, none⟩)) := r3.cell 0
  have hL := h1.lock
  have s3 : RowIs (W.setCell ⟨d.p, 0, none⟩ (.int .i32 1)) w.heap.size 30 [.pointer (some ⟨d.p, 0, none⟩)] := r3.other _ (by simp; omega)
  have hfL : Fr w (W.setCell ⟨d.p, 0, none⟩ (.int .i32 1)) [d.p] := (Fr.of_below hB _).setCell _ _ (.inl (by simp))
  generalize hWL : W.setCell ⟨d.p, 0, none⟩ (.int .i32 1) = L at *
  have l3 : L.cell? ⟨w.heap.size, 0, none⟩ = some (.pointer (some ⟨d.p, 0, none⟩)) := s3.cell 0
  have gL : L.cell? ⟨1, 0, none⟩ = some (.iface 452 (.pointer (some ea))) := by
    rw [← hWL, World.cell?_setCell_other _ _ _ _ (by simp []), World.cell?_of_block (hB.block 1 (World.block_lt_of_cell? w _ hg))]
    exact hg
  have hop := devOperate_down hL.row hu hf (.func (.func 148) #[] #[.pointer (some ⟨w.heap.size, 0, none⟩)]) ea gL hp1
  have HK : Hid (∀ w', RowIs w' d.p 88 (d.cells S.tick 1) → Fr L w' [d.p] → DevAt (w'.setCell ⟨d.p, 0, none⟩ (.int .i32 0)) d S.tick ∧ Fr w (w'.setCell ⟨d.p, 0, none⟩ (.int .i32 0)) [d.p]) := by
    intro w' hr f
    exact ⟨(hL.tick hr f).free, (hfL.trans f (by simp)).setCell _ _ (.inl (by simp))⟩
  have HO : Hid _ := hop
  clear h1 r3 s3 hL h hop hfL hB
  go_enter_defers Tryz.func83, Tryz.ntmps83
  go_wp2_with (go_at_call 57; refine (lock_free ⟨d.p, 0, none⟩ _ z0 z1).mono ?_; rintro e w' ⟨rfl, rfl⟩)
  refine Calls.mono HO.out ?_
  rintro e w' ⟨rfl, hr, f⟩
  have q0 : w'.cell? ⟨d.p, 0, none⟩ = some (.int .i32 1) := hr.cell 0
  have q1 := hr.frozen 0
  have HD := HK.out w' hr f
  have HE : Hid _ := HD
  clear hr f HD
  go_wp2
  refine leaves_cons (f := 58) (args := #[.pointer (some ⟨d.p, 0, none⟩)]) (by simp) (by simp [go_sem]) ?_
  refine (unlock_deferred ⟨d.p, 0, none⟩ .returning _ q0 q1).mono ?_
  rintro e u' w'' ⟨rfl, rfl, rfl⟩
  exact ⟨_, results_tmp rfl _ _ _, rfl, HE.out⟩
end Go.Proofs.YtdidjdoifpfmmaaGreatDoor
