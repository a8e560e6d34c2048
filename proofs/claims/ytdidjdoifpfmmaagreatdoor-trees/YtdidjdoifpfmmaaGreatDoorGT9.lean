import Derived.Test.YtdidjdoifpfmmaaGreatDoorErrIs
import Derived.Test.YtdidjdoifpfmmaaGreatDoorErrAs
import Derived.Below
import Derived.Test.YtdidjdoifpfmmaaGreatDoorGT7
import Derived.Deep.RegionWith
import Derived.Test.YtdidjdoifpfmmaaGreatDoorGT8
namespace Go.Proofs.YtdidjdoifpfmmaaGreatDoor
open Go.RowKit

/-- The twelve reasons, at their addresses; the handle of the type error. -/
structure Sents (a : Nat → Addr) (w : World) : Prop where
  var : ∀ k, k < 12 → w.cell? ⟨k, 0, none⟩ = some (.iface 452 (.pointer (some (a k))))
  row : ∀ k, k < 12 → ∃ c t, w.heap[(a k).block]? = some (.cells c t (0, 0))
  ne : ∀ i j, i < 12 → j < 12 → i ≠ j → a i ≠ a j
  text : ∀ k, k < 12 → ∃ s, w.cell? (a k) = some (.string s) ∧ s.size ≠ 0 ∧ s.size ≤ 100
  et : w.cell? ⟨12, 0, none⟩ = some (.iface 325 (.agg #[.pointer (some ⟨18, 92, none⟩)]))

theorem lt_of_cellE {w : World} {p : Addr} {v : Value} (h : w.cell? p = some v) : p.block < w.heap.size := by
  rcases Nat.lt_or_ge p.block w.heap.size with h' | h'
  · exact h'
  · simp [World.cell?, Array.getElem?_eq_none h'] at h

theorem Sents.size {a : Nat → Addr} {w : World} (h : Sents a w) : 12 < w.heap.size := lt_of_cellE h.et

theorem Sents.below {a : Nat → Addr} {w w' : World} (h : Sents a w) (hb : Below w.heap.size w w') : Sents a w' where
  var k hk := by rw [hb.cell (lt_of_cellE (h.var k hk))]; exact h.var k hk
  row k hk := by
    obtain ⟨s, hs, _⟩ := h.text k hk
    rw [hb.block _ (lt_of_cellE hs)]; exact h.row k hk
  ne := h.ne
  text k hk := by
    obtain ⟨s, hs, h0⟩ := h.text k hk
    exact ⟨s, by rw [hb.cell (lt_of_cellE hs)]; exact hs, h0⟩
  et := by rw [hb.cell (lt_of_cellE h.et)]; exact h.et

theorem is_any {a : Nat → Addr} {w : World} (h : Sents a w) (k j : Nat) (hk : k < 12) (hj : j < 12) :
    Calls Tryz.prog 78 #[.iface 452 (.pointer (some (a k))), .iface 452 (.pointer (some (a j)))] w fun e w' => e = .returned (.bool (decide (j = k))) ∧ w' = w := by
  by_cases hjk : j = k
  · subst hjk
    simpa using is_same (a j) w
  · obtain ⟨c, t, hr⟩ := h.row k hk
    obtain ⟨c', t', hr'⟩ := h.row j hj
    simpa [hjk] using is_other (a k) (a j) c c' t t' w (h.ne k j hk hj (fun e => hjk e.symm)) hr hr'

theorem is_wrapped {a : Nat → Addr} {w : World} (h : Sents a w) (k j pb : Nat) (hk : k < 12) (hj : j < 12) (h1 : w.cell? ⟨pb, 1, none⟩ = some (.iface 452 (.pointer (some (a k))))) :
    Calls Tryz.prog 78 #[.iface 152 (.pointer (some ⟨pb, 0, none⟩)), .iface 452 (.pointer (some (a j)))] w fun e w' => e = .returned (.bool (decide (j = k))) ∧ w' = w := by
  by_cases hjk : j = k
  · subst hjk
    simpa using is_wrap_same pb 0 (a j) w h1
  · obtain ⟨c, t, hr⟩ := h.row k hk
    obtain ⟨c', t', hr'⟩ := h.row j hj
    simpa [hjk] using is_wrap_other pb 0 (a j) (a k) c c' t t' w h1 (h.ne k j hk hj (fun e => hjk e.symm)) hr hr'

/-- The list of all reasons, as the call lays it down. -/
abbrev twelve (a : Nat → Addr) : Array Value := #[.iface 452 (.pointer (some (a 0))), .iface 452 (.pointer (some (a 1))), .iface 452 (.pointer (some (a 2))), .iface 452 (.pointer (some (a 3))), .iface 452 (.pointer (some (a 4))), .iface 452 (.pointer (some (a 5))), .iface 452 (.pointer (some (a 6))), .iface 452 (.pointer (some (a 7))), .iface 452 (.pointer (some (a 8))), .iface 452 (.pointer (some (a 9))), .iface 452 (.pointer (some (a 10))), .iface 452 (.pointer (some (a 11)))]

theorem twelve_at (a : Nat → Addr) (w : World) (t : TypeId) (j : Nat) (hj : j < 12) : (w.alloc (.cells (twelve a) t)).cell? ⟨w.heap.size, j, none⟩ = some (.iface 452 (.pointer (some (a j)))) := by
  rw [World.cell?_alloc_at _ _ _ _ rfl]
  match j, hj with
  | 0, _ => rfl
  | 1, _ => rfl
  | 2, _ => rfl
  | 3, _ => rfl
  | 4, _ => rfl
  | 5, _ => rfl
  | 6, _ => rfl
  | 7, _ => rfl
  | 8, _ => rfl
  | 9, _ => rfl
  | 10, _ => rfl
  | 11, _ => rfl
end Go.Proofs.YtdidjdoifpfmmaaGreatDoor
namespace Go.Proofs.YtdidjdoifpfmmaaGreatDoor
open Go.RowKit
set_option maxRecDepth 100000 in
set_option maxHeartbeats 1600000 in
theorem devRead_arg {w : World} {d : DP} {S : Dk} (h : DevAt w d S) (ok : S.Ok) (n : Int) (hk : ¬ (0 ≤ n ∧ n < S.safe.length)) (ea : Addr) (hg : w.cell? ⟨0, 0, none⟩ = some (.iface 452 (.pointer (some ea)))) (hp : d.p ≠ 0) :
    Calls Tryz.prog 84 #[.pointer (some ⟨d.p, 0, none⟩), .int .i64 n] w fun e w' =>
      e = .returned (.tuple #[.string ByteArray.empty, .iface 452 (.pointer (some ea))]) ∧ DevAt w' d S ∧ Fr w w' [d.p] := by
  have z0 : w.cell? ⟨d.p, 0, none⟩ = some (.int .i32 0) := h.row.cell 0
  have z1 := h.row.frozen 0
  have h1 := h.row.set 0 (.int .i32 1)
  have hh := devHas_any (d := d) (S := S) (lk := 1) h1 ok n
  rw [decide_eq_false hk] at hh
  have cg : (w.setCell ⟨d.p, 0, none⟩ (.int .i32 1)).cell? ⟨0, 0, none⟩ = some (.iface 452 (.pointer (some ea))) := by rw [World.cell?_setCell_other _ _ _ _ (by simp [])]; exact hg
  have HF : Hid (Fr w ((w.setCell ⟨d.p, 0, none⟩ (.int .i32 1)).drew.setCell ⟨d.p, 0, none⟩ (.int .i32 0)) [d.p]) := (((Fr.refl _ _).setCell _ _ (.inl (by simp))).drew).setCell _ _ (.inl (by simp))
  have HD : Hid (DevAt ((w.setCell ⟨d.p, 0, none⟩ (.int .i32 1)).drew.setCell ⟨d.p, 0, none⟩ (.int .i32 0)) d S) := h.turn rfl rfl (h1.drew.set 0 (.int .i32 0)) HF.out
  have H1 : Hid _ := h1.drew
  clear h1 h
  go_enter_defers Tryz.func84, Tryz.ntmps84
  go_wp2_with (first
    | (go_at_call 57; refine (lock_free ⟨d.p, 0, none⟩ _ z0 z1).mono ?_; rintro e w' ⟨rfl, rfl⟩)
    | (go_at_call 142; refine hh.mono ?_; rintro e w' ⟨rfl, rfl⟩))
  go_region
  go_wp2
  refine leaves_cons (f := 58) (args := #[.pointer (some ⟨d.p, 0, none⟩)]) (by simp) (by simp [go_sem]) ?_
  refine (unlock_deferred ⟨d.p, 0, none⟩ .returning _ (H1.out.cell 0) (H1.out.frozen 0)).mono ?_
  rintro e u' w'' ⟨rfl, rfl, rfl⟩
  exact ⟨_, results_tmp2 rfl _ _ _, rfl, HD.out, HF.out⟩
end Go.Proofs.YtdidjdoifpfmmaaGreatDoor
namespace Go.Proofs.YtdidjdoifpfmmaaGreatDoor
open Go.RowKit
theorem Wrote.from {w w1 w' : World} {d : DP} {S : Dk} {lk : Int} {k : Nat} {x : ByteArray} (f : Fr w w1 [d.p]) (h : Wrote w1 w' d S lk k x) : Wrote w w' d S lk k x := by
  obtain ⟨wv', h1, h2, h3, h4, h5⟩ := h
  refine ⟨wv', h1, h2, h3, fun g hg => (h4 g hg).imp id (fun h => Nat.le_trans f.size h), ?_⟩
  exact (f.wider (by simp)).trans h5 (fun _ h _ => h)
/-- The disk's rows behind boxes that were made. -/
theorem DevAt.below {w : World} {d : DP} {S : Dk} (h : DevAt w d S) {w' : World} (hB : Below w.heap.size w w') : DevAt w' d S :=
  ⟨h.row.below hB h.row.lt, h.safe.below hB h.safe.lt, owns_fr h.wait (Fr.of_below hB []) (by simp), map_fr h.last (Fr.of_below hB []) (by simp), h.apart⟩
/-- A disk, locked. -/
structure Locked (w : World) (d : DP) (S : Dk) : Prop where
  row : RowIs w d.p 88 (d.cells S 1)
  safe : RowIs w d.gs 190 (secs S.safe)
  wait : w.ownsRow 0 192 65 d.wv S.wait.length (wcells S.wait)
  last : w.ownsMap (H := Unit) Tryz.prog 3 (plainElem Tryz.prog 3) d.gm S.wait.length (lastD S.wait)
  apart : d.blocks.Nodup
theorem DevAt.lock {w : World} {d : DP} {S : Dk} (h : DevAt w d S) : Locked (w.setCell ⟨d.p, 0, none⟩ (.int .i32 1)) d S := by
  obtain ⟨n1, n2, n3, n4⟩ := h.ne
  have f : Fr w (w.setCell ⟨d.p, 0, none⟩ (.int .i32 1)) [d.p] := (Fr.refl _ _).setCell _ _ (.inl (by simp))
  exact ⟨h.row.set 0 _, f.row h.safe (by simpa using n1.symm), owns_fr h.wait f (fun g hg => by simp; rintro rfl; exact (n4 _ hg).1 rfl), map_fr h.last f (by simpa using n2.symm), h.apart⟩
theorem Locked.free {w : World} {d : DP} {S : Dk} (h : Locked w d S) : DevAt (w.setCell ⟨d.p, 0, none⟩ (.int .i32 0)) d S := by
  have hd : DevAt (w.setCell ⟨d.p, 0, none⟩ (.int .i32 0)) d S := by
    have hn := h.apart
    simp only [DP.blocks, List.nodup_cons, List.mem_cons, not_or] at hn
    have f : Fr w (w.setCell ⟨d.p, 0, none⟩ (.int .i32 0)) [d.p] := (Fr.refl _ _).setCell _ _ (.inl (by simp))
    refine ⟨h.row.set 0 _, f.row h.safe (by simpa using fun e => hn.1.1 e.symm), owns_fr h.wait f (fun g hg => ?_), map_fr h.last f (by simpa using fun e => hn.1.2.1 e.symm), h.apart⟩
    rw [hg] at hn
    simp
    rintro rfl
    simp at hn
  exact hd
theorem Wrote.locked {w w' : World} {d : DP} {S : Dk} {k : Nat} {x : ByteArray} (h : Locked w d S) (hw : Wrote w w' d S 1 k x) : ∃ d', Locked w' d' { S with wait := S.wait ++ [(k, x)] } ∧ d'.p = d.p ∧ (∀ b ∈ d'.blocks, b ∈ d.blocks ∨ w.heap.size ≤ b) ∧ Fr w w' d.blocks := by
  obtain ⟨wv', h1, h2, h3, h4, h5⟩ := hw
  have hn := h.apart
  have hs := h.safe.lt
  have hp := h.row.lt
  have hm := h.last.lt
  simp only [DP.blocks, List.nodup_cons, List.mem_cons, not_or] at hn
  have hsub : ∀ b ∈ DP.blocks { d with wv := wv' }, b ∈ d.blocks ∨ w.heap.size ≤ b := by
    intro b hb
    simp only [DP.blocks, List.mem_cons, Option.mem_toList] at hb ⊢
    rcases hb with hb | hb | hb | hb
    · exact .inl (.inl hb)
    · exact .inl (.inr (.inl hb))
    · exact .inl (.inr (.inr (.inl hb)))
    · rcases h4 b hb with hq | hq
      · exact .inl (.inr (.inr (.inr hq)))
      · exact .inr hq
  refine ⟨{ d with wv := wv' }, ⟨h1, ?_, ?_, ?_, ?_⟩, rfl, hsub, h5.wider (by intro y hy; simp only [DP.blocks, List.mem_cons] at hy ⊢; rcases hy with hy | hy | hy; exact .inl hy; exact .inr (.inr (.inl hy)); exact .inr (.inr (.inr hy)))⟩
  · refine h5.row h.safe ?_
    simp only [List.mem_cons, not_or]
    exact ⟨fun e => hn.1.1 e.symm, hn.2.1.1, hn.2.1.2⟩
  · simpa using h2
  · simpa using h3
  · show (d.p :: d.gs :: d.gm :: wv'.ownBlock.toList).Nodup
    cases hq : wv'.ownBlock with
    | none =>
      simp only [Option.toList_none, List.nodup_cons, List.mem_cons, List.not_mem_nil, or_false, not_or, not_false_eq_true, List.nodup_nil, and_true]
      exact ⟨⟨hn.1.1, hn.1.2.1⟩, hn.2.1.1⟩
    | some g =>
      have hg : d.p ≠ g ∧ d.gs ≠ g ∧ d.gm ≠ g := by
        rcases h4 g hq with hx | hx
        · rw [hx] at hn
          simp at hn
          omega
        · omega
      simp only [Option.toList_some, List.nodup_cons, List.mem_cons, List.not_mem_nil, or_false, not_or, not_false_eq_true, List.nodup_nil, and_true]
      exact ⟨⟨hn.1.1, hn.1.2.1, hg.1⟩, ⟨hn.2.1.1, hg.2.1⟩, hg.2.2⟩
/-- The slice of the writes that wait, as a value. -/
theorem Locked.slice {w : World} {d : DP} {S : Dk} (h : Locked w d S) : ∃ aw cw, d.wv = .slice aw S.wait.length cw := by
  rcases h.wait.2 with ⟨e, e0⟩ | ⟨g', cap', cur, e, _⟩
  · exact ⟨none, 0, by rw [e, e0]⟩
  · exact ⟨_, _, e⟩
theorem Locked.tick {w w' : World} {d : DP} {S : Dk} (h : Locked w d S) (hr : RowIs w' d.p 88 (d.cells S.tick 1)) (f : Fr w w' [d.p]) : Locked w' d S.tick := by
  have hn := h.apart
  simp only [DP.blocks, List.nodup_cons, List.mem_cons, not_or] at hn
  refine ⟨hr, ?_, ?_, ?_, h.apart⟩
  · rw [S.tick_safe]; exact f.row h.safe (by simpa using fun e => hn.1.1 e.symm)
  · rw [S.tick_wait]
    refine owns_fr h.wait f (fun g hg => ?_)
    rw [hg] at hn
    simp
    rintro rfl
    simp at hn
  · rw [S.tick_wait]; exact map_fr h.last f (by simpa using fun e => hn.1.2.1 e.symm)
set_option maxRecDepth 100000 in
set_option maxHeartbeats 1600000 in
theorem devWrite_ok {w : World} {d : DP} {S : Dk} (h : DevAt w d S) (ok : S.Ok) (k : Nat) (hk : k < S.safe.length) (x : ByteArray) (hx : x.size = 64) (hu : S.tick.down = false) (hf : S.fuse ≤ 9223372036854775807) (hfew : S.wait.length + 1 ≤ 1000000) :
    Calls Tryz.prog 81 #[.pointer (some ⟨d.p, 0, none⟩), .int .i64 (k : Nat), .string x] w fun e w' =>
      e = .returned .nilIface ∧ (∃ d', DevAt w' d' { S.tick with wait := S.wait ++ [(k, x)] } ∧ d'.p = d.p ∧ (∀ b ∈ d'.blocks, b ∈ d.blocks ∨ w.heap.size ≤ b)) ∧ Fr w w' d.blocks := by
  have hB : Below w.heap.size w (((w.alloc (.cells #[.pointer (some ⟨d.p, 0, none⟩)] 30)).alloc (.cells #[.int .i64 (k : Nat)] 3)).alloc (.cells #[.string x] 9)) := (((Below.refl _ _).alloc (Nat.le_refl _) _).alloc (by simp) _).alloc (by simp; omega) _
  have r3 : RowIs (((w.alloc (.cells #[.pointer (some ⟨d.p, 0, none⟩)] 30)).alloc (.cells #[.int .i64 (k : Nat)] 3)).alloc (.cells #[.string x] 9)) w.heap.size 30 [.pointer (some ⟨d.p, 0, none⟩)] := ⟨by rw [heap_alloc_old _ _ (by simp; omega), heap_alloc_old _ _ (by simp)]; exact (RowIs.new w 30 [.pointer (some ⟨d.p, 0, none⟩)]).heap⟩
  have r1 : RowIs (((w.alloc (.cells #[.pointer (some ⟨d.p, 0, none⟩)] 30)).alloc (.cells #[.int .i64 (k : Nat)] 3)).alloc (.cells #[.string x] 9)) (w.heap.size + 1) 3 [.int .i64 (k : Nat)] := ⟨by
    rw [heap_alloc_old _ _ (by simp)]
    have := (RowIs.new (w.alloc (.cells #[.pointer (some ⟨d.p, 0, none⟩)] 30)) 3 [.int .i64 (k : Nat)]).heap
    simpa using this⟩
  have r2 : RowIs (((w.alloc (.cells #[.pointer (some ⟨d.p, 0, none⟩)] 30)).alloc (.cells #[.int .i64 (k : Nat)] 3)).alloc (.cells #[.string x] 9)) (w.heap.size + 1 + 1) 9 [.string x] := ⟨by
    have := (RowIs.new ((w.alloc (.cells #[.pointer (some ⟨d.p, 0, none⟩)] 30)).alloc (.cells #[.int .i64 (k : Nat)] 3)) 9 [.string x]).heap
    simpa using this⟩
  have h1 := h.below hB
  generalize hW : (((w.alloc (.cells #[.pointer (some ⟨d.p, 0, none⟩)] 30)).alloc (.cells #[.int .i64 (k : Nat)] 3)).alloc (.cells #[.string x] 9)) = W at *
  have lp := h.row.lt
  have lm := h.last.lt
  have z0 : W.cell? ⟨d.p, 0, none⟩ = some (.int .i32 0) := h1.row.cell 0
  have z1 := h1.row.frozen 0
  have c3 : W.cell? ⟨w.heap.size, 0, none⟩ = some (.pointer (some ⟨d.p, 0, none⟩)) := r3.cell 0
  have hL := h1.lock
  have s3 : RowIs (W.setCell ⟨d.p, 0, none⟩ (.int .i32 1)) w.heap.size 30 [.pointer (some ⟨d.p, 0, none⟩)] := r3.other _ (by simp; omega)
  have s1 : RowIs (W.setCell ⟨d.p, 0, none⟩ (.int .i32 1)) (w.heap.size + 1) 3 [.int .i64 (k : Nat)] := r1.other _ (by simp; omega)
  have s2 : RowIs (W.setCell ⟨d.p, 0, none⟩ (.int .i32 1)) (w.heap.size + 1 + 1) 9 [.string x] := r2.other _ (by simp; omega)
  have hfL : Fr w (W.setCell ⟨d.p, 0, none⟩ (.int .i32 1)) d.blocks := (Fr.of_below hB _).setCell _ _ (.inl (by simp [DP.blocks]))
  generalize hWL : W.setCell ⟨d.p, 0, none⟩ (.int .i32 1) = L at *
  have l3 : L.cell? ⟨w.heap.size, 0, none⟩ = some (.pointer (some ⟨d.p, 0, none⟩)) := s3.cell 0
  have l1 : L.cell? ⟨w.heap.size + 1, 0, none⟩ = some (.int .i64 (k : Nat)) := s1.cell 0
  have l2 : L.cell? ⟨w.heap.size + 1 + 1, 0, none⟩ = some (.string x) := s2.cell 0
  have hh := devHas_any (d := d) (S := S) (lk := 1) hL.row ok k
  rw [decide_eq_true (by omega)] at hh
  have hmost := ok.most
  have hop := devOperate_write hL.row hu hf #[.pointer (some ⟨w.heap.size + 1, 0, none⟩), .pointer (some ⟨w.heap.size + 1 + 1, 0, none⟩), .pointer (some ⟨w.heap.size, 0, none⟩)] (fun w' => ∃ d', Locked w' d' { S.tick with wait := S.wait ++ [(k, x)] } ∧ d'.p = d.p ∧ (∀ b ∈ d'.blocks, b ∈ d.blocks ∨ w.heap.size ≤ b) ∧ Fr w w' d.blocks) (by
    intro w1 hr f1
    have hT := hL.tick hr f1
    obtain ⟨aw, cw, hwv⟩ := hT.slice
    have hn := hT.apart
    have hwt := hT.wait
    rw [hwv] at hwt
    have ho : ∀ g, (Value.slice aw S.tick.wait.length cw).ownBlock = some g → d.p ≠ g ∧ d.gm ≠ g ∧ g < w.heap.size := by
      intro g hg
      have hq : d.wv.ownBlock = some g := by rw [hwv]; exact hg
      have := own_lt h.wait g hq
      have := h.ne.2.2.2 g hq
      omega
    have np := h.ne.2.1
    refine (devWrite1_any hr hT.last aw cw hwv hwt (fun e => (ho _ e).2.1 rfl) (fun e => (ho _ e).1 rfl) k (by omega) (by rw [S.tick_wait]; omega) x hx (w.heap.size + 1) (w.heap.size + 1 + 1) w.heap.size (by omega) (by omega) np (by omega) (fun e => Nat.lt_irrefl _ (ho _ e).2.2) (f1.row s1 (by simp; omega)) (f1.row s2 (by simp; omega)) (f1.row s3 (by simp; omega))).mono ?_
    rintro e w' ⟨rfl, hw'⟩
    refine ⟨rfl, ?_⟩
    obtain ⟨d', a1, a2, a3, a4⟩ := Wrote.locked hT hw'
    have hs1 : w.heap.size ≤ w1.heap.size := Nat.le_trans hfL.size f1.size
    refine ⟨d', by rw [S.tick_wait] at a1; exact a1, a2, fun b hb => (a3 b hb).imp id (fun h => by omega), (hfL.trans f1 (by simp [DP.blocks])).trans a4 (fun y hy _ => hy)⟩)
  have HO : Hid _ := hop
  clear h1 r1 r2 r3 s1 s2 s3 hL h hop hfL hB
  go_enter_defers Tryz.func81, Tryz.ntmps81
  go_wp2_with (first
    | (go_at_call 57; refine (lock_free ⟨d.p, 0, none⟩ _ z0 z1).mono ?_; rintro e w' ⟨rfl, rfl⟩)
    | (go_at_call 142; refine hh.mono ?_; rintro e w' ⟨rfl, rfl⟩))
  refine Calls.mono HO.out ?_
  rintro e w' ⟨rfl, d', hl, hp', hsub, hfr⟩
  have q0 : w'.cell? ⟨d.p, 0, none⟩ = some (.int .i32 1) := by rw [← hp']; exact hl.row.cell 0
  have q1 : w'.frozen? ⟨d.p, 0, none⟩ = false := by rw [← hp']; exact hl.row.frozen 0
  have HD : Hid (DevAt (w'.setCell ⟨d.p, 0, none⟩ (.int .i32 0)) d' { S.tick with wait := S.wait ++ [(k, x)] }) := by rw [← hp']; exact hl.free
  have HF : Hid (Fr w (w'.setCell ⟨d.p, 0, none⟩ (.int .i32 0)) d.blocks) := hfr.setCell _ _ (.inl (by simp [DP.blocks]))
  clear hl hfr
  go_wp2
  refine leaves_cons (f := 58) (args := #[.pointer (some ⟨d.p, 0, none⟩)]) (by simp) (by simp [go_sem]) ?_
  refine (unlock_deferred ⟨d.p, 0, none⟩ .returning _ q0 q1).mono ?_
  rintro e u' w'' ⟨rfl, rfl, rfl⟩
  exact ⟨_, results_tmp rfl _ _ _, rfl, ⟨d', HD.out, hp', hsub⟩, HF.out⟩
set_option maxRecDepth 100000 in
set_option maxHeartbeats 1600000 in
theorem devWrite_down {w : World} {d : DP} {S : Dk} (h : DevAt w d S) (ok : S.Ok) (k : Nat) (hk : k < S.safe.length) (x : ByteArray) (hx : x.size = 64) (hu : S.tick.down = true) (hf : S.fuse ≤ 9223372036854775807) (ea : Addr) (hg : w.cell? ⟨1, 0, none⟩ = some (.iface 452 (.pointer (some ea)))) (hp1 : d.p ≠ 1) :
    Calls Tryz.prog 81 #[.pointer (some ⟨d.p, 0, none⟩), .int .i64 (k : Nat), .string x] w fun e w' =>
      e = .returned (.iface 452 (.pointer (some ea))) ∧ DevAt w' d S.tick ∧ Fr w w' [d.p] := by
  have hB : Below w.heap.size w (((w.alloc (.cells #[.pointer (some ⟨d.p, 0, none⟩)] 30)).alloc (.cells #[.int .i64 (k : Nat)] 3)).alloc (.cells #[.string x] 9)) := (((Below.refl _ _).alloc (Nat.le_refl _) _).alloc (by simp) _).alloc (by simp; omega) _
  have r3 : RowIs (((w.alloc (.cells #[.pointer (some ⟨d.p, 0, none⟩)] 30)).alloc (.cells #[.int .i64 (k : Nat)] 3)).alloc (.cells #[.string x] 9)) w.heap.size 30 [.pointer (some ⟨d.p, 0, none⟩)] := ⟨by rw [heap_alloc_old _ _ (by simp; omega), heap_alloc_old _ _ (by simp)]; exact (RowIs.new w 30 [.pointer (some ⟨d.p, 0, none⟩)]).heap⟩
  have r1 : RowIs (((w.alloc (.cells #[.pointer (some ⟨d.p, 0, none⟩)] 30)).alloc (.cells #[.int .i64 (k : Nat)] 3)).alloc (.cells #[.string x] 9)) (w.heap.size + 1) 3 [.int .i64 (k : Nat)] := ⟨by
    rw [heap_alloc_old _ _ (by simp)]
    have := (RowIs.new (w.alloc (.cells #[.pointer (some ⟨d.p, 0, none⟩)] 30)) 3 [.int .i64 (k : Nat)]).heap
    simpa using this⟩
  have r2 : RowIs (((w.alloc (.cells #[.pointer (some ⟨d.p, 0, none⟩)] 30)).alloc (.cells #[.int .i64 (k : Nat)] 3)).alloc (.cells #[.string x] 9)) (w.heap.size + 1 + 1) 9 [.string x] := ⟨by
    have := (RowIs.new ((w.alloc (.cells #[.pointer (some ⟨d.p, 0, none⟩)] 30)).alloc (.cells #[.int .i64 (k : Nat)] 3)) 9 [.string x]).heap
    simpa using this⟩
  have h1 := h.below hB
  generalize hW : (((w.alloc (.cells #[.pointer (some ⟨d.p, 0, none⟩)] 30)).alloc (.cells #[.int .i64 (k : Nat)] 3)).alloc (.cells #[.string x] 9)) = W at *
  have lp := h.row.lt
  have lm := h.last.lt
  have z0 : W.cell? ⟨d.p, 0, none⟩ = some (.int .i32 0) := h1.row.cell 0
  have z1 := h1.row.frozen 0
  have c3 : W.cell? ⟨w.heap.size, 0, none⟩ = some (.pointer (some ⟨d.p, 0, none⟩)) := r3.cell 0
  have hL := h1.lock
  have s3 : RowIs (W.setCell ⟨d.p, 0, none⟩ (.int .i32 1)) w.heap.size 30 [.pointer (some ⟨d.p, 0, none⟩)] := r3.other _ (by simp; omega)
  have s1 : RowIs (W.setCell ⟨d.p, 0, none⟩ (.int .i32 1)) (w.heap.size + 1) 3 [.int .i64 (k : Nat)] := r1.other _ (by simp; omega)
  have s2 : RowIs (W.setCell ⟨d.p, 0, none⟩ (.int .i32 1)) (w.heap.size + 1 + 1) 9 [.string x] := r2.other _ (by simp; omega)
  have hfL : Fr w (W.setCell ⟨d.p, 0, none⟩ (.int .i32 1)) [d.p] := (Fr.of_below hB _).setCell _ _ (.inl (by simp))
  generalize hWL : W.setCell ⟨d.p, 0, none⟩ (.int .i32 1) = L at *
  have l3 : L.cell? ⟨w.heap.size, 0, none⟩ = some (.pointer (some ⟨d.p, 0, none⟩)) := s3.cell 0
  have l1 : L.cell? ⟨w.heap.size + 1, 0, none⟩ = some (.int .i64 (k : Nat)) := s1.cell 0
  have l2 : L.cell? ⟨w.heap.size + 1 + 1, 0, none⟩ = some (.string x) := s2.cell 0
  have hh := devHas_any (d := d) (S := S) (lk := 1) hL.row ok k
  rw [decide_eq_true (by omega)] at hh
  have hmost := ok.most
  have gL : L.cell? ⟨1, 0, none⟩ = some (.iface 452 (.pointer (some ea))) := by
    rw [← hWL, World.cell?_setCell_other _ _ _ _ (by simp []), World.cell?_of_block (hB.block 1 (World.block_lt_of_cell? w _ hg))]
    exact hg
  have hop := devOperate_down hL.row hu hf (.func (.func 144) #[] #[.pointer (some ⟨w.heap.size + 1, 0, none⟩), .pointer (some ⟨w.heap.size + 1 + 1, 0, none⟩), .pointer (some ⟨w.heap.size, 0, none⟩)]) ea gL hp1
  have HK : Hid (∀ w', RowIs w' d.p 88 (d.cells S.tick 1) → Fr L w' [d.p] → DevAt (w'.setCell ⟨d.p, 0, none⟩ (.int .i32 0)) d S.tick ∧ Fr w (w'.setCell ⟨d.p, 0, none⟩ (.int .i32 0)) [d.p]) := by
    intro w' hr f
    exact ⟨(hL.tick hr f).free, (hfL.trans f (by simp)).setCell _ _ (.inl (by simp))⟩
  have HO : Hid _ := hop
  clear h1 r1 r2 r3 s1 s2 s3 hL h hop hfL hB
  go_enter_defers Tryz.func81, Tryz.ntmps81
  go_wp2_with (first
    | (go_at_call 57; refine (lock_free ⟨d.p, 0, none⟩ _ z0 z1).mono ?_; rintro e w' ⟨rfl, rfl⟩)
    | (go_at_call 142; refine hh.mono ?_; rintro e w' ⟨rfl, rfl⟩))
  refine Calls.mono HO.out ?_
  rintro e w' ⟨rfl, hr, f⟩
  have q0 : w'.cell? ⟨d.p, 0, none⟩ = some (.int .i32 1) := hr.cell 0
  have q1 := hr.frozen 0
  have HD := HK.out w' hr f
  have HE : Hid _ := HD
  clear hr f HD
  go_wp2
  refine leaves_cons (f := 58) (args := #[.pointer (some ⟨d.p, 0, none⟩)]) (by simp) (by simp [go_sem]) ?_
  refine (unlock_deferred ⟨d.p, 0, none⟩ .returning _ q0 q1).mono ?_
  rintro e u' w'' ⟨rfl, rfl, rfl⟩
  exact ⟨_, results_tmp rfl _ _ _, rfl, HE.out⟩
set_option maxRecDepth 100000 in
set_option maxHeartbeats 1600000 in
theorem devWrite_arg {w : World} {d : DP} {S : Dk} (h : DevAt w d S) (ok : S.Ok) (n : Int) (x : ByteArray) (hbad : ¬ (0 ≤ n ∧ n < S.safe.length) ∨ x.size ≠ 64) (_hxz : x.size ≤ 140737488351232) (ea : Addr) (hg : w.cell? ⟨0, 0, none⟩ = some (.iface 452 (.pointer (some ea)))) (hp1 : d.p ≠ 0) :
    Calls Tryz.prog 81 #[.pointer (some ⟨d.p, 0, none⟩), .int .i64 n, .string x] w fun e w' =>
      e = .returned (.iface 452 (.pointer (some ea))) ∧ DevAt w' d S ∧ Fr w w' [d.p] := by
  have hB : Below w.heap.size w (((w.alloc (.cells #[.pointer (some ⟨d.p, 0, none⟩)] 30)).alloc (.cells #[.int .i64 n] 3)).alloc (.cells #[.string x] 9)) := (((Below.refl _ _).alloc (Nat.le_refl _) _).alloc (by simp) _).alloc (by simp; omega) _
  have r3 : RowIs (((w.alloc (.cells #[.pointer (some ⟨d.p, 0, none⟩)] 30)).alloc (.cells #[.int .i64 n] 3)).alloc (.cells #[.string x] 9)) w.heap.size 30 [.pointer (some ⟨d.p, 0, none⟩)] := ⟨by rw [heap_alloc_old _ _ (by simp; omega), heap_alloc_old _ _ (by simp)]; exact (RowIs.new w 30 [.pointer (some ⟨d.p, 0, none⟩)]).heap⟩
  have r1 : RowIs (((w.alloc (.cells #[.pointer (some ⟨d.p, 0, none⟩)] 30)).alloc (.cells #[.int .i64 n] 3)).alloc (.cells #[.string x] 9)) (w.heap.size + 1) 3 [.int .i64 n] := ⟨by
    rw [heap_alloc_old _ _ (by simp)]
    have := (RowIs.new (w.alloc (.cells #[.pointer (some ⟨d.p, 0, none⟩)] 30)) 3 [.int .i64 n]).heap
    simpa using this⟩
  have r2 : RowIs (((w.alloc (.cells #[.pointer (some ⟨d.p, 0, none⟩)] 30)).alloc (.cells #[.int .i64 n] 3)).alloc (.cells #[.string x] 9)) (w.heap.size + 1 + 1) 9 [.string x] := ⟨by
    have := (RowIs.new ((w.alloc (.cells #[.pointer (some ⟨d.p, 0, none⟩)] 30)).alloc (.cells #[.int .i64 n] 3)) 9 [.string x]).heap
    simpa using this⟩
  have h1 := h.below hB
  generalize hW : (((w.alloc (.cells #[.pointer (some ⟨d.p, 0, none⟩)] 30)).alloc (.cells #[.int .i64 n] 3)).alloc (.cells #[.string x] 9)) = W at *
  have lp := h.row.lt
  have lm := h.last.lt
  have z0 : W.cell? ⟨d.p, 0, none⟩ = some (.int .i32 0) := h1.row.cell 0
  have z1 := h1.row.frozen 0
  have c3 : W.cell? ⟨w.heap.size, 0, none⟩ = some (.pointer (some ⟨d.p, 0, none⟩)) := r3.cell 0
  have hL := h1.lock
  have s3 : RowIs (W.setCell ⟨d.p, 0, none⟩ (.int .i32 1)) w.heap.size 30 [.pointer (some ⟨d.p, 0, none⟩)] := r3.other _ (by simp; omega)
  have s1 : RowIs (W.setCell ⟨d.p, 0, none⟩ (.int .i32 1)) (w.heap.size + 1) 3 [.int .i64 n] := r1.other _ (by simp; omega)
  have s2 : RowIs (W.setCell ⟨d.p, 0, none⟩ (.int .i32 1)) (w.heap.size + 1 + 1) 9 [.string x] := r2.other _ (by simp; omega)
  have hfL : Fr w (W.setCell ⟨d.p, 0, none⟩ (.int .i32 1)) [d.p] := (Fr.of_below hB _).setCell _ _ (.inl (by simp))
  generalize hWL : W.setCell ⟨d.p, 0, none⟩ (.int .i32 1) = L at *
  have l3 : L.cell? ⟨w.heap.size, 0, none⟩ = some (.pointer (some ⟨d.p, 0, none⟩)) := s3.cell 0
  have l1 : L.cell? ⟨w.heap.size + 1, 0, none⟩ = some (.int .i64 n) := s1.cell 0
  have l2 : L.cell? ⟨w.heap.size + 1 + 1, 0, none⟩ = some (.string x) := s2.cell 0
  have gL : L.cell? ⟨0, 0, none⟩ = some (.iface 452 (.pointer (some ea))) := by
    rw [← hWL, World.cell?_setCell_other _ _ _ _ (by simp []), World.cell?_of_block (hB.block 0 (World.block_lt_of_cell? w _ hg))]
    exact hg
  have q0 : L.cell? ⟨d.p, 0, none⟩ = some (.int .i32 1) := hL.row.cell 0
  have q1 := hL.row.frozen 0
  have HD : Hid (DevAt (L.setCell ⟨d.p, 0, none⟩ (.int .i32 0)) d S) := hL.free
  have HF : Hid (Fr w (L.setCell ⟨d.p, 0, none⟩ (.int .i32 0)) [d.p]) := hfL.setCell _ _ (.inl (by simp))
  have hh := devHas_any (d := d) (S := S) (lk := 1) hL.row ok n
  clear h1 r1 r2 r3 s1 s2 s3 hL h hfL hB
  by_cases hin : 0 ≤ n ∧ n < S.safe.length
  · rw [decide_eq_true hin] at hh
    have h64 : ((x.size : Int) != 64) = true := by
      rcases hbad with hb | hb
      · exact absurd hin hb
      · simp; omega
    go_enter_defers Tryz.func81, Tryz.ntmps81
    go_wp2_with (first
      | (go_at_call 57; refine (lock_free ⟨d.p, 0, none⟩ _ z0 z1).mono ?_; rintro e w' ⟨rfl, rfl⟩)
      | (go_at_call 142; refine hh.mono ?_; rintro e w' ⟨rfl, rfl⟩))
    refine leaves_cons (f := 58) (args := #[.pointer (some ⟨d.p, 0, none⟩)]) (by simp) (by simp [go_sem]) ?_
    refine (unlock_deferred ⟨d.p, 0, none⟩ .returning _ q0 q1).mono ?_
    rintro e u' w'' ⟨rfl, rfl, rfl⟩
    exact ⟨_, results_tmp rfl _ _ _, rfl, HD.out, HF.out⟩
  · rw [decide_eq_false hin] at hh
    go_enter_defers Tryz.func81, Tryz.ntmps81
    go_wp2_with (first
      | (go_at_call 57; refine (lock_free ⟨d.p, 0, none⟩ _ z0 z1).mono ?_; rintro e w' ⟨rfl, rfl⟩)
      | (go_at_call 142; refine hh.mono ?_; rintro e w' ⟨rfl, rfl⟩))
    refine leaves_cons (f := 58) (args := #[.pointer (some ⟨d.p, 0, none⟩)]) (by simp) (by simp [go_sem]) ?_
    refine (unlock_deferred ⟨d.p, 0, none⟩ .returning _ q0 q1).mono ?_
    rintro e u' w'' ⟨rfl, rfl, rfl⟩
    exact ⟨_, results_tmp rfl _ _ _, rfl, HD.out, HF.out⟩
end Go.Proofs.YtdidjdoifpfmmaaGreatDoor
/- A sector is stored among the safe ones. -/
namespace Go.Proofs.YtdidjdoifpfmmaaGreatDoor
open Go.RowKit
def setMany : List Value → Nat → List Value → List Value
  | l, _, [] => l
  | l, o, v :: r => setMany (l.set o v) (o + 1) r
theorem setMany_get (vs : List Value) : ∀ (l : List Value) (o i : Nat), o + vs.length ≤ l.length → (setMany l o vs)[i]? = if o ≤ i ∧ i < o + vs.length then vs[i - o]? else l[i]? := by
  induction vs with
  | nil => intro l o i _; simp only [setMany, List.length_nil, Nat.add_zero]; rw [if_neg (by omega)]
  | cons v r ih =>
    intro l o i h
    rw [List.length_cons] at h
    rw [setMany, ih _ _ _ (by rw [List.length_set]; omega), List.length_cons]
    by_cases h1 : o = i
    · subst h1
      rw [if_neg (by omega), if_pos (by omega), List.getElem?_set_self (by omega)]
      simp
    · rw [List.getElem?_set_ne h1]
      by_cases h2 : o + 1 ≤ i ∧ i < o + 1 + r.length
      · rw [if_pos h2, if_pos (by omega), show i - o = (i - (o + 1)) + 1 by omega]
        simp
      · rw [if_neg h2, if_neg (by omega)]
theorem row_many (vs : List Value) : ∀ {w : World} {g : Nat} {t : TypeId} {l : List Value} (o : Nat), RowIs w g t l → RowIs (w.setCells g o vs) g t (setMany l o vs) := by
  induction vs with
  | nil => intro w g t l o h; exact h
  | cons v r ih => intro w g t l o h; exact ih (o + 1) (h.set o v)
theorem fr_many (vs : List Value) : ∀ {w w' : World} {bs : List Nat} (g o : Nat), Fr w w' bs → (g ∈ bs ∨ w.heap.size ≤ g) → Fr w (w'.setCells g o vs) bs := by
  induction vs with
  | nil => intro w w' bs g o h _; exact h
  | cons v r ih => intro w w' bs g o h hg; exact ih g (o + 1) (h.setCell ⟨g, o, none⟩ v hg) hg
theorem secs_store {w : World} {g : Nat} {t : TypeId} {l : List ByteArray} (h : RowIs w g t (secs l)) (hs : ∀ x ∈ l, x.size = 64) (k : Nat) (hk : k < l.length) (x : ByteArray) (hx : x.size = 64) : RowIs (w.setCells g (k * 64) (bytes (textOf x))) g t (secs (l.set k x)) := by
  have h1 := row_many (bytes (textOf x)) (k * 64) h
  have hl := secs_length l hs
  have e : setMany (secs l) (k * 64) (bytes (textOf x)) = secs (l.set k x) := by
    apply List.ext_getElem?
    intro i
    rw [setMany_get _ _ _ _ (by rw [sec_length x hx, hl]; omega), sec_length x hx]
    exact (flat_set _ 64 l (fun y hy => sec_length y (hs y hy)) k hk x (sec_length x hx) i).symm
  rw [e] at h1
  exact h1
/-- All writes are done, as they came: the sectors as they are seen. -/
theorem over_take_succ (l : List ByteArray) (ws : List (Nat × ByteArray)) (j : Nat) (hj : j < ws.length) : over l (ws.take (j + 1)) = (over l (ws.take j)).set ws[j].1 ws[j].2 := by
  rw [List.take_add_one, List.getElem?_eq_getElem hj, Option.toList_some, over_snoc]
theorem over_sizes (l : List ByteArray) (ws : List (Nat × ByteArray)) (h : ∀ x ∈ l, x.size = 64) (hw : ∀ x ∈ ws, x.2.size = 64) : ∀ x ∈ over l ws, x.size = 64 := by
  induction ws generalizing l with
  | nil => exact h
  | cons y ws ih =>
    intro x hx
    refine ih (l.set y.1 y.2) ?_ (fun z hz => hw z (List.mem_cons_of_mem _ hz)) x hx
    intro z hz
    rcases List.mem_or_eq_of_mem_set hz with hz | hz
    · exact h z hz
    · rw [hz]; exact hw y List.mem_cons_self
end Go.Proofs.YtdidjdoifpfmmaaGreatDoor
