import Derived.Test.YtdidjdoifpfmmaaGreatDoorGC1
import Derived.Test.YtdidjdoifpfmmaaGreatDoorGB1
import Derived.Maps.OwnOps
import Derived.Maps.OwnSet
import Derived.Test.YtdidjdoifpfmmaaGreatDoorRefNew
import Derived.Laws.MakeOwn
import Derived.Test.YtdidjdoifpfmmaaGreatDoorFlat
import Derived.Deep.MidRow
import Derived.Maps.Views
/- The program's disk in memory, and its small calls. -/
namespace Go.Proofs.YtdidjdoifpfmmaaGreatDoor
open Go.RowKit

/-- Where it lies: the disk, its safe sectors, the map of last writes; the slice of the writes that wait. -/
structure DP where
  (p gs gm : Nat)
  wv : Value
def secs (l : List ByteArray) : List Value := l.flatMap fun x => bytes (textOf x)
def wcells (l : List (Nat × ByteArray)) : List Value := l.flatMap fun x => .int .i64 (x.1 : Nat) :: bytes (textOf x.2)
/-- Of each sector that is waited for: the place of its last write. -/
def lastD (l : List (Nat × ByteArray)) : DataW Unit := l.zipIdx.foldl (fun D x => D.put (.int .i64 (x.1.1 : Nat)) (.lit (.int .i64 (x.2 : Nat)))) (.map [])
def DP.blocks (d : DP) : List Nat := d.p :: d.gs :: d.gm :: d.wv.ownBlock.toList
def DP.cells (d : DP) (S : Dk) (lock : Int) : List Value := [.int .i32 lock, .int .u32 0, .slice (some ⟨d.gs, 0, none⟩) S.safe.length S.safe.length, d.wv, .map (some d.gm), .int .i64 (S.fuse : Nat), .bool S.down]
structure DevAt (w : World) (d : DP) (S : Dk) : Prop where
  row : RowIs w d.p 88 (d.cells S 0)
  safe : RowIs w d.gs 190 (secs S.safe)
  wait : w.ownsRow 0 192 65 d.wv S.wait.length (wcells S.wait)
  last : w.ownsMap (H := Unit) Tryz.prog 3 (plainElem Tryz.prog 3) d.gm S.wait.length (lastD S.wait)
  apart : d.blocks.Nodup

set_option maxHeartbeats 1000000 in
theorem devSectors_any {w : World} {d : DP} {S : Dk} (h : DevAt w d S) (ok : S.Ok) :
    Calls Tryz.prog 62 #[.pointer (some ⟨d.p, 0, none⟩)] w fun e w' => e = .returned (.int .i64 (S.safe.length : Nat)) ∧ w = w' := by
  have c2 : w.cell? ⟨d.p, 2, none⟩ = some (.slice (some ⟨d.gs, 0, none⟩) S.safe.length S.safe.length) := h.row.cell 2
  have hn := ok.most
  go_enter Tryz.func62, Tryz.ntmps62
  go_wp2
  go_ret
  exact ⟨rfl, rfl⟩

theorem DevAt.ne {w : World} {d : DP} {S : Dk} (h : DevAt w d S) : d.p ≠ d.gs ∧ d.p ≠ d.gm ∧ d.gs ≠ d.gm ∧ (∀ g, d.wv.ownBlock = some g → d.p ≠ g ∧ d.gs ≠ g ∧ d.gm ≠ g) := by
  have hn := h.apart
  simp only [DP.blocks, List.nodup_cons, List.mem_cons, not_or] at hn
  refine ⟨hn.1.1, hn.1.2.1, hn.2.1.1, fun g hg => ?_⟩
  rw [hg] at hn
  simp at hn
  omega
/-- A disk of which fuse and state have changed alone. -/
theorem DevAt.turn {w : World} {d : DP} {S : Dk} (h : DevAt w d S) {w' : World} {S' : Dk} (hs : S'.safe = S.safe) (hw : S'.wait = S.wait) (hr : RowIs w' d.p 88 (d.cells S' 0)) (hf : Fr w w' [d.p]) : DevAt w' d S' := by
  obtain ⟨n1, n2, n3, n4⟩ := h.ne
  have hg : w.grownBy w' (some d.p) := ⟨hf.os, hf.tape, hf.output, hf.size, fun k hk hne => hf.block k hk (by simpa using hne)⟩
  refine ⟨hr, by rw [hs]; exact hf.row h.safe (by simpa using n1.symm), ?_, ?_, h.apart⟩
  · rw [hw]
    refine h.wait.kept hg ?_
    cases hv : d.wv.ownBlock with
    | none => exact .inl rfl
    | some g => exact .inr (fun e => (n4 g hv).1 (by simpa using e.symm))
  · rw [hw]
    exact h.last.kept hg (by simpa using n2.symm)

set_option maxRecDepth 100000 in
set_option maxHeartbeats 1600000 in
theorem devFuse_any {w : World} {d : DP} {S : Dk} (h : DevAt w d S) (n : Int) :
    Calls Tryz.prog 32 #[.pointer (some ⟨d.p, 0, none⟩), .int .i64 n] w fun e w' => e = .returned (.tuple #[]) ∧ DevAt w' d { S with fuse := n.toNat } ∧ Fr w w' [d.p] := by
  have z0 : w.cell? ⟨d.p, 0, none⟩ = some (.int .i32 0) := h.row.cell 0
  have z1 := h.row.frozen 0
  have h1 := h.row.set 0 (.int .i32 1)
  have c5 : (w.setCell ⟨d.p, 0, none⟩ (.int .i32 1)).cell? ⟨d.p, 5, none⟩ = some (.int .i64 (S.fuse : Nat)) := h1.cell 5
  have f5 := h1.frozen 5
  have h5 : ∀ v : Value, RowIs ((w.setCell ⟨d.p, 0, none⟩ (.int .i32 1)).setCell ⟨d.p, 5, none⟩ v) d.p 88 (((d.cells S 0).set 0 (.int .i32 1)).set 5 v) := fun v => h1.set 5 v
  have key : ∀ v : Int, v = (n.toNat : Nat) → DevAt (((w.setCell ⟨d.p, 0, none⟩ (.int .i32 1)).setCell ⟨d.p, 5, none⟩ (.int .i64 v)).setCell ⟨d.p, 0, none⟩ (.int .i32 0)) d { S with fuse := n.toNat } ∧ Fr w (((w.setCell ⟨d.p, 0, none⟩ (.int .i32 1)).setCell ⟨d.p, 5, none⟩ (.int .i64 v)).setCell ⟨d.p, 0, none⟩ (.int .i32 0)) [d.p] := by
    intro v hv
    have hf : Fr w (((w.setCell ⟨d.p, 0, none⟩ (.int .i32 1)).setCell ⟨d.p, 5, none⟩ (.int .i64 v)).setCell ⟨d.p, 0, none⟩ (.int .i32 0)) [d.p] := (((Fr.refl _ _).setCell _ _ (.inl (by simp))).setCell _ _ (.inl (by simp))).setCell _ _ (.inl (by simp))
    refine ⟨h.turn (S' := { S with fuse := n.toNat }) rfl rfl ?_ hf, hf⟩
    have := (h5 (.int .i64 v)).set 0 (.int .i32 0)
    rw [hv] at this ⊢
    exact this
  have HK : Hid _ := key
  have H5 : Hid _ := h5
  clear key h5 h1
  go_enter_defers Tryz.func32, Tryz.ntmps32
  go_wp2_with (go_at_call 57; refine (lock_free ⟨d.p, 0, none⟩ _ z0 z1).mono ?_; rintro e w' ⟨rfl, rfl⟩)
  all_goals refine leaves_cons (f := 58) (args := #[.pointer (some ⟨d.p, 0, none⟩)]) (by simp) (by simp [go_sem]) ?_
  all_goals refine (unlock_deferred ⟨d.p, 0, none⟩ .returning _ ((H5.out _).cell 0) ((H5.out _).frozen 0)).mono ?_
  all_goals rintro e u' w'' ⟨rfl, rfl, rfl⟩
  all_goals simp [Leaves, settle, results, Tryz.results32]
  all_goals exact HK.out _ (by omega)

set_option maxRecDepth 100000 in
set_option maxHeartbeats 1600000 in
theorem devWaiting_any {w : World} {d : DP} {S : Dk} (h : DevAt w d S) (ok : S.Ok) :
    Calls Tryz.prog 53 #[.pointer (some ⟨d.p, 0, none⟩)] w fun e w' => e = .returned (.int .i64 (S.wait.length : Nat)) ∧ DevAt w' d S ∧ Fr w w' [d.p] := by
  have z0 : w.cell? ⟨d.p, 0, none⟩ = some (.int .i32 0) := h.row.cell 0
  have z1 := h.row.frozen 0
  have h1 := h.row.set 0 (.int .i32 1)
  have hfew := ok.few
  obtain ⟨aw, cw, hwv⟩ : ∃ aw cw, d.wv = .slice aw S.wait.length cw := by
    rcases h.wait.2 with ⟨e, e0⟩ | ⟨g', cap', cur, e, _⟩
    · exact ⟨none, 0, by rw [e, e0]⟩
    · exact ⟨_, _, e⟩
  have c3 : (w.setCell ⟨d.p, 0, none⟩ (.int .i32 1)).cell? ⟨d.p, 3, none⟩ = some (.slice aw S.wait.length cw) := by rw [← hwv]; exact h1.cell 3
  have HF : Hid (Fr w ((w.setCell ⟨d.p, 0, none⟩ (.int .i32 1)).setCell ⟨d.p, 0, none⟩ (.int .i32 0)) [d.p]) := ((Fr.refl _ _).setCell _ _ (.inl (by simp))).setCell _ _ (.inl (by simp))
  have HD : Hid (DevAt ((w.setCell ⟨d.p, 0, none⟩ (.int .i32 1)).setCell ⟨d.p, 0, none⟩ (.int .i32 0)) d S) := h.turn rfl rfl (h1.set 0 (.int .i32 0)) HF.out
  have H1 : Hid _ := h1
  clear h1 h
  go_enter_defers Tryz.func53, Tryz.ntmps53
  go_wp2_with (go_at_call 57; refine (lock_free ⟨d.p, 0, none⟩ _ z0 z1).mono ?_; rintro e w' ⟨rfl, rfl⟩)
  refine leaves_cons (f := 58) (args := #[.pointer (some ⟨d.p, 0, none⟩)]) (by simp) (by simp [go_sem]) ?_
  refine (unlock_deferred ⟨d.p, 0, none⟩ .returning _ (H1.out.cell 0) (H1.out.frozen 0)).mono ?_
  rintro e u' w'' ⟨rfl, rfl, rfl⟩
  exact ⟨_, results_tmp rfl _ _ _, rfl, HD.out, HF.out⟩
end Go.Proofs.YtdidjdoifpfmmaaGreatDoor
namespace Go.Proofs.YtdidjdoifpfmmaaGreatDoor
open Go.RowKit

theorem secInfo : (Tryz.prog.info? 190).map (fun i => (i.zero, i.size, i.bytes)) = some (some (.agg (bytes (List.replicate 64 0)).toArray), 64, 64) := by kernel_rfl
theorem textOf_text (l : List Nat) (h : ∀ x ∈ l, x < 256) : textOf (text l) = l := by
  simp only [textOf, text, List.map_map]
  conv => rhs; rw [← List.map_id l]
  apply List.map_congr_left
  intro x hx
  have := h x hx
  simp
  omega
theorem textOf_zero : textOf zero64 = List.replicate 64 0 := textOf_text _ (by intro x hx; rw [List.eq_of_mem_replicate hx]; decide)
theorem secs_zero (n : Nat) : secs (List.replicate n zero64) = List.replicate (n * 64) (.int .u8 0) := by
  induction n with
  | zero => rfl
  | succ n ih =>
    rw [List.replicate_succ, show (n + 1) * 64 = 64 + n * 64 by omega, ← List.replicate_append_replicate, ← ih]
    simp only [secs, List.flatMap_cons, textOf_zero]
    congr 1
theorem madeSecs (n : Nat) : madeCells (Value.agg (bytes (List.replicate 64 0)).toArray).cells (n * 64) = (secs (List.replicate n zero64)).toArray := by
  rw [secs_zero]
  apply Array.ext
  · simp [madeCells]
  · intro i h1 h2
    have hb : bytes (List.replicate 64 0) = List.replicate 64 (.int .u8 0) := by simp [bytes]
    simp only [madeCells, Value.cells, hb, Array.getElem_map, Array.getElem_range, List.getElem_toArray, List.getElem_replicate]
    have hm : i % (List.replicate 64 (Value.int .u8 0)).toArray.size < (List.replicate 64 (Value.int .u8 0)).toArray.size := Nat.mod_lt _ (by simp)
    rw [getElem!_pos (List.replicate 64 (Value.int .u8 0)).toArray _ hm, List.getElem_toArray, List.getElem_replicate]
theorem makeSecs (w : World) (n : Nat) (hn : n ≤ 4096) : (Instr.makeSlice 77 (.int .i64 (n : Int)) (.int .i64 (n : Int))).run Tryz.prog w
    = .ok (.slice (some ⟨w.heap.size, 0, none⟩) n n) (w.alloc (.cells (secs (List.replicate n zero64)).toArray 190)) := by
  obtain ⟨i0, hi, hz0, hz1, hz2⟩ := info_parts secInfo
  have h := run_make (P := Tryz.prog) w 77 190 i0 _ Tryz.underlying77 hi hz0 .i64 .i64 n n (by omega) (by omega) (by rw [hz2]; omega) (by omega)
  rw [hz1, Int.toNat_natCast, madeSecs] at h
  exact h

/-- A new disk of the program's. -/
def NewDev (w w' : World) (n : Int) (e : Ending) : Prop := ∃ m d, m = (max 1 (min n 4096)).toNat ∧ e = .returned (.pointer (some ⟨DP.p d, 0, none⟩)) ∧ DevAt w' d ⟨List.replicate m zero64, [], 0, false⟩ ∧ (∀ b ∈ d.blocks, w.heap.size ≤ b) ∧ Below w.heap.size w w'
theorem newDev_of (w : World) (n : Int) (m : Nat) (hm : m = (max 1 (min n 4096)).toNat) :
    NewDev w (((w.alloc (.cells (secs (List.replicate m zero64)).toArray 190)).alloc (.map #[] 0)).alloc (.cells ([Value.int .i32 0, .int .u32 0, .slice (some ⟨w.heap.size, 0, none⟩) m m, .slice none 0 0, .map (some (w.heap.size + 1)), .int .i64 0, .bool false] : List Value).toArray 88)) n (.returned (.pointer (some ⟨w.heap.size + 1 + 1, 0, none⟩))) := by
  have s1 : (w.alloc (.cells (secs (List.replicate m zero64)).toArray 190)).heap.size = w.heap.size + 1 := by simp
  have s2 : ((w.alloc (.cells (secs (List.replicate m zero64)).toArray 190)).alloc (.map #[] 0)).heap.size = w.heap.size + 1 + 1 := by simp
  have r1 := ((RowIs.new w 190 (secs (List.replicate m zero64))).below ((Below.refl _ _).alloc (Nat.le_refl _) (.map #[] 0)) (by rw [s1]; omega))
  have m1 := World.ownsMap_made (H := Unit) (w.alloc (.cells (secs (List.replicate m zero64)).toArray 190)) Tryz.prog 3 (plainElem Tryz.prog 3)
  rw [s1] at m1
  have r3 := RowIs.new ((w.alloc (.cells (secs (List.replicate m zero64)).toArray 190)).alloc (.map #[] 0)) 88 [Value.int .i32 0, .int .u32 0, .slice (some ⟨w.heap.size, 0, none⟩) m m, .slice none 0 0, .map (some (w.heap.size + 1)), .int .i64 0, .bool false]
  rw [s2] at r3
  have hb : Below w.heap.size w (((w.alloc (.cells (secs (List.replicate m zero64)).toArray 190)).alloc (.map #[] 0)).alloc (.cells ([Value.int .i32 0, .int .u32 0, .slice (some ⟨w.heap.size, 0, none⟩) m m, .slice none 0 0, .map (some (w.heap.size + 1)), .int .i64 0, .bool false] : List Value).toArray 88)) := (((Below.refl _ _).alloc (Nat.le_refl _) _).alloc (by simp) _).alloc (by simp; omega) _
  refine ⟨m, ⟨w.heap.size + 1 + 1, w.heap.size, w.heap.size + 1, .slice none 0 0⟩, hm, rfl, ⟨?_, ?_, World.ownsRow_nil _ _ _ _, m1.alloc _, ?_⟩, ?_, hb⟩
  · show RowIs _ _ _ [.int .i32 0, .int .u32 0, .slice (some ⟨w.heap.size, 0, none⟩) (List.replicate m zero64).length (List.replicate m zero64).length, .slice none 0 0, .map (some (w.heap.size + 1)), .int .i64 0, .bool false]
    rw [List.length_replicate]; exact r3
  · exact r1.below ((Below.refl _ _).alloc (Nat.le_refl _) _) (by rw [s2]; omega)
  · show ((w.heap.size + 1 + 1) :: w.heap.size :: (w.heap.size + 1) :: []).Nodup
    simp
    omega
  · intro b hb2
    have hb' : b ∈ ((w.heap.size + 1 + 1) :: w.heap.size :: (w.heap.size + 1) :: []) := hb2
    simp at hb'
    omega

theorem makeSecs' (w : World) (n : Nat) (z : Int) (hz : z = n) (hn : n ≤ 4096) : (Instr.makeSlice 77 (.int .i64 z) (.int .i64 z)).run Tryz.prog w
    = .ok (.slice (some ⟨w.heap.size, 0, none⟩) n n) (w.alloc (.cells (secs (List.replicate n zero64)).toArray 190)) := by subst hz; exact makeSecs w n hn

set_option maxRecDepth 100000 in
set_option maxHeartbeats 1600000 in
theorem devNew_any (n : Int) (w : World) :
    Calls Tryz.prog 24 #[.int .i64 n] w fun e w' => NewDev w w' n e := by
  have hmm : ∀ (t : TypeId) (w : World), (Instr.makeMap t none).run Tryz.prog w = .ok (.map (some w.heap.size)) (w.alloc (.map #[] 0)) := fun t w => run_makeMap t w
  by_cases h1 : n < 1
  · have hmk := makeSecs' w 1 1 rfl (by decide)
    have hN : Hid _ := newDev_of w n 1 (by omega)
    generalize (secs (List.replicate 1 zero64)).toArray = C at hmk hN
    go_enter Tryz.func24, Tryz.ntmps24
    go_wp2
    go_ret
    exact hN.out
  · by_cases h2 : 4096 < n
    · have hmk := makeSecs' w 4096 4096 rfl (by decide)
      have hN : Hid _ := newDev_of w n 4096 (by omega)
      generalize (secs (List.replicate 4096 zero64)).toArray = C at hmk hN
      go_enter Tryz.func24, Tryz.ntmps24
      go_wp2
      go_ret
      exact hN.out
    · have hmk := makeSecs' w n.toNat n (by omega) (by omega)
      have hN : Hid _ := newDev_of w n n.toNat (by omega)
      generalize (secs (List.replicate n.toNat zero64)).toArray = C at hmk hN
      go_enter Tryz.func24, Tryz.ntmps24
      go_wp2
      go_ret
      exact hN.out
end Go.Proofs.YtdidjdoifpfmmaaGreatDoor
namespace Go.Proofs.YtdidjdoifpfmmaaGreatDoor
open Go.RowKit
set_option maxHeartbeats 1000000 in
theorem devHas_any {w : World} {d : DP} {S : Dk} {lk : Int} (h : RowIs w d.p 88 (d.cells S lk)) (ok : S.Ok) (n : Int) :
    Calls Tryz.prog 142 #[.pointer (some ⟨d.p, 0, none⟩), .int .i64 n] w fun e w' => e = .returned (.bool (decide (0 ≤ n ∧ n < S.safe.length))) ∧ w = w' := by
  have c2 : w.cell? ⟨d.p, 2, none⟩ = some (.slice (some ⟨d.gs, 0, none⟩) S.safe.length S.safe.length) := h.cell 2
  have hn := ok.most
  by_cases h0 : 0 ≤ n
  · by_cases h1 : n < S.safe.length
    · rw [decide_eq_true (by omega)]
      go_enter Tryz.func142, Tryz.ntmps142
      go_wp2
      go_ret
      simp_all
    · rw [decide_eq_false (by omega)]
      go_enter Tryz.func142, Tryz.ntmps142
      go_wp2
      go_ret
      simp_all
  · rw [decide_eq_false (by omega)]
    go_enter Tryz.func142, Tryz.ntmps142
    go_wp2
    go_ret
    simp_all
end Go.Proofs.YtdidjdoifpfmmaaGreatDoor
/- The program's disk: its rows of sectors and writes, the map of last writes, as plain mathematics. -/
namespace Go.Proofs.YtdidjdoifpfmmaaGreatDoor
open Go.RowKit

theorem sec_length (x : ByteArray) (h : x.size = 64) : (bytes (textOf x)).length = 64 := by rw [bytes_length, textOf_len, h]
theorem secs_length (l : List ByteArray) (h : ∀ x ∈ l, x.size = 64) : (secs l).length = l.length * 64 := flat_length _ 64 l fun x hx => sec_length x (h x hx)
theorem wcells_length (l : List (Nat × ByteArray)) (h : ∀ x ∈ l, x.2.size = 64) : (wcells l).length = l.length * 65 := flat_length _ 65 l fun x hx => by rw [List.length_cons, sec_length x.2 (h x hx)]
theorem secs_range {w : World} {g : Nat} {t : TypeId} {l : List ByteArray} (h : RowIs w g t (secs l)) (hs : ∀ x ∈ l, x.size = 64) (k : Nat) (hk : k < l.length) : w.rangeAt g (k * 64) (bytes (textOf l[k])) := by
  intro j v hv
  have hj : j < 64 := by
    have := (List.getElem?_eq_some_iff.1 hv).1
    rwa [sec_length _ (hs _ (List.getElem_mem hk))] at this
  rw [h.cell, secs, flat_get _ 64 l (fun x hx => sec_length x (hs x hx)) k hk j hj, hv]
theorem secs_there {w : World} {g : Nat} {t : TypeId} {l : List ByteArray} (h : RowIs w g t (secs l)) (hs : ∀ x ∈ l, x.size = 64) (k : Nat) (hk : k < l.length) : w.there g (k * 64) 64 := by
  intro j hj
  refine ⟨?_, h.frozen _⟩
  rw [h.cell, List.getElem?_eq_getElem (by rw [secs_length l hs]; omega)]
  rfl
theorem wcells_range {w : World} {g : Nat} {t : TypeId} {cap : Nat} {l : List (Nat × ByteArray)} (h : Has w g t cap 65 (wcells l)) (hs : ∀ x ∈ l, x.2.size = 64) (k : Nat) (hk : k < l.length) : w.rangeAt g (k * 65) (.int .i64 (l[k].1 : Nat) :: bytes (textOf l[k].2)) := by
  intro j v hv
  have hj : j < 65 := by
    have := (List.getElem?_eq_some_iff.1 hv).1
    rwa [List.length_cons, sec_length _ (hs _ (List.getElem_mem hk))] at this
  rw [h.cell _ (by rw [wcells_length l hs]; omega), wcells, flat_get _ 65 l (fun x hx => by rw [List.length_cons, sec_length x.2 (hs x hx)]) k hk j hj, hv]
theorem wcells_snoc (l : List (Nat × ByteArray)) (x : Nat × ByteArray) : wcells l ++ (.int .i64 (x.1 : Nat) :: bytes (textOf x.2)) = wcells (l ++ [x]) := by simp [wcells]

theorem lastD_snoc (l : List (Nat × ByteArray)) (x : Nat × ByteArray) : lastD (l ++ [x]) = (lastD l).put (.int .i64 (x.1 : Nat)) (.lit (.int .i64 (l.length : Nat))) := by
  simp [lastD, List.zipIdx_append]
theorem snoc_ind {α : Type} {p : List α → Prop} (h0 : p []) (h1 : ∀ l x, p l → p (l ++ [x])) (l : List α) : p l := by
  have : ∀ n, ∀ l : List α, l.length = n → p l := by
    intro n
    induction n with
    | zero => intro l hl; rw [List.length_eq_zero_iff.1 hl]; exact h0
    | succ n ih =>
      intro l hl
      have hne : l ≠ [] := by intro e; simp [e] at hl
      rw [← List.dropLast_concat_getLast hne]
      exact h1 _ _ (ih _ (by simp [hl]))
  exact this _ l rfl
theorem lastD_isMap (l : List (Nat × ByteArray)) : Maps.IsMap (lastD l) := by
  induction l using snoc_ind with
  | h0 => exact ⟨[], rfl⟩
  | h1 l x ih => rw [lastD_snoc]; exact ih.put _ _
/-- What the map tells of a sector: no write waits for it, or the place of the last. -/
theorem lastD_at (l : List (Nat × ByteArray)) (k : Nat) : (Maps.has (lastD l) (.int .i64 (k : Nat)) = false ∧ ∀ safe : List ByteArray, (over safe l)[k]? = safe[k]?) ∨
    ∃ i y, l[i]? = some (k, y) ∧ Maps.has (lastD l) (.int .i64 (k : Nat)) = true ∧ (∀ z, (lastD l).atKey (.int .i64 (k : Nat)) z = .lit (.int .i64 (i : Nat))) ∧ ∀ safe : List ByteArray, k < safe.length → (over safe l)[k]? = some y := by
  induction l using snoc_ind with
  | h0 => exact .inl ⟨rfl, fun _ => rfl⟩
  | h1 l x ih =>
    obtain ⟨a, y⟩ := x
    have hm := lastD_isMap l
    rw [lastD_snoc]
    by_cases e : a = k
    · subst e
      refine .inr ⟨l.length, y, by simp, Maps.has_put_same hm (by simp [WideAt.IsKeyLit]) _, fun z => Maps.atKey_put_same hm (by simp [WideAt.IsKeyLit]) _ z, fun safe hs => ?_⟩
      rw [over_snoc, List.getElem?_set_self (by rw [over_length]; exact hs)]
    · have hne : (Lit.int .i64 (k : Nat)) ≠ .int .i64 (a : Nat) := by
        intro h
        injection h with _ h
        omega
      rcases ih with ⟨h1, h2⟩ | ⟨i, y', h0, h1, h2, h3⟩
      · refine .inl ⟨by rw [Maps.has_put_other hne, h1], fun safe => ?_⟩
        rw [over_snoc, List.getElem?_set_ne e, h2]
      · refine .inr ⟨i, y', ?_, by rw [Maps.has_put_other hne, h1], fun z => by rw [Maps.atKey_put_other hne, h2], fun safe hs => ?_⟩
        · rw [List.getElem?_append_left (List.getElem?_eq_some_iff.1 h0).1, h0]
        · rw [over_snoc, List.getElem?_set_ne e, h3 safe hs]
end Go.Proofs.YtdidjdoifpfmmaaGreatDoor
