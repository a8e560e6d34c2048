import Derived.Test.YtdidjdoifpfmmaaGreatDoorGD2
import Derived.Test.YtdidjdoifpfmmaaGreatDoorGE4
import Derived.Deep.RegionWith
/- The program's Read: a sector for which a write waits; no such sector. -/
namespace Go.Proofs.YtdidjdoifpfmmaaGreatDoor
open Go.RowKit
theorem rangeAt_tail {w : World} {b o : Nat} {v : Value} {cs : List Value} (h : w.rangeAt b o (v :: cs)) : w.rangeAt b (o + 1) cs := by
  intro j u hu
  rw [show o + 1 + j = o + (j + 1) by omega]
  exact h (j + 1) u (by simpa using hu)
/-- Where writes wait, their slice has a block. -/
theorem DevAt.waits {w : World} {d : DP} {S : Dk} (h : DevAt w d S) (hne : 0 < S.wait.length) : ∃ g cap, d.wv = .slice (some ⟨g, 0, none⟩) S.wait.length cap ∧ Has w g 192 cap 65 (wcells S.wait) ∧ S.wait.length ≤ cap ∧ cap ≤ maxLen ∧ d.p ≠ g ∧ d.gs ≠ g ∧ d.gm ≠ g := by
  rcases h.wait.2 with ⟨e, e0⟩ | ⟨g, cap, cur, e, _⟩
  · omega
  · have hw := h.wait
    rw [e] at hw
    obtain ⟨h1, h2, h3⟩ := has_of_owns hw
    exact ⟨g, cap, e, h1, h2, h3, h.ne.2.2.2 g (by rw [e]; rfl)⟩
set_option maxRecDepth 100000 in
set_option maxHeartbeats 1600000 in
theorem devRead_some {w : World} {d : DP} {S : Dk} (h : DevAt w d S) (ok : S.Ok) (k : Nat) (hk : k < S.safe.length) (hyes : Maps.has (lastD S.wait) (.int .i64 (k : Nat)) = true) (i : Nat) (y : ByteArray) (hi : S.wait[i]? = some (k, y))
    (hat : ∀ z, (lastD S.wait).atKey (.int .i64 (k : Nat)) z = .lit (.int .i64 (i : Nat))) :
    Calls Tryz.prog 84 #[.pointer (some ⟨d.p, 0, none⟩), .int .i64 (k : Nat)] w fun e w' =>
      e = .returned (.tuple #[.string y, .nilIface]) ∧ DevAt w' d S ∧ Fr w w' [d.p] := by
  obtain ⟨hil, hiy⟩ := List.getElem?_eq_some_iff.1 hi
  obtain ⟨g, cap, hwv, hw, hlc, hcm, n1, n2, n3⟩ := h.waits (by omega)
  have z0 : w.cell? ⟨d.p, 0, none⟩ = some (.int .i32 0) := h.row.cell 0
  have z1 := h.row.frozen 0
  have h1 := h.row.set 0 (.int .i32 1)
  have c2 : (w.setCell ⟨d.p, 0, none⟩ (.int .i32 1)).cell? ⟨d.p, 2, none⟩ = some (.slice (some ⟨d.gs, 0, none⟩) S.safe.length S.safe.length) := h1.cell 2
  have hn := ok.most
  have hfew := ok.few
  have hh := devHas_any (d := d) (S := S) (lk := 1) h1 ok k
  rw [decide_eq_true (by omega)] at hh
  have hsec := ok.sec
  have hr1 : RowIs (w.setCell ⟨d.p, 0, none⟩ (.int .i32 1)) d.gs 190 (secs S.safe) := h.safe.other _ (by simpa using h.ne.1.symm)
  have hl64 : (bytes (textOf S.safe[k])).length = 64 := sec_length _ (hsec _ (List.getElem_mem hk))
  have hy64 : (bytes (textOf y)).length = 64 := sec_length _ (ok.wr (k, y) (List.mem_of_getElem? hi)).2
  have hrg := secs_range hr1 hsec k hk
  have hi1 : (Tryz.prog.info? 190).map (·.size) = some (bytes (textOf S.safe[k])).length := by rw [hl64]; exact secSize
  have hi3 : (Tryz.prog.info? 190).map (·.size) = some (bytes (textOf y)).length := by rw [hy64]; exact secSize
  have hw3 := RowIs.new (w.setCell ⟨d.p, 0, none⟩ (.int .i32 1)) 190 (bytes (textOf y))
  have hB : ∀ o, Below (w.setCell ⟨d.p, 0, none⟩ (.int .i32 1)).heap.size (w.setCell ⟨d.p, 0, none⟩ (.int .i32 1)) ((w.setCell ⟨d.p, 0, none⟩ (.int .i32 1)).alloc o) := fun o => (Below.refl _ _).alloc (Nat.le_refl _) _
  have h2 := h1.below (hB (.cells (bytes (textOf S.safe[k])).toArray 190)) h1.lt
  have h3 := h1.below (hB (.cells (bytes (textOf y)).toArray 190)) h1.lt
  have c4 : ((w.setCell ⟨d.p, 0, none⟩ (.int .i32 1)).alloc (.cells (bytes (textOf S.safe[k])).toArray 190)).cell? ⟨d.p, 4, none⟩ = some (.map (some d.gm)) := h2.cell 4
  have c3 : ((w.setCell ⟨d.p, 0, none⟩ (.int .i32 1)).alloc (.cells (bytes (textOf S.safe[k])).toArray 190)).cell? ⟨d.p, 3, none⟩ = some (.slice (some ⟨g, 0, none⟩) S.wait.length cap) := by rw [← hwv]; exact h2.cell 3
  have hm2 : ((w.setCell ⟨d.p, 0, none⟩ (.int .i32 1)).alloc (.cells (bytes (textOf S.safe[k])).toArray 190)).ownsMap (H := Unit) Tryz.prog 3 (plainElem Tryz.prog 3) d.gm S.wait.length (lastD S.wait) := (h.last.setCell (by simpa using h.ne.2.1.symm) _).alloc _
  obtain ⟨c, hlook, hc⟩ := last_look hm2 k (by omega)
  rw [hyes] at hlook
  rw [hat] at hc
  injection hc with hc
  injection hc with _ hc
  subst hc
  have hwr := (hw.other (a := ⟨d.p, 0, none⟩) (.int .i32 1) (by simpa using n1.symm)).keep ((hB (.cells (bytes (textOf S.safe[k])).toArray 190)).block g (by simpa using hw.lt))
  have hrw := rangeAt_tail (wcells_range hwr (fun x hx => (ok.wr x hx).2) i hil)
  rw [hiy] at hrw
  have hconv := back_any (P := Tryz.prog) 124 9 5 Tryz.underlying124 Tryz.underlying5 Tryz.underlying9 _ _ 64 190 (textOf y) [] (by rw [List.append_nil]; exact hw3) (textOf_lt _)
  rw [text_textOf, show (textOf y).length = 64 by rw [← bytes_length]; exact hy64] at hconv
  have hs0 : (w.setCell ⟨d.p, 0, none⟩ (.int .i32 1)).heap.size = w.heap.size := by simp
  rw [hs0] at hconv
  have hone := bytes_one (textOf S.safe[k])
  have hone3 := bytes_one (textOf y)
  have hsz : (bytes (textOf S.safe[k])).toArray.size = 64 := hl64
  have hsz3 : (bytes (textOf y)).toArray.size = 64 := hy64
  have hi2 : (Tryz.prog.info? 190).map (·.size) = some (bytes (textOf S.safe[k])).toArray.size := hi1
  have hi4 : (Tryz.prog.info? 190).map (·.size) = some (bytes (textOf y)).toArray.size := hi3
  have HF : Hid (Fr w (((w.setCell ⟨d.p, 0, none⟩ (.int .i32 1)).alloc (.cells (bytes (textOf y)).toArray 190)).setCell ⟨d.p, 0, none⟩ (.int .i32 0)) [d.p]) := (((Fr.refl _ _).setCell _ _ (.inl (by simp))).alloc _).setCell _ _ (.inl (by simp))
  have HD : Hid (DevAt (((w.setCell ⟨d.p, 0, none⟩ (.int .i32 1)).alloc (.cells (bytes (textOf y)).toArray 190)).setCell ⟨d.p, 0, none⟩ (.int .i32 0)) d S) := h.turn rfl rfl (h3.set 0 (.int .i32 0)) HF.out
  have H3 : Hid _ := h3
  clear hw3 hm2 h2 h3 hB hwr hiy
  generalize bytes (textOf S.safe[k]) = C at *
  generalize bytes (textOf y) = Y at *
  go_enter_defers Tryz.func84, Tryz.ntmps84
  go_wp2_with (first
    | (go_at_call 57; refine (lock_free ⟨d.p, 0, none⟩ _ z0 z1).mono ?_; rintro e w' ⟨rfl, rfl⟩)
    | (go_at_call 142; refine hh.mono ?_; rintro e w' ⟨rfl, rfl⟩)
    | (refine wpList_load_mid rfl 190 _ rfl d.gs (k * 64) rfl _ _ hrg Tryz.underlying190 rfl hi1 ?_)
    | (refine wpList_load_mid rfl 190 _ rfl g (i * 65 + 1) rfl _ _ hrw Tryz.underlying190 rfl hi3 ?_)
    | (refine wpList_store_new rfl 190 _ _ rfl w.heap.size _ _ (by simp) rfl rfl hi2 (by rw [hsz]; rfl) hone ?_)
    | (refine wpList_store_new rfl 190 _ _ rfl w.heap.size _ _ (by simp) rfl rfl hi4 (by rw [hsz3, hsz]) hone3 ?_))
  refine leaves_cons (f := 58) (args := #[.pointer (some ⟨d.p, 0, none⟩)]) (by simp) (by simp [go_sem]) ?_
  refine (unlock_deferred ⟨d.p, 0, none⟩ .returning _ (H3.out.cell 0) (H3.out.frozen 0)).mono ?_
  rintro e u' w'' ⟨rfl, rfl, rfl⟩
  exact ⟨_, results_tmp2 rfl _ _ _, rfl, HD.out, HF.out⟩
end Go.Proofs.YtdidjdoifpfmmaaGreatDoor
namespace Go.Proofs.YtdidjdoifpfmmaaGreatDoor
open Go.RowKit
set_option maxRecDepth 100000 in
set_option maxHeartbeats 1600000 in
theorem devRead_arg {w : World} {d : DP} {S : Dk} (h : DevAt w d S) (ok : S.Ok) (n : Int) (hk : ¬ (0 ≤ n ∧ n < S.safe.length)) (ea : Addr) (hg : w.cell? ⟨0, 0, none⟩ = some (.iface 452 (.pointer (some ea)))) (hp : d.p ≠ 0) :
    Calls Tryz.prog 84 #[.pointer (some ⟨d.p, 0, none⟩), .int .i64 n] w fun e w' =>
      e = .returned (.tuple #[.string ByteArray.empty, .iface 452 (.pointer (some ea))]) ∧ DevAt w' d S ∧ Fr w w' [d.p] := by
  have z0 : w.cell? ⟨d.p, 0, none⟩ = some (.int .i32 0) := h.row.cell 0
  have z1 := h.row.frozen 0
  have h1 := h.row.set 0 (.int .i32 1)
  have hh := devHas_any (d := d) (S := S) (lk := 1) h1 ok n
  rw [decide_eq_false hk] at hh
  have cg : (w.setCell ⟨d.p, 0, none⟩ (.int .i32 1)).cell? ⟨0, 0, none⟩ = some (.iface 452 (.pointer (some ea))) := by rw [World.cell?_setCell_other _ _ _ _ (by simp [])]; exact hg
  have HF : Hid (Fr w ((w.setCell ⟨d.p, 0, none⟩ (.int .i32 1)).drew.setCell ⟨d.p, 0, none⟩ (.int .i32 0)) [d.p]) := (((Fr.refl _ _).setCell _ _ (.inl (by simp))).drew).setCell _ _ (.inl (by simp))
  have HD : Hid (DevAt ((w.setCell ⟨d.p, 0, none⟩ (.int .i32 1)).drew.setCell ⟨d.p, 0, none⟩ (.int .i32 0)) d S) := h.turn rfl rfl (h1.drew.set 0 (.int .i32 0)) HF.out
  have H1 : Hid _ := h1.drew
  clear h1 h
  go_enter_defers Tryz.func84, Tryz.ntmps84
  go_wp2_with (first
    | (go_at_call 57; refine (lock_free ⟨d.p, 0, none⟩ _ z0 z1).mono ?_; rintro e w' ⟨rfl, rfl⟩)
    | (go_at_call 142; refine hh.mono ?_; rintro e w' ⟨rfl, rfl⟩))
  go_region
  go_wp2
  refine leaves_cons (f := 58) (args := #[.pointer (some ⟨d.p, 0, none⟩)]) (by simp) (by simp [go_sem]) ?_
  refine (unlock_deferred ⟨d.p, 0, none⟩ .returning _ (H1.out.cell 0) (H1.out.frozen 0)).mono ?_
  rintro e u' w'' ⟨rfl, rfl, rfl⟩
  exact ⟨_, results_tmp2 rfl _ _ _, rfl, HD.out, HF.out⟩
end Go.Proofs.YtdidjdoifpfmmaaGreatDoor
