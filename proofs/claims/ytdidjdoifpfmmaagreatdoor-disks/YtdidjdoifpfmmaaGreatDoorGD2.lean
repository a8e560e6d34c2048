import Derived.Test.YtdidjdoifpfmmaaGreatDoorGD1
import Derived.Test.YtdidjdoifpfmmaaGreatDoorGB2
import Derived.Deep.WholeRow
import Derived.MapFrom
/- The program's Read. -/
namespace Go.Proofs.YtdidjdoifpfmmaaGreatDoor
open Go.RowKit
theorem secSize : (Tryz.prog.info? 190).map (·.size) = some 64 := by kernel_rfl
theorem wrSize : (Tryz.prog.info? 192).map (·.size) = some 65 := by kernel_rfl
theorem intKeyed : Maps.Keyed Tryz.prog 3 := Maps.int_keyed Tryz.underlying3
theorem intZero : (Tryz.prog.info? 3).map (fun i => (i.zero, i.size)) = some (some (.int .i64 0), 1) := by kernel_rfl
theorem text_textOf (x : ByteArray) : text (textOf x) = x := by
  obtain ⟨⟨l⟩⟩ := x
  have e : UInt8.ofNat ∘ UInt8.toNat = id := by funext x; simp
  simp [text, textOf, e]
theorem wpList_store_new {P : Program} {ops : Array Oper} {rest : List Oper} {op : Oper} {a : Act} {w : World} {Q : Exit → Act → World → Prop} (hgd : op.guard = none) (t : TypeId) (x y : Operand) (ho : op.op = .store t x y)
    (b : Nat) (c c' : Array Value) (hb : b = w.heap.size) (hx : a.eval x = .pointer (some ⟨b, 0, none⟩)) (hy : a.eval y = .agg c') (hi : (P.info? t).map (·.size) = some c'.size) (hs : c.size = c'.size) (h1 : c'.all (·.oneCell') = true)
    (h : wpList P ops Q rest (a.put op.dst undef) (w.alloc (.cells c' t))) : wpList P ops Q (op :: rest) a (w.alloc (.cells c t)) := by
  subst hb
  refine wpList_plain hgd fun _ hK => ?_
  unfold Oper.wp execOp
  simp only [ho, hx, hy, Sem.run_bind, Sem.run_pure, Result.andThen_ok, run_storeAt_new w t c c' hi hs h1]
  exact hK _ _ h
/-- What the map tells. -/
theorem last_look {w : World} {gm n : Nat} {D : DataW Unit} (h : w.ownsMap Tryz.prog 3 (plainElem Tryz.prog 3) gm n D) (k : Nat) (hk : k ≤ 1000000) :
    ∃ c : Int, (Instr.lookup 78 (.map (some gm)) (.int .i64 (k : Nat)) true).run Tryz.prog w = .ok (.tuple #[.int .i64 c, .bool (Maps.has D (.int .i64 (k : Nat)))]) w ∧ D.atKey (.int .i64 (k : Nat)) (.lit (.int .i64 0)) = .lit (.int .i64 c) := by
  obtain ⟨hz, _⟩ := zero_of_info intZero
  obtain ⟨v, ps, hrun, hv⟩ := h.look_ok (t := 78) (e := 3) intKeyed Tryz.underlying78 (hz w) (plainElem_int Tryz.underlying3 (by decide)) (Maps.keyOf_int_mk Tryz.underlying3 (a := (k : Nat)) (by simp [Lit.wf, IntKind.min, IntKind.max, IntKind.signed, IntKind.bits]; omega))
  obtain ⟨c, rfl, hc, _⟩ := plainElem_int_inv Tryz.underlying3 hv
  exact ⟨c, hrun, congrArg Prod.fst hc⟩
set_option maxRecDepth 100000 in
set_option maxHeartbeats 1600000 in
theorem devRead_none {w : World} {d : DP} {S : Dk} (h : DevAt w d S) (ok : S.Ok) (k : Nat) (hk : k < S.safe.length) (hno : Maps.has (lastD S.wait) (.int .i64 (k : Nat)) = false) :
    Calls Tryz.prog 84 #[.pointer (some ⟨d.p, 0, none⟩), .int .i64 (k : Nat)] w fun e w' =>
      e = .returned (.tuple #[.string S.safe[k], .nilIface]) ∧ DevAt w' d S ∧ Fr w w' [d.p] := by
  have z0 : w.cell? ⟨d.p, 0, none⟩ = some (.int .i32 0) := h.row.cell 0
  have z1 := h.row.frozen 0
  have h1 := h.row.set 0 (.int .i32 1)
  have c2 : (w.setCell ⟨d.p, 0, none⟩ (.int .i32 1)).cell? ⟨d.p, 2, none⟩ = some (.slice (some ⟨d.gs, 0, none⟩) S.safe.length S.safe.length) := h1.cell 2
  have hn := ok.most
  have hh := devHas_any (d := d) (S := S) (lk := 1) h1 ok k
  rw [decide_eq_true (by omega)] at hh
  have hsec := ok.sec
  have hr1 : RowIs (w.setCell ⟨d.p, 0, none⟩ (.int .i32 1)) d.gs 190 (secs S.safe) := h.safe.other _ (by simpa using h.ne.1.symm)
  have hl64 : (bytes (textOf S.safe[k])).length = 64 := sec_length _ (hsec _ (List.getElem_mem hk))
  have hrg := secs_range hr1 hsec k hk
  have hi : (Tryz.prog.info? 190).map (·.size) = some (bytes (textOf S.safe[k])).length := by rw [hl64]; exact secSize
  have hw2 := RowIs.new (w.setCell ⟨d.p, 0, none⟩ (.int .i32 1)) 190 (bytes (textOf S.safe[k]))
  have hB : Below (w.setCell ⟨d.p, 0, none⟩ (.int .i32 1)).heap.size (w.setCell ⟨d.p, 0, none⟩ (.int .i32 1)) ((w.setCell ⟨d.p, 0, none⟩ (.int .i32 1)).alloc (.cells (bytes (textOf S.safe[k])).toArray 190)) := (Below.refl _ _).alloc (Nat.le_refl _) _
  have h2 := h1.below hB h1.lt
  have c4 : ((w.setCell ⟨d.p, 0, none⟩ (.int .i32 1)).alloc (.cells (bytes (textOf S.safe[k])).toArray 190)).cell? ⟨d.p, 4, none⟩ = some (.map (some d.gm)) := h2.cell 4
  have hm2 : ((w.setCell ⟨d.p, 0, none⟩ (.int .i32 1)).alloc (.cells (bytes (textOf S.safe[k])).toArray 190)).ownsMap (H := Unit) Tryz.prog 3 (plainElem Tryz.prog 3) d.gm S.wait.length (lastD S.wait) := (h.last.setCell (by simpa using h.ne.2.1.symm) _).alloc _
  obtain ⟨c, hlook, _⟩ := last_look hm2 k (by omega)
  rw [hno] at hlook
  have hconv := back_any (P := Tryz.prog) 124 9 5 Tryz.underlying124 Tryz.underlying5 Tryz.underlying9 _ _ 64 190 (textOf S.safe[k]) [] (by rw [List.append_nil]; exact hw2) (textOf_lt _)
  rw [text_textOf, show (textOf S.safe[k]).length = 64 by rw [← bytes_length]; exact hl64] at hconv
  have hs0 : (w.setCell ⟨d.p, 0, none⟩ (.int .i32 1)).heap.size = w.heap.size := by simp
  rw [hs0] at hconv
  have hone := bytes_one (textOf S.safe[k])
  have hsz : (bytes (textOf S.safe[k])).toArray.size = 64 := hl64
  have hi2 : (Tryz.prog.info? 190).map (·.size) = some (bytes (textOf S.safe[k])).toArray.size := hi
  have HF : Hid (Fr w (((w.setCell ⟨d.p, 0, none⟩ (.int .i32 1)).alloc (.cells (bytes (textOf S.safe[k])).toArray 190)).setCell ⟨d.p, 0, none⟩ (.int .i32 0)) [d.p]) := (((Fr.refl _ _).setCell _ _ (.inl (by simp))).alloc _).setCell _ _ (.inl (by simp))
  have HD : Hid (DevAt (((w.setCell ⟨d.p, 0, none⟩ (.int .i32 1)).alloc (.cells (bytes (textOf S.safe[k])).toArray 190)).setCell ⟨d.p, 0, none⟩ (.int .i32 0)) d S) := h.turn rfl rfl (h2.set 0 (.int .i32 0)) HF.out
  have H2 : Hid _ := h2
  generalize bytes (textOf S.safe[k]) = C at *
  generalize S.safe[k] = x at *
  clear hw2 hm2 h2 hB
  go_enter_defers Tryz.func84, Tryz.ntmps84
  go_wp2_with (first
    | (go_at_call 57; refine (lock_free ⟨d.p, 0, none⟩ _ z0 z1).mono ?_; rintro e w' ⟨rfl, rfl⟩)
    | (go_at_call 142; refine hh.mono ?_; rintro e w' ⟨rfl, rfl⟩)
    | (refine wpList_load_mid rfl 190 _ rfl d.gs (k * 64) rfl _ _ hrg Tryz.underlying190 rfl hi ?_)
    | (refine wpList_store_new rfl 190 _ _ rfl w.heap.size _ _ (by simp) rfl rfl hi2 (by rw [hsz]; rfl) hone ?_))
  refine leaves_cons (f := 58) (args := #[.pointer (some ⟨d.p, 0, none⟩)]) (by simp) (by simp [go_sem]) ?_
  refine (unlock_deferred ⟨d.p, 0, none⟩ .returning _ (H2.out.cell 0) (H2.out.frozen 0)).mono ?_
  rintro e u' w'' ⟨rfl, rfl, rfl⟩
  exact ⟨_, results_tmp2 rfl _ _ _, rfl, HD.out, HF.out⟩
end Go.Proofs.YtdidjdoifpfmmaaGreatDoor
/- The program's forget; operate. -/
namespace Go.Proofs.YtdidjdoifpfmmaaGreatDoor
open Go.RowKit
theorem clear_map {w : World} {gm n : Nat} {D : DataW Unit} (h : w.ownsMap Tryz.prog 3 (plainElem Tryz.prog 3) gm n D) :
    ∃ w', (∀ ty, (Builtin.clear_ #[78] ty #[.map (some gm)]).run Tryz.prog w = .ok (.tuple #[]) w') ∧ w'.ownsMap (H := Unit) Tryz.prog 3 (plainElem Tryz.prog 3) gm 0 (.map []) ∧ w.mapTurned w' gm := by
  obtain ⟨es, clock, hb, _, _, _⟩ := h
  refine ⟨ChangeMaps.setBlock w gm (.map #[] clock), fun ty => ?_, ⟨#[], clock, ChangeMaps.heap_setBlock_same hb _, ⟨by simp, MapKept.stamped_empty clock, by simp⟩, Nat.le_refl _, rfl⟩, ⟨es, clock, #[], clock, hb, rfl⟩⟩
  simp [Builtin.clear_, run_underlying Tryz.underlying78, MapKept.run_getObj_map hb, MapKept.run_setObj_map _ hb, Result.andThen]
  rfl
set_option maxRecDepth 100000 in
set_option maxHeartbeats 1600000 in
theorem devForget_any {w : World} {d : DP} {S : Dk} {lk : Int} {n : Nat} {D : DataW Unit} (h : RowIs w d.p 88 (d.cells S lk)) (hm : w.ownsMap Tryz.prog 3 (plainElem Tryz.prog 3) d.gm n D) (hne : d.p ≠ d.gm) :
    Calls Tryz.prog 104 #[.pointer (some ⟨d.p, 0, none⟩)] w fun e w' => e = .returned (.tuple #[]) ∧ RowIs w' d.p 88 ({ d with wv := .slice none 0 0 }.cells S lk) ∧ w'.ownsMap (H := Unit) Tryz.prog 3 (plainElem Tryz.prog 3) d.gm 0 (.map []) ∧ Fr w w' [d.p, d.gm] := by
  obtain ⟨w1, hclr, hm1, ht⟩ := clear_map hm
  have hf1 : Fr w w1 [d.p, d.gm] := (Fr.refl _ _).grown ht.grown (by simp)
  have h1 : RowIs w1 d.p 88 (d.cells S lk) := ⟨by rw [ht.grown.block d.p h.lt (by simpa using hne)]; exact h.heap⟩
  have c4 : w.cell? ⟨d.p, 4, none⟩ = some (.map (some d.gm)) := h.cell 4
  have c3 : w1.cell? ⟨d.p, 3, none⟩ = some d.wv := h1.cell 3
  have f3 := h1.frozen 3
  have HR : Hid (RowIs (w1.setCell ⟨d.p, 3, none⟩ (.slice none 0 0)) d.p 88 ({ d with wv := .slice none 0 0 }.cells S lk)) := h1.set 3 (.slice none 0 0)
  have HM : Hid ((w1.setCell ⟨d.p, 3, none⟩ (.slice none 0 0)).ownsMap (H := Unit) Tryz.prog 3 (plainElem Tryz.prog 3) d.gm 0 (.map [])) := hm1.setCell (by simpa using hne.symm) _
  have HF : Hid (Fr w (w1.setCell ⟨d.p, 3, none⟩ (.slice none 0 0)) [d.p, d.gm]) := hf1.setCell _ _ (.inl (by simp))
  clear h1 hm1 ht hf1 h hm
  go_enter Tryz.func104, Tryz.ntmps104
  go_wp2
  go_end0
  exact ⟨rfl, HR.out, HM.out, HF.out⟩
end Go.Proofs.YtdidjdoifpfmmaaGreatDoor
/- The program's operate. -/
namespace Go.Proofs.YtdidjdoifpfmmaaGreatDoor
open Go.RowKit
theorem tick_safe (S : Dk) : S.tick.safe = S.safe := by unfold Dk.tick; split <;> rfl
theorem tick_wait (S : Dk) : S.tick.wait = S.wait := by unfold Dk.tick; split <;> rfl
/-- The disk's row behind the step of the fuse. -/
theorem dev_tick {w : World} {d : DP} {S : Dk} {lk : Int} (h : RowIs w d.p 88 (d.cells S lk)) (h0 : 0 < S.fuse) :
    RowIs ((w.setCell ⟨d.p, 5, none⟩ (.int .i64 ((S.fuse : Int) - 1))).setCell ⟨d.p, 6, none⟩ (.bool (S.down || decide (S.fuse = 1)))) d.p 88 (d.cells S.tick lk) := by
  have := (h.set 5 (.int .i64 ((S.fuse : Int) - 1))).set 6 (.bool (S.down || decide (S.fuse = 1)))
  have e : (((d.cells S lk).set 5 (.int .i64 ((S.fuse : Int) - 1))).set 6 (.bool (S.down || decide (S.fuse = 1)))) = d.cells S.tick lk := by
    unfold Dk.tick
    rw [if_neg (by omega)]
    simp only [DP.cells, List.set_cons_succ, List.set_cons_zero]
    rw [show ((S.fuse : Int) - 1) = ((S.fuse - 1 : Nat) : Int) by omega]
  rw [e] at this
  exact this
set_option maxRecDepth 100000 in
set_option maxHeartbeats 1600000 in
/-- The disk is down, or goes down. -/
theorem devOperate_down {w : World} {d : DP} {S : Dk} {lk : Int} (h : RowIs w d.p 88 (d.cells S lk)) (hd : S.tick.down = true) (hf : S.fuse ≤ 9223372036854775807) (do_ : Value) (ea : Addr) (hg : w.cell? ⟨1, 0, none⟩ = some (.iface 452 (.pointer (some ea)))) (_hp : d.p ≠ 1) :
    Calls Tryz.prog 143 #[.pointer (some ⟨d.p, 0, none⟩), do_] w fun e w' => e = .returned (.iface 452 (.pointer (some ea))) ∧ RowIs w' d.p 88 (d.cells S.tick lk) ∧ Fr w w' [d.p] := by
  have c5 : w.cell? ⟨d.p, 5, none⟩ = some (.int .i64 (S.fuse : Nat)) := h.cell 5
  by_cases h0 : S.fuse = 0
  · have e : S.tick = S := by unfold Dk.tick; rw [if_pos h0]
    rw [e] at hd ⊢
    have c6 : w.cell? ⟨d.p, 6, none⟩ = some (.bool true) := by rw [← hd]; exact h.cell 6
    rw [h0] at c5
    have H : Hid _ := h
    clear h
    go_enter Tryz.func143, Tryz.ntmps143
    go_wp2
    go_ret
    exact ⟨rfl, H.out, Fr.refl _ _⟩
  · have f5 := h.frozen 5
    have h5 := h.set 5 (.int .i64 ((S.fuse : Int) - 1))
    have c5' : (w.setCell ⟨d.p, 5, none⟩ (.int .i64 ((S.fuse : Int) - 1))).cell? ⟨d.p, 5, none⟩ = some (.int .i64 ((S.fuse : Int) - 1)) := h5.cell 5
    have c6 : (w.setCell ⟨d.p, 5, none⟩ (.int .i64 ((S.fuse : Int) - 1))).cell? ⟨d.p, 6, none⟩ = some (.bool S.down) := h5.cell 6
    have f6 := h5.frozen 6
    have H6 : Hid _ := dev_tick h (by omega)
    have hpos : (0 : Int) < S.fuse := by omega
    have hg2 : ∀ u v, ((w.setCell ⟨d.p, 5, none⟩ u).setCell ⟨d.p, 6, none⟩ v).cell? ⟨1, 0, none⟩ = some (.iface 452 (.pointer (some ea))) := by
      intro u v
      rw [World.cell?_setCell_other _ _ _ _ (by simp []), World.cell?_setCell_other _ _ _ _ (by simp [])]
      exact hg
    have hdd : (S.down || decide (S.fuse = 1)) = true := by
      have := hd
      unfold Dk.tick at this
      rw [if_neg h0] at this
      exact this
    rw [hdd] at H6
    have c6' : ((w.setCell ⟨d.p, 5, none⟩ (.int .i64 ((S.fuse : Int) - 1))).setCell ⟨d.p, 6, none⟩ (.bool true)).cell? ⟨d.p, 6, none⟩ = some (.bool true) := World.cell?_setCell_same _ _ _ c6
    have HF : Hid (Fr w ((w.setCell ⟨d.p, 5, none⟩ (.int .i64 ((S.fuse : Int) - 1))).setCell ⟨d.p, 6, none⟩ (.bool true)) [d.p]) := ((Fr.refl _ _).setCell _ _ (.inl (by simp))).setCell _ _ (.inl (by simp))
    clear h h5
    generalize S.tick = T at *
    generalize S.down = dn at *
    cases dn with
    | true =>
      go_enter Tryz.func143, Tryz.ntmps143
      go_wp2
      go_ret
      exact ⟨rfl, H6.out, HF.out⟩
    | false =>
      have h1 : S.fuse = 1 := by simpa using hdd
      have hq : ((S.fuse : Int) - 1 == 0) = true := by rw [h1]; rfl
      clear hdd h1
      go_enter Tryz.func143, Tryz.ntmps143
      go_wp2
      go_ret
      exact ⟨rfl, H6.out, HF.out⟩
end Go.Proofs.YtdidjdoifpfmmaaGreatDoor
/- The program's operate: the disk is up. -/
namespace Go.Proofs.YtdidjdoifpfmmaaGreatDoor
open Go.RowKit
set_option maxRecDepth 100000 in
set_option maxHeartbeats 1600000 in
theorem devOperate_write {w : World} {d : DP} {S : Dk} {lk : Int} (h : RowIs w d.p 88 (d.cells S lk)) (hd : S.tick.down = false) (hf : S.fuse ≤ 9223372036854775807) (cap : Array Value) (Post : World → Prop)
    (hdo : ∀ w1, RowIs w1 d.p 88 (d.cells S.tick lk) → Fr w w1 [d.p] → Calls Tryz.prog 144 cap w1 fun e w' => e = .returned (.tuple #[]) ∧ Post w') :
    Calls Tryz.prog 143 #[.pointer (some ⟨d.p, 0, none⟩), .func (.func 144) #[] cap] w fun e w' => e = .returned .nilIface ∧ Post w' := by
  have c5 : w.cell? ⟨d.p, 5, none⟩ = some (.int .i64 (S.fuse : Nat)) := h.cell 5
  by_cases h0 : S.fuse = 0
  · have e : S.tick = S := by unfold Dk.tick; rw [if_pos h0]
    rw [e] at hd hdo
    have hc := hdo w h (Fr.refl _ _)
    have c6 : w.cell? ⟨d.p, 6, none⟩ = some (.bool false) := by rw [← hd]; exact h.cell 6
    rw [h0] at c5
    clear h hdo
    go_enter Tryz.func143, Tryz.ntmps143
    go_wp2_with (refine hc.mono ?_; rintro e w' ⟨rfl, hP⟩)
    go_ret
    exact ⟨rfl, hP⟩
  · have f5 := h.frozen 5
    have h5 := h.set 5 (.int .i64 ((S.fuse : Int) - 1))
    have c5' : (w.setCell ⟨d.p, 5, none⟩ (.int .i64 ((S.fuse : Int) - 1))).cell? ⟨d.p, 5, none⟩ = some (.int .i64 ((S.fuse : Int) - 1)) := h5.cell 5
    have c6 : (w.setCell ⟨d.p, 5, none⟩ (.int .i64 ((S.fuse : Int) - 1))).cell? ⟨d.p, 6, none⟩ = some (.bool S.down) := h5.cell 6
    have f6 := h5.frozen 6
    have h6 := dev_tick h (by omega)
    have hpos : (0 : Int) < S.fuse := by omega
    have hdd : (S.down || decide (S.fuse = 1)) = false := by
      have := hd
      unfold Dk.tick at this
      rw [if_neg h0] at this
      exact this
    rw [hdd] at h6
    have hdn : S.down = false := by cases hq : S.down <;> simp_all
    have hone : S.fuse ≠ 1 := by intro hq; simp [hq] at hdd
    rw [hdn] at c6
    have c6' : ((w.setCell ⟨d.p, 5, none⟩ (.int .i64 ((S.fuse : Int) - 1))).setCell ⟨d.p, 6, none⟩ (.bool false)).cell? ⟨d.p, 6, none⟩ = some (.bool false) := World.cell?_setCell_same _ _ _ c6
    have hc := hdo _ h6 (((Fr.refl _ _).setCell _ _ (.inl (by simp))).setCell _ _ (.inl (by simp)))
    have hq : ((S.fuse : Int) - 1 == 0) = false := by simp; omega
    clear h h5 hdo h6 hdd hone
    go_enter Tryz.func143, Tryz.ntmps143
    go_wp2_with (refine hc.mono ?_; rintro e w' ⟨rfl, hP⟩)
    go_ret
    exact ⟨rfl, hP⟩
set_option maxRecDepth 100000 in
set_option maxHeartbeats 1600000 in
theorem devOperate_flush {w : World} {d : DP} {S : Dk} {lk : Int} (h : RowIs w d.p 88 (d.cells S lk)) (hd : S.tick.down = false) (hf : S.fuse ≤ 9223372036854775807) (cap : Array Value) (Post : World → Prop)
    (hdo : ∀ w1, RowIs w1 d.p 88 (d.cells S.tick lk) → Fr w w1 [d.p] → Calls Tryz.prog 148 cap w1 fun e w' => e = .returned (.tuple #[]) ∧ Post w') :
    Calls Tryz.prog 143 #[.pointer (some ⟨d.p, 0, none⟩), .func (.func 148) #[] cap] w fun e w' => e = .returned .nilIface ∧ Post w' := by
  have c5 : w.cell? ⟨d.p, 5, none⟩ = some (.int .i64 (S.fuse : Nat)) := h.cell 5
  by_cases h0 : S.fuse = 0
  · have e : S.tick = S := by unfold Dk.tick; rw [if_pos h0]
    rw [e] at hd hdo
    have hc := hdo w h (Fr.refl _ _)
    have c6 : w.cell? ⟨d.p, 6, none⟩ = some (.bool false) := by rw [← hd]; exact h.cell 6
    rw [h0] at c5
    clear h hdo
    go_enter Tryz.func143, Tryz.ntmps143
    go_wp2_with (refine hc.mono ?_; rintro e w' ⟨rfl, hP⟩)
    go_ret
    exact ⟨rfl, hP⟩
  · have f5 := h.frozen 5
    have h5 := h.set 5 (.int .i64 ((S.fuse : Int) - 1))
    have c5' : (w.setCell ⟨d.p, 5, none⟩ (.int .i64 ((S.fuse : Int) - 1))).cell? ⟨d.p, 5, none⟩ = some (.int .i64 ((S.fuse : Int) - 1)) := h5.cell 5
    have c6 : (w.setCell ⟨d.p, 5, none⟩ (.int .i64 ((S.fuse : Int) - 1))).cell? ⟨d.p, 6, none⟩ = some (.bool S.down) := h5.cell 6
    have f6 := h5.frozen 6
    have h6 := dev_tick h (by omega)
    have hpos : (0 : Int) < S.fuse := by omega
    have hdd : (S.down || decide (S.fuse = 1)) = false := by
      have := hd
      unfold Dk.tick at this
      rw [if_neg h0] at this
      exact this
    rw [hdd] at h6
    have hdn : S.down = false := by cases hq : S.down <;> simp_all
    have hone : S.fuse ≠ 1 := by intro hq; simp [hq] at hdd
    rw [hdn] at c6
    have c6' : ((w.setCell ⟨d.p, 5, none⟩ (.int .i64 ((S.fuse : Int) - 1))).setCell ⟨d.p, 6, none⟩ (.bool false)).cell? ⟨d.p, 6, none⟩ = some (.bool false) := World.cell?_setCell_same _ _ _ c6
    have hc := hdo _ h6 (((Fr.refl _ _).setCell _ _ (.inl (by simp))).setCell _ _ (.inl (by simp)))
    have hq : ((S.fuse : Int) - 1 == 0) = false := by simp; omega
    clear h h5 hdo h6 hdd hone
    go_enter Tryz.func143, Tryz.ntmps143
    go_wp2_with (refine hc.mono ?_; rintro e w' ⟨rfl, hP⟩)
    go_ret
    exact ⟨rfl, hP⟩
end Go.Proofs.YtdidjdoifpfmmaaGreatDoor
