import Derived.Test.YtdidjdoifpfmmaaGreatDoorGT13
import Derived.Maps.OwnSet
import Derived.Sort.KeysCollected
import Derived.Deep.WholeRow
import Derived.WalkSpells
import Derived.Test.YtdidjdoifpfmmaaGreatDoorGT12
import Derived.Maps.RangeWalk
import Derived.Laws.IdiomRangeMap
import Derived.Shelf.LaysM
import Derived.Shelf.Strconv.Clone
import Derived.Test.YtdidjdoifpfmmaaGreatDoorProg
/- The program's tree: nodes and maps in memory, and the document's list. -/
namespace Go.Proofs.YtdidjdoifpfmmaaGreatDoor
open Go.RowKit
/-- How an element of a directory's map reads: by its block. -/
def nodeR : Value → Option (DataW Unit × List MemPlace)
  | .pointer none => some (.lit (.int .i64 (-1)), [])
  | .pointer (some a) => if a.off = 0 ∧ a.spot = none then some (.lit (.int .i64 (a.block : Nat)), []) else none
  | _ => none
theorem nodeR_mk (b : Nat) : nodeR (.pointer (some ⟨b, 0, none⟩)) = some (.lit (.int .i64 (b : Nat)), []) := by
  simp [nodeR]
theorem nodeR_inv {v : Value} {b : Nat} {ps : List MemPlace} (h : nodeR v = some (.lit (.int .i64 (b : Nat)), ps)) : v = .pointer (some ⟨b, 0, none⟩) := by
  unfold nodeR at h
  split at h
  · simp at h
  · rename_i a
    split at h
    · rename_i hc
      simp at h
      obtain ⟨x, y, z⟩ := a
      simp only at hc h
      rw [hc.1, hc.2, show x = b by omega]
    · cases h
  · cases h
theorem nodeR_none {v : Value} {ps : List MemPlace} (h : nodeR v = some (.lit (.int .i64 (-1)), ps)) : v = .pointer none := by
  unfold nodeR at h
  split at h
  · rfl
  · split at h
    · simp at h
    · cases h
  · cases h
theorem nodeR_ptr {v : Value} {z : DataW Unit × List MemPlace} (h : nodeR v = some z) : ∃ o, v = .pointer o := by
  unfold nodeR at h
  split at h
  · exact ⟨_, rfl⟩
  · exact ⟨_, rfl⟩
  · cases h
theorem strKeyed : Maps.Keyed Tryz.prog 9 := Maps.string_keyed Tryz.underlying9
theorem nodeZero : (Tryz.prog.info? 111).map (fun i => (i.zero, i.size)) = some (some (.pointer none), 1) := by kernel_rfl
theorem keyOf_name (k : ByteArray) (h : k.size ≤ 1000000) : keyOf Tryz.prog 9 (.string k) = some (.string k.data.toList) := by
  have hs : k.size ≤ maxLen := by simp [maxLen]; omega
  simp [keyOf, Tryz.underlying9, mapKey, hs]
def hasKid (L : List It) (p k : ByteArray) : Bool := (kidsFold p L).any fun x => decide (x = k)
theorem hasKid_iff (L : List It) (p k : ByteArray) : hasKid L p k = true ↔ k ∈ kidsFold p L := by
  unfold hasKid
  rw [List.any_eq_true]
  constructor
  · rintro ⟨x, hx, e⟩
    rw [← of_decide_eq_true e]
    exact hx
  · intro h
    exact ⟨k, h, decide_eq_true rfl⟩
theorem hasKid_not (L : List It) (p k : ByteArray) : hasKid L p k = false ↔ k ∉ kidsFold p L := by
  rw [← hasKid_iff, Bool.not_eq_true]
/-- A directory's map: its names are those that the list tells, each leads to its node. -/
def DirAt (w : World) (L : List It) (p : ByteArray) (mb : Nat) (blk : ByteArray → Nat) : Prop :=
  ∃ D : DataW Unit, w.ownsMap Tryz.prog 9 nodeR mb (Maps.size D) D ∧ (∀ k : ByteArray, Maps.has D (.string k.data.toList) = true ↔ k ∈ kidsFold p L) ∧ ∀ k ∈ kidsFold p L, ∀ z, D.atKey (.string k.data.toList) z = .lit (.int .i64 (blk (joinB p k) : Nat))
section
variable {w : World} {L : List It} {p : ByteArray} {mb : Nat} {blk : ByteArray → Nat}
theorem DirAt.look (h : DirAt w L p mb blk) (k : ByteArray) (hk : k.size ≤ 1000000) : ∃ v, (Instr.lookup 175 (.map (some mb)) (.string k) true).run Tryz.prog w = .ok (.tuple #[v, .bool (hasKid L p k)]) w ∧
    (k ∈ kidsFold p L → v = .pointer (some ⟨blk (joinB p k), 0, none⟩)) ∧ (k ∉ kidsFold p L → v = .pointer none) := by
  obtain ⟨D, ho, hh, ha⟩ := h
  obtain ⟨hz, _⟩ := zero_of_info nodeZero
  obtain ⟨v, ps, hrun, hv⟩ := ho.look_ok (t := 175) (e := 111) strKeyed Tryz.underlying175 (hz w) (zd := .lit (.int .i64 (-1))) (zp := []) rfl (keyOf_name k hk)
  have hb : Maps.has D (.string k.data.toList) = hasKid L p k := by
    rw [Bool.eq_iff_iff, hasKid_iff]
    exact hh k
  rw [hb] at hrun
  refine ⟨v, hrun, fun hm => ?_, fun hm => ?_⟩
  · rw [ha k hm] at hv
    exact nodeR_inv hv
  · rw [Maps.atKey_of_not_has (by rw [hb]; exact (hasKid_not L p k).2 hm)] at hv
    exact nodeR_none hv
theorem DirAt.get (h : DirAt w L p mb blk) (k : ByteArray) (hk : k.size ≤ 1000000) (hm : k ∈ kidsFold p L) : (Instr.lookup 175 (.map (some mb)) (.string k) false).run Tryz.prog w = .ok (.pointer (some ⟨blk (joinB p k), 0, none⟩)) w := by
  obtain ⟨D, ho, hh, ha⟩ := h
  obtain ⟨hz, _⟩ := zero_of_info nodeZero
  obtain ⟨v, ps, hrun, hv⟩ := ho.lookup (t := 175) (e := 111) strKeyed Tryz.underlying175 (hz w) (zd := .lit (.int .i64 (-1))) (zp := []) rfl (keyOf_name k hk)
  rw [ha k hm] at hv
  rw [nodeR_inv hv] at hrun
  exact hrun
theorem kids_keys {D : DataW Unit} {n : Nat} (ok : TreeOk L) (ho : w.ownsMap Tryz.prog 9 nodeR mb n D) (hh : ∀ k : ByteArray, Maps.has D (.string k.data.toList) = true ↔ k ∈ kidsFold p L) : ((kidsFold p L).map (fun k => k.data.toList)).Perm (strKeys D) := by
  obtain ⟨es, hD, hpw, _⟩ := ho.entries strKeyed
  obtain ⟨es', hD', hko⟩ := ho.keysOf
  obtain rfl : es = es' := by rw [hD] at hD'; simpa using hD'
  subst hD
  refine perm_strKeys hpw (fun p hp => by obtain ⟨v, hv⟩ := hko p hp; obtain ⟨x, _, hx, _⟩ := Maps.keyOf_str Tryz.underlying9 hv; exact ⟨x, hx⟩) ?_ fun x => ?_
  · have hn := kids_nodup ok p
    unfold List.Nodup at hn ⊢
    rw [List.pairwise_map]
    exact hn.imp fun hne e => hne (ba_ext e)
  · rw [show x = (⟨x.toArray⟩ : ByteArray).data.toList by simp, hh, List.mem_map]
    constructor
    · rintro ⟨k, hk, e⟩
      rw [← ba_ext e]
      exact hk
    · intro hk
      exact ⟨_, hk, rfl⟩
theorem dir_size {D : DataW Unit} {n : Nat} (ok : TreeOk L) (ho : w.ownsMap Tryz.prog 9 nodeR mb n D) (hh : ∀ k : ByteArray, Maps.has D (.string k.data.toList) = true ↔ k ∈ kidsFold p L) : Maps.size D = (kidsFold p L).length := by
  have h1 := (kids_keys ok ho hh).length_eq
  obtain ⟨es, rfl⟩ := ho.isMap
  rw [List.length_map] at h1
  rw [h1]
  simp [strKeys, Maps.size]
theorem DirAt.len (h : DirAt w L p mb blk) (ok : TreeOk L) (ty : TypeId) : (Builtin.len_ #[175] ty #[.map (some mb)]).run Tryz.prog w = .ok (.int .i64 (kidsFold p L).length) w := by
  obtain ⟨D, ho, hh, ha⟩ := h
  have := ho.len Tryz.underlying175 ty
  rw [dir_size ok ho hh] at this
  exact this
theorem DirAt.lt (h : DirAt w L p mb blk) : mb < w.heap.size := by
  obtain ⟨D, ho, _⟩ := h
  exact ho.lt
theorem DirAt.kept {w' : World} (h : DirAt w L p mb blk) (hb : w'.heap[mb]? = w.heap[mb]?) : DirAt w' L p mb blk := by
  obtain ⟨D, ⟨es, clock, h1, h2⟩, r⟩ := h
  exact ⟨D, ⟨es, clock, hb.trans h1, h2⟩, r⟩
end
structure TreeAt (w : World) (L : List It) (blk mblk : ByteArray → Nat) : Prop where
  dir : ∀ p, IsDir L p → w.cell? ⟨blk p, 0, none⟩ = some (.map (some (mblk p))) ∧ w.cell? ⟨blk p, 1, none⟩ = some (.string ⟨#[]⟩) ∧ DirAt w L p (mblk p) blk
  file : ∀ x ∈ L, x.dir = false → w.cell? ⟨blk x.path, 0, none⟩ = some (.map none) ∧ w.cell? ⟨blk x.path, 1, none⟩ = some (.string x.data)
  apart : ∀ p q, IsDir L p → IsDir L q → mblk p = mblk q → p = q
/-- The blocks of a tree. -/
def treeBlocks (L : List It) (blk mblk : ByteArray → Nat) : List Nat := blk ⟨#[]⟩ :: mblk ⟨#[]⟩ :: L.flatMap (fun x => if x.dir then [blk x.path, mblk x.path] else [blk x.path])
theorem mem_blk {L : List It} (blk mblk : ByteArray → Nat) {p : ByteArray} (h : IsDir L p) : blk p ∈ treeBlocks L blk mblk ∧ mblk p ∈ treeBlocks L blk mblk := by
  unfold treeBlocks
  rcases h with rfl | ⟨y, hy, rfl, hd⟩
  · simp
  · constructor
    · refine List.mem_cons_of_mem _ (List.mem_cons_of_mem _ (List.mem_flatMap.2 ⟨y, hy, by rw [if_pos hd]; simp⟩))
    · refine List.mem_cons_of_mem _ (List.mem_cons_of_mem _ (List.mem_flatMap.2 ⟨y, hy, by rw [if_pos hd]; simp⟩))
theorem mem_blk_file {L : List It} (blk mblk : ByteArray → Nat) {x : It} (h : x ∈ L) : blk x.path ∈ treeBlocks L blk mblk := by
  unfold treeBlocks
  refine List.mem_cons_of_mem _ (List.mem_cons_of_mem _ (List.mem_flatMap.2 ⟨x, h, ?_⟩))
  split <;> simp
theorem cell_kept {w w' : World} {b i : Nat} {v : Value} (h : w.cell? ⟨b, i, none⟩ = some v) (hb : w'.heap[b]? = w.heap[b]?) : w'.cell? ⟨b, i, none⟩ = some v := by
  rw [← h]
  unfold World.cell?
  rw [hb]
theorem TreeAt.fr {w w' : World} {L : List It} {blk mblk : ByteArray → Nat} {bs : List Nat} (h : TreeAt w L blk mblk) (f : Fr w w' bs) (hn : ∀ b ∈ treeBlocks L blk mblk, b ∉ bs) : TreeAt w' L blk mblk := by
  refine ⟨fun p hp => ?_, fun x hx hd => ?_, h.apart⟩
  · obtain ⟨h1, h2, h3⟩ := h.dir p hp
    obtain ⟨m1, m2⟩ := mem_blk blk mblk hp
    have e1 := f.block _ (World.block_lt_of_cell? _ _ h1) (hn _ m1)
    exact ⟨cell_kept h1 e1, cell_kept h2 e1, h3.kept (f.block _ h3.lt (hn _ m2))⟩
  · obtain ⟨h1, h2⟩ := h.file x hx hd
    have e1 := f.block _ (World.block_lt_of_cell? _ _ h1) (hn _ (mem_blk_file blk mblk hx))
    exact ⟨cell_kept h1 e1, cell_kept h2 e1⟩
theorem TreeAt.below {w w' : World} {L : List It} {blk mblk : ByteArray → Nat} (h : TreeAt w L blk mblk) (hb : Below w.heap.size w w') : TreeAt w' L blk mblk := h.fr (Fr.of_below hb []) (by simp)
theorem TreeAt.lt {w : World} {L : List It} {blk mblk : ByteArray → Nat} (h : TreeAt w L blk mblk) : ∀ b ∈ treeBlocks L blk mblk, b < w.heap.size := by
  intro b hb
  unfold treeBlocks at hb
  obtain ⟨r1, _, r3⟩ := h.dir ⟨#[]⟩ (.inl rfl)
  rcases List.mem_cons.1 hb with rfl | hb
  · exact World.block_lt_of_cell? _ _ r1
  · rcases List.mem_cons.1 hb with rfl | hb
    · exact r3.lt
    · obtain ⟨x, hx, hm⟩ := List.mem_flatMap.1 hb
      cases hd : x.dir
      · rw [hd] at hm
        simp at hm
        rw [hm]
        exact World.block_lt_of_cell? _ _ (h.file x hx hd).1
      · rw [hd] at hm
        obtain ⟨r1, _, r3⟩ := h.dir x.path (.inr ⟨x, hx, rfl, hd⟩)
        simp at hm
        rcases hm with rfl | rfl
        · exact World.block_lt_of_cell? _ _ r1
        · exact r3.lt
set_option maxRecDepth 100000 in
set_option maxHeartbeats 1000000 in
theorem devIsDir_any (b : Nat) (o : Option Nat) (w : World) (c : w.cell? ⟨b, 0, none⟩ = some (.map o)) :
    Calls Tryz.prog 162 #[.pointer (some ⟨b, 0, none⟩)] w fun e w' => e = .returned (.bool o.isSome) ∧ w = w' := by
  have qT : ∀ (w : World) (r : Option Nat), (binOp .neq 175 (.map r) (.map none)).run Tryz.prog w = .ok (.bool r.isSome) w := fun w r => by cases r <;> exact run_neq_map_nil w _ _ _ _ Tryz.underlying175
  cases o
  · go_enter Tryz.func162, Tryz.ntmps162
    go_wp2
    go_ret
    exact ⟨rfl, rfl⟩
  · go_enter Tryz.func162, Tryz.ntmps162
    go_wp2
    go_ret
    exact ⟨rfl, rfl⟩
end Go.Proofs.YtdidjdoifpfmmaaGreatDoor
/- The program's node.find and node.above. -/
namespace Go.Proofs.YtdidjdoifpfmmaaGreatDoor
open Go.RowKit
/-- A place of the list (-1: the root) is where a path stands. -/
def Stands (L : List It) (p : ByteArray) (a : Int) : Prop := (p = ⟨#[]⟩ ∧ a = -1) ∨ ∃ i, ∃ h : i < L.length, a = (i : Nat) ∧ L[i].path = p
theorem stands_dir {L : List It} (_ok : TreeOk L) {p : ByteArray} {a : Int} (h : Stands L p a) : (0 ≤ a ∧ dirAt L a = false ∧ ∃ x ∈ L, x.path = p ∧ x.dir = false) ∨ (¬ (0 ≤ a ∧ dirAt L a = false) ∧ IsDir L p) := by
  rcases h with ⟨rfl, rfl⟩ | ⟨i, hi, rfl, hp⟩
  · exact .inr ⟨by omega, .inl rfl⟩
  · have hd : dirAt L (i : Nat) = L[i].dir := by
      unfold dirAt
      rw [Int.toNat_natCast, List.getElem?_eq_getElem hi]
      rfl
    cases hx : L[i].dir
    · exact .inl ⟨by omega, by rw [hd, hx], L[i], List.getElem_mem hi, hp, hx⟩
    · exact .inr ⟨fun h => by rw [hd, hx] at h; simp at h, .inr ⟨L[i], List.getElem_mem hi, hp, hx⟩⟩
theorem stands_next {L : List It} (ok : TreeOk L) {p n : ByteArray} (hn : isName (textOf n) = true) : (findAt L (joinB p n) < 0 ∧ n ∉ kidsFold p L) ∨ (¬ findAt L (joinB p n) < 0 ∧ n ∈ kidsFold p L ∧ Stands L (joinB p n) (findAt L (joinB p n))) := by
  rcases findAt_cases L (joinB p n) with ⟨e, h⟩ | ⟨i, hi, e, h⟩
  · refine .inl ⟨by omega, fun hm => ?_⟩
    obtain ⟨_, x, hx, e2⟩ := (mem_kids ok p n).1 hm
    exact h x hx e2
  · exact .inr ⟨by omega, (mem_kids ok p n).2 ⟨hn, L[i], List.getElem_mem hi, h⟩, .inr ⟨i, hi, e, h⟩⟩
def errK : Nat → Nat := fun c => c - 1
def FindDone (a : Nat → Addr) (L : List It) (blk : ByteArray → Nat) (ns : List ByteArray) (v : Value) : Prop :=
  ((findF L ⟨#[]⟩ (-1) ns).2 = 0 ∧ v = .tuple #[.pointer (some ⟨blk (pathOf ns), 0, none⟩), .nilIface] ∧ Stands L (pathOf ns) (findF L ⟨#[]⟩ (-1) ns).1) ∨
  ((findF L ⟨#[]⟩ (-1) ns).2 = 6 ∧ v = .tuple #[.pointer none, errV a 5]) ∨ ((findF L ⟨#[]⟩ (-1) ns).2 = 7 ∧ v = .tuple #[.pointer none, errV a 6])
theorem pathOf_take (ns : List ByteArray) (i : Nat) (h : i < ns.length) : pathOf (ns.take (i + 1)) = joinB (pathOf (ns.take i)) ns[i] := by
  rw [List.take_succ_eq_append_getElem h, pathOf_snoc]
theorem drop_get (ns : List ByteArray) (i : Nat) (h : i < ns.length) : ns.drop i = ns[i] :: ns.drop (i + 1) := List.drop_eq_getElem_cons h
set_option maxRecDepth 100000 in
set_option maxHeartbeats 2000000 in
theorem devFind_any {w : World} {L : List It} {blk mblk : ByteArray → Nat} (h : TreeAt w L blk mblk) (ok : TreeOk L) (a : Nat → Addr) (ns : List ByteArray) (v : Value) (hv : StrsAt w v ns) (hns : ∀ n ∈ ns, isName (textOf n) = true) (hl : ns.length ≤ 100)
    (h5 : w.cell? ⟨5, 0, none⟩ = some (errV a 5)) (h6 : w.cell? ⟨6, 0, none⟩ = some (errV a 6)) :
    Calls Tryz.prog 161 #[.pointer (some ⟨blk ⟨#[]⟩, 0, none⟩), v] w fun e w' => ∃ r, e = .returned r ∧ FindDone a L blk ns r ∧ Below w.heap.size w w' := by
  obtain ⟨ag, g, cap, rfl, hcap, hag, hcell⟩ := hv
  have HD : Hid _ := hcell
  have HG : Hid _ := hag
  have HN : Hid _ := hns
  clear hcell hag hns
  go_enter Tryz.func161, Tryz.ntmps161
  go_wp2
  go_loopw [6, 14] (fun nv iv wr => w = wr ∧ ∃ (i : Nat) (at' : Int), i ≤ ns.length ∧ iv = .int .i64 i ∧ nv = .pointer (some ⟨blk (pathOf (ns.take i)), 0, none⟩) ∧ Stands L (pathOf (ns.take i)) at' ∧ findF L ⟨#[]⟩ (-1) ns = findF L (pathOf (ns.take i)) at' (ns.drop i)) (fun _ iv _ => ns.length - (intOf iv).toNat)
  case atStart => exact ⟨rfl, 0, -1, Nat.zero_le _, rfl, rfl, .inl ⟨rfl, rfl⟩, rfl⟩
  case round =>
    obtain ⟨rfl, i, at', hi, rfl, rfl, hst, hF⟩ := hrel
    by_cases hlt : i < ns.length
    · have i1 : (i : Int) < (ns.length : Int) := by omega
      have hg := HG.out (by omega)
      subst hg
      have hc1 : w.cell? ⟨g, i, none⟩ = some (.string ns[i]) := HD.out i _ (by rw [strs_get _ _ hlt, List.getD_eq_getElem?_getD, List.getElem?_eq_getElem hlt]; rfl)
      have hname := HN.out ns[i] (List.getElem_mem hlt)
      rw [drop_get ns i hlt, findF] at hF
      rcases stands_dir ok hst with ⟨ha, hda, x, hx, hxp, hxd⟩ | ⟨hnd, hdir⟩
      · have cm := (h.file x hx hxd).1
        rw [hxp] at cm
        have cD := devIsDir_any _ _ w cm
        rw [if_pos ⟨ha, hda⟩] at hF
        have HF : Hid _ := hF
        clear hF
        go_wp2_with (go_at_call 162; refine cD.mono ?_; rintro e w' ⟨rfl, rfl⟩)
        go_region
        go_wp2
        refine bodyPost_ret (results_tmp2 rfl _ _ _) rfl ?_
        refine ⟨_, rfl, .inr (.inr ⟨by rw [HF.out], rfl⟩), (Below.refl _ _).drew⟩
      · obtain ⟨cm, _, hdr⟩ := h.dir _ hdir
        have cD := devIsDir_any _ _ w cm
        rw [if_neg hnd] at hF
        obtain ⟨nv, hlook, hyes, hno⟩ := hdr.look ns[i] (by have := name_size hname; omega)
        rcases stands_next ok hname with ⟨hneg, hk⟩ | ⟨hpos, hk, hst2⟩
        · rw [if_pos hneg] at hF
          rw [(hasKid_not L _ _).2 hk] at hlook
          have HF : Hid _ := hF
          have hnv := hno hk
          subst hnv
          clear hF hyes hno
          go_wp2_with (go_at_call 162; refine cD.mono ?_; rintro e w' ⟨rfl, rfl⟩)
          go_region
          go_wp2
          refine bodyPost_ret (results_tmp2 rfl _ _ _) rfl ?_
          refine ⟨_, rfl, .inr (.inl ⟨by rw [HF.out], rfl⟩), (Below.refl _ _).drew⟩
        · rw [if_neg hpos] at hF
          rw [(hasKid_iff L _ _).2 hk] at hlook
          have hnv := hyes hk
          subst hnv
          rw [← pathOf_take ns i hlt] at hlook hst2 hF
          have HF : Hid _ := hF
          have HS : Hid _ := hst2
          clear hF hyes hno hst2
          go_wp2_with (go_at_call 162; refine cD.mono ?_; rintro e w' ⟨rfl, rfl⟩)
          exact ⟨⟨trivial, i + 1, _, by omega, by go_num, rfl, HS.out, HF.out⟩, by simp [intOf]; omega⟩
    · have ei : i = ns.length := by omega
      have i1 : ¬ (i : Int) < (ns.length : Int) := by omega
      subst ei
      rw [List.drop_length, List.take_length, findF] at hF
      rw [List.take_length] at hst
      have e1 : Hid (ns.take ns.length = ns) := List.take_length
      have HF : Hid _ := hF
      have HS : Hid _ := hst
      clear hF hst
      go_wp2
      refine bodyPost_ret (results_tmp2 rfl _ _ _) rfl ?_
      refine ⟨_, rfl, .inl ⟨by rw [HF.out], rfl, by rw [HF.out]; exact HS.out⟩, Below.refl _ _⟩
end Go.Proofs.YtdidjdoifpfmmaaGreatDoor
/- The program's node.above, below. -/
namespace Go.Proofs.YtdidjdoifpfmmaaGreatDoor
open Go.RowKit
theorem findF_stands {L : List It} : ∀ (ns : List ByteArray) (p : ByteArray) (a : Int), Stands L p a → (findF L p a ns).2 = 0 → Stands L (ns.foldl joinB p) (findF L p a ns).1 := by
  intro ns
  induction ns with
  | nil => intro p a h _; exact h
  | cons n ns ih =>
    intro p a h h0
    unfold findF at h0 ⊢
    split at h0
    · cases h0
    · rename_i h1
      rw [if_neg h1]
      split at h0
      · cases h0
      · rename_i h2
        rw [if_neg h2, List.foldl_cons]
        refine ih _ _ ?_ h0
        rcases findAt_cases L (joinB p n) with ⟨e, _⟩ | ⟨i, hi, e, he⟩
        · omega
        · exact .inr ⟨i, hi, e, he⟩
theorem findF_three {L : List It} : ∀ (ns : List ByteArray) (p : ByteArray) (a : Int), (findF L p a ns).2 = 0 ∨ (findF L p a ns).2 = 6 ∨ (findF L p a ns).2 = 7 := by
  intro ns
  induction ns with
  | nil => intro p a; exact .inl rfl
  | cons n ns ih =>
    intro p a
    unfold findF
    split
    · exact .inr (.inr rfl)
    · split
      · exact .inr (.inl rfl)
      · exact ih _ _
section
variable {w : World} {L : List It} {blk mblk : ByteArray → Nat}
theorem devFind_ok (h : TreeAt w L blk mblk) (ok : TreeOk L) (a : Nat → Addr) (ns : List ByteArray) (v : Value) (hv : StrsAt w v ns) (hns : ∀ n ∈ ns, isName (textOf n) = true) (hl : ns.length ≤ 100)
    (h5 : w.cell? ⟨5, 0, none⟩ = some (errV a 5)) (h6 : w.cell? ⟨6, 0, none⟩ = some (errV a 6)) (h0 : (findF L ⟨#[]⟩ (-1) ns).2 = 0) :
    Calls Tryz.prog 161 #[.pointer (some ⟨blk ⟨#[]⟩, 0, none⟩), v] w fun e w' => e = .returned (.tuple #[.pointer (some ⟨blk (pathOf ns), 0, none⟩), .nilIface]) ∧ Below w.heap.size w w' := by
  refine (devFind_any h ok a ns v hv hns hl h5 h6).mono ?_
  rintro e w' ⟨r, rfl, hd | hd | hd, hb⟩
  · exact ⟨by rw [hd.2.1], hb⟩
  · have := hd.1; omega
  · have := hd.1; omega
theorem devFind_err (h : TreeAt w L blk mblk) (ok : TreeOk L) (a : Nat → Addr) (ns : List ByteArray) (v : Value) (hv : StrsAt w v ns) (hns : ∀ n ∈ ns, isName (textOf n) = true) (hl : ns.length ≤ 100)
    (h5 : w.cell? ⟨5, 0, none⟩ = some (errV a 5)) (h6 : w.cell? ⟨6, 0, none⟩ = some (errV a 6)) (h0 : (findF L ⟨#[]⟩ (-1) ns).2 ≠ 0) :
    Calls Tryz.prog 161 #[.pointer (some ⟨blk ⟨#[]⟩, 0, none⟩), v] w fun e w' => e = .returned (.tuple #[.pointer none, errV a ((findF L ⟨#[]⟩ (-1) ns).2 - 1)]) ∧ Below w.heap.size w w' := by
  refine (devFind_any h ok a ns v hv hns hl h5 h6).mono ?_
  rintro e w' ⟨r, rfl, hd | hd | hd, hb⟩
  · exact absurd hd.1 h0
  · exact ⟨by rw [hd.2, hd.1], hb⟩
  · exact ⟨by rw [hd.2, hd.1], hb⟩
end
/-- May something stand at a path, by the names of it: 0, or a reason. -/
def spotN (L : List It) (ns : List ByteArray) : Nat :=
  if (findF L ⟨#[]⟩ (-1) (ns.take (ns.length - 1))).2 ≠ 0 then (findF L ⟨#[]⟩ (-1) (ns.take (ns.length - 1))).2
  else if 0 ≤ (findF L ⟨#[]⟩ (-1) (ns.take (ns.length - 1))).1 ∧ dirAt L (findF L ⟨#[]⟩ (-1) (ns.take (ns.length - 1))).1 = false then 7 else 0
theorem spotOf_N (L : List It) (s : ByteArray) (h : (namesOf s).2 = true) (h0 : (namesOf s).1.length ≠ 0) : spotOf L s = spotN L (namesOf s).1 := by
  unfold spotOf spotN
  rw [if_neg (by rw [h]; simp; exact fun e => h0 (by rw [e]; rfl))]
theorem spotN_dir {L : List It} (ok : TreeOk L) (ns : List ByteArray) (h : spotN L ns = 0) : IsDir L (upJoin ns) := by
  unfold spotN at h
  split at h
  · rename_i h1; exact absurd h h1
  · rename_i h1
    split at h
    · cases h
    · rename_i h2
      have hs := findF_stands (L := L) (ns.take (ns.length - 1)) ⟨#[]⟩ (-1) (.inl ⟨rfl, rfl⟩) (Classical.not_not.1 h1)
      rcases stands_dir ok hs with ⟨ha, hb, _⟩ | ⟨_, hd⟩
      · exact absurd ⟨ha, hb⟩ h2
      · exact hd
theorem spotN_codes {L : List It} (ns : List ByteArray) : spotN L ns = 0 ∨ spotN L ns = 6 ∨ spotN L ns = 7 := by
  unfold spotN
  split
  · exact findF_three _ _ _
  · split
    · exact .inr (.inr rfl)
    · exact .inl rfl
section
variable {w : World} {L : List It} {blk mblk : ByteArray → Nat}
set_option maxRecDepth 100000 in
set_option maxHeartbeats 2000000 in
theorem devAbove_ok (h : TreeAt w L blk mblk) (ok : TreeOk L) (a : Nat → Addr) (ns : List ByteArray) (n : ByteArray) (hn : ns = ns.take (ns.length - 1) ++ [n]) (v : Value) (hv : StrsAt w v ns) (hns : ∀ n ∈ ns, isName (textOf n) = true) (hl : ns.length ≤ 100)
    (h5 : w.cell? ⟨5, 0, none⟩ = some (errV a 5)) (h6 : w.cell? ⟨6, 0, none⟩ = some (errV a 6)) (h0 : spotN L ns = 0) :
    Calls Tryz.prog 156 #[.pointer (some ⟨blk ⟨#[]⟩, 0, none⟩), v] w fun e w' => e = .returned (.tuple #[.pointer (some ⟨blk (upJoin ns), 0, none⟩), .string n, .nilIface]) ∧ Below w.heap.size w w' := by
  obtain ⟨m, hm⟩ : ∃ m, ns.length = m + 1 := ⟨ns.length - 1, by have := congrArg List.length hn; simp at this; omega⟩
  have hdir := spotN_dir ok ns h0
  obtain ⟨ag, g, cap, rfl, hcap, hag, hcell⟩ := hv
  have hg := hag (by omega)
  subst hg
  rw [hm] at hcap ⊢
  have hstr : StrsAt w (.slice (some ⟨g, 0, none⟩) m cap) (ns.take m) := strsAt_take hm ⟨_, g, cap, by rw [hm], by omega, fun _ => rfl, hcell⟩
  have hlast : w.cell? ⟨g, m, none⟩ = some (.string n) := by
    refine hcell m _ ?_
    rw [hn, strs, List.getElem?_map, hm, Nat.add_sub_cancel, List.getElem?_append_right (by simp [hm])]
    simp [hm]
  have hz : (findF L ⟨#[]⟩ (-1) (ns.take m)).2 = 0 := by
    unfold spotN at h0
    rw [hm, Nat.add_sub_cancel] at h0
    split at h0
    · rename_i h1; exact absurd h0 h1
    · rename_i h1; exact Classical.not_not.1 h1
  have cF := devFind_ok h ok a (ns.take m) _ hstr (fun x hx => hns x (List.mem_of_mem_take hx)) (by simp; omega) h5 h6 hz
  have eup : upJoin ns = pathOf (ns.take m) := by unfold upJoin pathOf; rw [hm, Nat.add_sub_cancel]
  rw [eup] at hdir ⊢
  obtain ⟨cm, _, _⟩ := h.dir _ hdir
  have HC : Hid _ := hcell
  clear hcell hag hn hns
  have hml : m ≤ 100 := by omega
  clear hl hm
  have hk : ((m + 1 : Nat) : Int) - 1 = (m : Nat) := by omega
  go_enter Tryz.func156, Tryz.ntmps156
  go_wp2_with (go_at_call 161; refine cF.mono ?_; rintro e w1 ⟨rfl, hb⟩)
  have cm1 : w1.cell? ⟨blk (pathOf (ns.take m)), 0, none⟩ = some (.map (some (mblk (pathOf (ns.take m))))) := by rw [hb.cell (World.block_lt_of_cell? _ _ cm)]; exact cm
  have hl1 : w1.cell? ⟨g, m, none⟩ = some (.string n) := by rw [hb.cell (World.block_lt_of_cell? _ _ hlast)]; exact hlast
  have cD := devIsDir_any _ _ w1 cm1
  go_wp2_with (go_at_call 162; refine cD.mono ?_; rintro e w' ⟨rfl, rfl⟩)
  go_region
  go_wp2
  refine bodyPost_ret (results_tmp3 rfl _ _ _) rfl ?_
  exact ⟨rfl, hb.drew⟩
set_option maxRecDepth 100000 in
set_option maxHeartbeats 2000000 in
theorem devAbove_err (h : TreeAt w L blk mblk) (ok : TreeOk L) (a : Nat → Addr) (ns : List ByteArray) (hpos : ns.length ≠ 0) (v : Value) (hv : StrsAt w v ns) (hns : ∀ n ∈ ns, isName (textOf n) = true) (hl : ns.length ≤ 100)
    (h5 : w.cell? ⟨5, 0, none⟩ = some (errV a 5)) (h6 : w.cell? ⟨6, 0, none⟩ = some (errV a 6)) (h0 : spotN L ns ≠ 0) :
    Calls Tryz.prog 156 #[.pointer (some ⟨blk ⟨#[]⟩, 0, none⟩), v] w fun e w' => e = .returned (.tuple #[.pointer none, .string ⟨#[]⟩, errV a (spotN L ns - 1)]) ∧ Below w.heap.size w w' := by
  obtain ⟨m, hm⟩ : ∃ m, ns.length = m + 1 := ⟨ns.length - 1, by omega⟩
  obtain ⟨ag, g, cap, rfl, hcap, hag, hcell⟩ := hv
  have hg := hag (by omega)
  subst hg
  have hstr : StrsAt w (.slice (some ⟨g, 0, none⟩) m cap) (ns.take m) := strsAt_take hm ⟨_, g, cap, by rw [hm], by omega, fun _ => rfl, hcell⟩
  rw [hm] at hcap ⊢
  have HS : Hid (spotN L ns = if (findF L ⟨#[]⟩ (-1) (ns.take m)).2 ≠ 0 then (findF L ⟨#[]⟩ (-1) (ns.take m)).2 else 7) := by
    show spotN L ns = _
    unfold spotN at h0 ⊢
    rw [hm, Nat.add_sub_cancel] at h0 ⊢
    split
    · rfl
    · rename_i h1
      rw [if_neg h1] at h0
      split
      · rfl
      · rename_i h2; rw [if_neg h2] at h0; exact absurd rfl h0
  clear hcell hag
  have hml : m ≤ 100 := by omega
  have hall : ∀ x ∈ ns.take m, isName (textOf x) = true := fun x hx => hns x (List.mem_of_mem_take hx)
  have hk : ((m + 1 : Nat) : Int) - 1 = (m : Nat) := by omega
  by_cases hz : (findF L ⟨#[]⟩ (-1) (ns.take m)).2 = 0
  · have cF := devFind_ok h ok a (ns.take m) _ hstr hall (by simp; omega) h5 h6 hz
    rw [if_neg (by simp [hz])] at HS
    have hst := findF_stands (L := L) (ns.take m) ⟨#[]⟩ (-1) (.inl ⟨rfl, rfl⟩) hz
    have hfile : ∃ x ∈ L, x.path = pathOf (ns.take m) ∧ x.dir = false := by
      rcases stands_dir ok hst with ⟨_, _, hx⟩ | ⟨hx, _⟩
      · exact hx
      · exfalso
        have := HS.out
        unfold spotN at this
        rw [hm, Nat.add_sub_cancel, if_neg (by simp [hz]), if_neg hx] at this
        cases this
    obtain ⟨x, hx, hxp, hxd⟩ := hfile
    have cm := (h.file x hx hxd).1
    rw [hxp] at cm
    clear hl hm hns hall hpos h0
    rw [HS.out]
    go_enter Tryz.func156, Tryz.ntmps156
    go_wp2_with (go_at_call 161; refine cF.mono ?_; rintro e w1 ⟨rfl, hb⟩)
    have cm1 : w1.cell? ⟨blk (pathOf (ns.take m)), 0, none⟩ = some (.map none) := by rw [hb.cell (World.block_lt_of_cell? _ _ cm)]; exact cm
    have h61 : w1.cell? ⟨6, 0, none⟩ = some (errV a 6) := by rw [hb.cell (World.block_lt_of_cell? _ _ h6)]; exact h6
    have cD := devIsDir_any _ _ w1 cm1
    go_wp2_with (go_at_call 162; refine cD.mono ?_; rintro e w' ⟨rfl, rfl⟩)
    go_region
    go_wp2
    refine bodyPost_ret (results_tmp3 rfl _ _ _) rfl ?_
    exact ⟨rfl, hb.drew⟩
  · have cF := devFind_err h ok a (ns.take m) _ hstr hall (by simp; omega) h5 h6 hz
    rw [if_pos hz] at HS
    rw [HS.out]
    clear HS
    generalize (findF L ⟨#[]⟩ (-1) (ns.take m)).2 - 1 = j at cF
    unfold errV at cF ⊢
    clear hl hm hns hall hpos h0 hz
    go_enter Tryz.func156, Tryz.ntmps156
    go_wp2_with (go_at_call 161; refine cF.mono ?_; rintro e w1 ⟨rfl, hb⟩)
    refine bodyPost_ret (results_tmp3 rfl _ _ _) rfl ?_
    exact ⟨rfl, hb⟩
end
end Go.Proofs.YtdidjdoifpfmmaaGreatDoor
/- The program's node.count. -/
namespace Go.Proofs.YtdidjdoifpfmmaaGreatDoor
open Go.RowKit
open Go.Proofs (encStr)
/-- What a directory's map holds is told by its keys: each entry of it is a kid, and leads to the kid's node. -/
theorem kid_of {L : List It} {p : ByteArray} {blk : ByteArray → Nat} {D : DataW Unit} (hh : ∀ k : ByteArray, Maps.has D (.string k.data.toList) = true ↔ k ∈ kidsFold p L)
    (ha : ∀ k ∈ kidsFold p L, ∀ z, D.atKey (.string k.data.toList) z = .lit (.int .i64 (blk (joinB p k) : Nat))) {x : List UInt8} {c : Option Addr} {y : DataW Unit × List MemPlace} (hv : nodeR (.pointer c) = some y) (hat : ∀ zd, D.atKey (.string x) zd = y.1) :
    (⟨x.toArray⟩ : ByteArray) ∈ kidsFold p L ∧ c = some ⟨blk (joinB p ⟨x.toArray⟩), 0, none⟩ := by
  have e1 : x = (⟨x.toArray⟩ : ByteArray).data.toList := by simp
  have hm : (⟨x.toArray⟩ : ByteArray) ∈ kidsFold p L := by
    rw [← hh, ← e1]
    exact Maps.has_true_of_atKey hat
  refine ⟨hm, ?_⟩
  have h1 := ha _ hm (.lit (.int .i64 0))
  rw [← e1, hat] at h1
  obtain ⟨y1, y2⟩ := y
  simp only at h1
  subst h1
  have := nodeR_inv hv
  simpa using this
/-- The sum over the keys that were met. -/
noncomputable def metSum (L : List It) (p : ByteArray) (ss : List (List UInt8)) : Nat := (ss.map fun x => cnt L (joinB p ⟨x.toArray⟩)).sum
theorem metSum_snoc (L : List It) (p : ByteArray) (ss : List (List UInt8)) (x : List UInt8) : metSum L p (ss ++ [x]) = metSum L p ss + cnt L (joinB p ⟨x.toArray⟩) := by simp [metSum]
theorem perm_sum {α : Type} (f : α → Nat) {l l' : List α} (h : l.Perm l') : (l.map f).sum = (l'.map f).sum := by
  induction h with
  | nil => rfl
  | cons x _ ih => simp only [List.map_cons, List.sum_cons, ih]
  | swap x y l => simp only [List.map_cons, List.sum_cons]; omega
  | trans _ _ h1 h2 => exact h1.trans h2
theorem metSum_all {L : List It} (ok : TreeOk L) (p : ByteArray) {ss : List (List UInt8)} (h : ss.Perm ((kidsFold p L).map fun k => k.data.toList)) : (kidsFold p L).length + metSum L p ss = cnt L p := by
  rw [cnt_kids ok p, sum_add]
  congr 1
  · generalize kidsFold p L = l
    induction l with
    | nil => rfl
    | cons y l ih => rw [List.map_cons, List.sum_cons, List.length_cons, ih]; omega
  · unfold metSum
    rw [perm_sum _ h, List.map_map]
    rfl
theorem cnt_le (L : List It) (p : ByteArray) : cnt L p ≤ L.length := by
  unfold cnt
  induction L with
  | nil => exact Nat.le_refl _
  | cons x L ih =>
    rw [List.map_cons, List.sum_cons, List.length_cons]
    have : ind (Under p x.path) ≤ 1 := by unfold ind; split <;> omega
    omega
theorem metSum_le {L : List It} (ok : TreeOk L) (p : ByteArray) (ss : List (List UInt8)) : metSum L p ss ≤ ss.length * 256 := by
  unfold metSum
  induction ss with
  | nil => exact Nat.le_refl _
  | cons x ss ih =>
    rw [List.map_cons, List.sum_cons, List.length_cons]
    have := cnt_le L (joinB p ⟨x.toArray⟩)
    have := ok.few
    omega
theorem kids_few {L : List It} (ok : TreeOk L) (p : ByteArray) : (kidsFold p L).length ≤ 256 := by
  have h1 := metSum_all ok p (List.Perm.refl _)
  have h2 := cnt_le L p
  have h3 := ok.few
  omega
theorem nodup_len {α : Type} [DecidableEq α] : ∀ (l l' : List α), l.Nodup → (∀ x ∈ l, x ∈ l') → l.length ≤ l'.length := by
  intro l
  induction l with
  | nil => intro l' _ _; exact Nat.zero_le _
  | cons x l ih =>
    intro l' hn hs
    rw [List.nodup_cons] at hn
    have h1 := ih (l'.erase x) hn.2 (fun y hy => (List.mem_erase_of_ne (fun e => hn.1 (by rw [← e]; exact hy))).2 (hs y (by simp [hy])))
    have h2 := List.length_erase_of_mem (hs x (by simp))
    have h3 := List.length_pos_of_mem (hs x (by simp))
    rw [List.length_cons]
    omega
theorem collected_few {D : DataW Unit} {left : Go.Lit → Bool} {ss : List (List UInt8)} {p : ByteArray} {L : List It} (hh : ∀ k : ByteArray, Maps.has D (.string k.data.toList) = true ↔ k ∈ kidsFold p L) (h : Collected D left ss) (ok : TreeOk L) : ss.length ≤ 256 := by
  have h1 : ss.length ≤ ((kidsFold p L).map fun k => k.data.toList).length := by
    refine nodup_len _ _ h.1 ?_
    intro x hx
    have := ((h.2 x).1 hx).1
    rw [show x = (⟨x.toArray⟩ : ByteArray).data.toList by simp, hh] at this
    exact List.mem_map.2 ⟨_, this, by simp⟩
  rw [List.length_map] at h1
  have := kids_few ok p
  omega
theorem ranges_below {w w' : World} {b r n : Nat} {D : DataW Unit} {left : Go.Lit → Bool} {c : Nat} (h : w.ranges Tryz.prog 9 nodeR b r n D left c) (hb : Below w.heap.size w w') : w'.ranges Tryz.prog 9 nodeR b r n D left c :=
  h.kept (row := none) ⟨hb.os, hb.tape, hb.output, hb.size, fun i hi _ => hb.block i hi⟩ (by simp) (by simp)
theorem below_iter {B : Nat} {w w1 w2 : World} {r : Nat} (hb : Below B w w1) (hg : w1.grownBy w2 (some r)) (hr : B ≤ r) (hB : B ≤ w1.heap.size) : Below B w w2 :=
  ⟨hg.os.trans hb.os, hg.tape.trans hb.tape, hg.output.trans hb.output, Nat.le_trans hb.size hg.size, fun k hk => (hg.block k (by omega) (by simp; omega)).trans (hb.block k hk)⟩
set_option maxRecDepth 100000 in
set_option maxHeartbeats 2000000 in
theorem devCount_file (b : Nat) (w : World) (c0 : w.cell? ⟨b, 0, none⟩ = some (.map none)) :
    Calls Tryz.prog 157 #[.pointer (some ⟨b, 0, none⟩)] w fun e w' => e = .returned (.int .i64 0) ∧ Below w.heap.size w w' := by
  have hl : ∀ ty w, (Builtin.len_ #[175] ty #[.map none]).run Tryz.prog w = .ok (.int .i64 0) w := fun ty w => Maps.len_nil Tryz.underlying175 ty
  have hr : (Instr.range 175 (.map none)).run Tryz.prog w = _ := run_range_nilMap w _ _ _ Tryz.underlying175
  have hx : ∀ ty, (Instr.next (.pointer (some ⟨w.heap.size, 0, none⟩)) false ty).run Tryz.prog (w.alloc (.mapIter none 0 #[] 0)) = _ := fun ty => run_next_nilMap w ty 0 0 #[]
  go_enter Tryz.func157, Tryz.ntmps157
  go_wp2
  go_loopw [3] (fun nv wr => nv = .int .i64 0 ∧ wr = w.alloc (.mapIter none 0 #[] 0)) (fun _ _ => 0)
  case atStart => exact ⟨rfl, rfl⟩
  case round =>
    obtain ⟨rfl, rfl⟩ := hrel
    go_wp2
    go_ret
    exact ⟨rfl, (Below.refl _ w).alloc (Nat.le_refl _) _⟩
set_option maxRecDepth 100000 in
set_option maxHeartbeats 2000000 in
theorem devCount_any {L : List It} (ok : TreeOk L) {blk mblk : ByteArray → Nat} : ∀ (m : Nat) (p : ByteArray) (w : World), 300000 - p.size ≤ m → TreeAt w L blk mblk → (IsDir L p ∨ ∃ x ∈ L, x.path = p) →
    Calls Tryz.prog 157 #[.pointer (some ⟨blk p, 0, none⟩)] w fun e w' => e = .returned (.int .i64 (cnt L p : Nat)) ∧ Below w.heap.size w w' := by
  intro m
  induction m with
  | zero =>
    intro p w hm _ hp
    exfalso
    rcases hp with (rfl | ⟨y, hy, rfl, _⟩) | ⟨y, hy, rfl⟩
    · have h0 : (⟨#[]⟩ : ByteArray).size = 0 := rfl
      omega
    · have := ok.size y hy; omega
    · have := ok.size y hy; omega
  | succ m ih =>
    intro p w hm hT hp
    have hcase : IsDir L p ∨ ∃ x ∈ L, x.path = p ∧ x.dir = false := by
      rcases hp with hp | ⟨x, hx, e⟩
      · exact .inl hp
      · cases hd : x.dir
        · exact .inr ⟨x, hx, e, hd⟩
        · exact .inl (.inr ⟨x, hx, e, hd⟩)
    rcases hcase with hdir | ⟨x, hx, rfl, hd⟩
    · obtain ⟨c0, _, hdr⟩ := hT.dir p hdir
      have hlen := hdr.len ok
      obtain ⟨D, ho, hh, ha⟩ := hdr
      have hsz := dir_size ok ho hh
      have hfew := kids_few ok p
      have HH : Hid _ := hh
      have HA : Hid _ := ha
      have HZ : Hid _ := hsz
      have HI : Hid _ := ih
      clear hh ha hsz ih
      go_enter Tryz.func157, Tryz.ntmps157
      go_wp2_with (at_range; refine wpList_range_own _ rfl _ 175 rfl 9 111 strKeyed Tryz.underlying175 _ (mblk p) (Maps.size D) D rfl ho ?_; intro w0 hrg0 hg0 hs0)
      go_frame
      go_loopw [3] (fun nv wr => ∃ (left : Go.Lit → Bool) (c : Nat) (ss : List (List UInt8)), wr.ranges Tryz.prog 9 nodeR (mblk p) w.heap.size (Maps.size D) D left c ∧ Collected D left ss ∧ nv = .int .i64 (((kidsFold p L).length + metSum L p ss : Nat) : Int) ∧ Below w.heap.size w wr) (fun _ wr => wr.rangeLeft (mblk p) w.heap.size)
      case atStart => exact ⟨Maps.has D, Maps.size D, [], hrg0, Collected.start D, rfl, ⟨hg0.os, hg0.tape, hg0.output, hg0.size, fun k hk => hg0.block k hk (by simp)⟩⟩
      case round =>
        obtain ⟨left, c, ss, hrg, hC, rfl, hb⟩ := hrel
        have hsl := collected_few HH.out hC ok
        have hsum := metSum_le ok p ss
        have HC : Hid _ := hC
        clear hC
        go_wp2_with (at_next; refine wpList_next_ranges _ rfl _ rfl 9 strKeyed nodeR encStr Value.pointer (fun key kl hk => by obtain ⟨x, hx, _⟩ := Maps.keyOf_str Tryz.underlying9 hk; exact ⟨x, hx⟩) (fun v y hv => nodeR_ptr hv) (mblk p) w.heap.size (Maps.size D) D left c rfl hrg ?_ ?_)
        · intro h0 hl0
          have hall : Hid ((kidsFold p L).length + metSum L p ss = cnt L p) := metSum_all ok p ((Collected.perm HC.out ho strKeyed Tryz.underlying9 hl0).trans (kids_keys ok ho HH.out).symm)
          go_wp2
          go_ret
          exact ⟨ret_eq (congrArg (Value.int .i64) (by rw [← hall.out]; omega)), hb⟩
        · intro x cv kl y1 y2 w1 c1 hkey hlk hv hat hrg1 hlt1 hg1 hs1 hen
          obtain ⟨x', ex, rfl, hxl⟩ := Maps.keyOf_str Tryz.underlying9 hkey
          have ex' := encStr_inj ex
          subst ex'
          obtain ⟨hmem, rfl⟩ := kid_of (y := (y1, y2)) HH.out HA.out hv hat
          obtain ⟨hname, z, hz, hzp⟩ := (mem_kids ok p _).1 hmem
          have hsB := hb.size
          have hb1 : Below w.heap.size w w1 := below_iter hb hg1 (Nat.le_refl _) hsB
          have hT1 : TreeAt w1 L blk mblk := hT.below hb1
          have hgt := joinB_gt p _ hname
          have cR := HI.out (joinB p ⟨x.toArray⟩) w1 (by have := ok.size z hz; rw [hzp] at this; omega) hT1 (.inr ⟨z, hz, hzp⟩)
          have hcl := cnt_le L (joinB p ⟨x.toArray⟩)
          have hLf := ok.few
          have hst : Hid _ := Collected.step HC.out hlk hat
          have hsn : Hid _ := metSum_snoc L p ss x
          go_wp2_with (go_at_call 157; refine cR.mono ?_; rintro e w2 ⟨rfl, hb2⟩)
          have hrg2 := ranges_below hrg1 hb2
          refine ⟨⟨_, c1, ss ++ [x], hrg2, hst.out, ?_, hb1.trans (hb2.mono (by have := hb1.size; omega))⟩, ?_⟩
          · rw [hsn.out]
            go_num
          · rw [hrg2.left_eq, hrg.left_eq]
            omega
    · rw [cnt_file ok x hx hd]
      exact devCount_file _ w (hT.file x hx hd).1
end Go.Proofs.YtdidjdoifpfmmaaGreatDoor
/- Contracts of the library, laid at this program: made by tools/shelf.py ShelfClone Derived.Shelf.LaysM,Derived.Shelf.Strconv.Clone M316. -/
namespace Go.Proofs
open Go.Shelf
def Tryz.laysM316_ren : Go.Shelf.Ren := ⟨fun | 316 => 226 | n => n, fun | 9 => 9 | 3 => 3 | 4 => 4 | 37 => 124 | 0 => 0 | 127 => 397 | 5 => 5 | n => n, fun | n => n⟩
theorem Tryz.laysM316 : Go.Proofs.LaysM.n316 Tryz.prog Tryz.laysM316_ren := {
  mixed := by kernel_rfl
  f316 := Tryz.func226.trans (congrArg some (by kernel_rfl))
  t0 := Tryz.underlying0
  a0 := Tryz.isAgg0
  z0 := Tryz.sizeOf0
  v0 := Tryz.zeroValue0
  t3 := Tryz.underlying3
  a3 := Tryz.isAgg3
  z3 := Tryz.sizeOf3
  v3 := Tryz.zeroValue3
  t4 := Tryz.underlying4
  a4 := Tryz.isAgg4
  z4 := Tryz.sizeOf4
  v4 := Tryz.zeroValue4
  t9 := Tryz.underlying9
  a9 := Tryz.isAgg9
  z9 := Tryz.sizeOf9
  v9 := Tryz.zeroValue9
  t37 := Tryz.underlying124
  a37 := Tryz.isAgg124
  z37 := Tryz.sizeOf124
  v37 := Tryz.zeroValue124
  t127 := Tryz.underlying397
  a127 := Tryz.isAgg397
  z127 := Tryz.sizeOf397
  v127 := Tryz.zeroValue397
  t5 := Tryz.underlying5
  a5 := Tryz.isAgg5
  z5 := Tryz.sizeOf5
  v5 := Tryz.zeroValue5
  i0 := by kernel_rfl
  i3 := by kernel_rfl
  i4 := by kernel_rfl
  i5 := by kernel_rfl
  i9 := by kernel_rfl
  i37 := by kernel_rfl
  i127 := by kernel_rfl }
end Go.Proofs
