import Derived.Test.YtdidjdoifpfmmaaGreatDoorGT10
import Derived.Deep.AppendLies
import Derived.Deep.Cut
import Derived.Test.YtdidjdoifpfmmaaGreatDoorGT6
import Derived.Deep.RegionHeld3
import Derived.Laws.Runes
/- The document's Names: a path, taken apart. -/
namespace Go.Proofs.YtdidjdoifpfmmaaGreatDoor
open Go.RowKit
/-- The pieces between the signs '/', from place i on; the piece under way began at a. -/
def pieces (s : ByteArray) : Nat → Nat → Nat → List ByteArray
  | 0, _, _ => []
  | f + 1, a, i => if i < s.size ∧ (textOf s).getD i 0 ≠ 47 then pieces s f a (i + 1) else s.extract a i :: pieces s f (i + 1) (i + 1)
def piecesOf (s : ByteArray) : List ByteArray := pieces s (s.size + 1) 0 0
def allNames (L : List ByteArray) : Bool := L.all fun x => isName (textOf x)
/-- A path's names; may it be one? -/
def namesOf (s : ByteArray) : List ByteArray × Bool := if s = ⟨#[]⟩ then ([], true) else if allNames (piecesOf s) then (piecesOf s, decide ((piecesOf s).length ≤ 8)) else ([], false)
theorem getD_text (s : ByteArray) (k : Nat) (h : k < s.size) : (textOf s).getD k 0 = (s[k]).toNat := by
  rw [List.getD_eq_getElem?_getD, List.getElem?_eq_getElem (by rw [textOf_len]; exact h)]
  simp [textOf]
  rfl
theorem strInfoT : (Tryz.prog.info? 9).map (fun i => (i.zero, i.size, i.bytes)) = some (some (.string ByteArray.empty), 1, 16) := by kernel_rfl
theorem one_newT (W : World) (t : TypeId) (a : Value) : ∀ j u, [a][j]? = some u → (W.alloc (.cells #[a] t)).cell? ((⟨W.heap.size, 0, none⟩ : Addr).add j) = some u := by
  have := World.news_of_block (cs := #[a]) (t := t) (fr := (0, 0)) (heap_alloc_new W (.cells #[a] t))
  exact this
/-- The names that were made. -/
def NamesAt (w w' : World) (s : ByteArray) (v : Value) : Prop := w'.ownsRow w.heap.size 9 1 v (namesOf s).1.length (strs (namesOf s).1) ∧ Below w.heap.size w w'
theorem own_ge {w : World} {base : Nat} {e : TypeId} {size : Nat} {v : Value} {n : Nat} {xs : List Value} (h : w.ownsRow base e size v n xs) (g : Nat) (hg : v.ownBlock = some g) : base ≤ g := by
  rcases h.2 with ⟨hv, _⟩ | ⟨g', cap, cur, hv, hb, _⟩
  · rw [hv] at hg; simp [Value.ownBlock] at hg
  · rw [hv] at hg
    simp [Value.ownBlock] at hg
    omega
set_option maxRecDepth 100000 in
set_option maxHeartbeats 2000000 in
theorem refNames_any (s : ByteArray) (w : World) (hs : s.size ≤ 1000000) :
    Calls Tryz.prog 193 #[.string s] w fun e w' => ∃ v, e = .returned (.tuple #[v, .bool (namesOf s).2]) ∧ NamesAt w w' s v := by
  obtain ⟨i0, hi, hz0, hz1, hz2⟩ := info_parts strInfoT
  by_cases h0 : s = ⟨#[]⟩
  · have hn : Hid (namesOf s = ([], true)) := by show namesOf s = _; unfold namesOf; rw [if_pos h0]
    have he : s.toList.isEmpty = true := by rw [str_empty, decide_eq_true h0]
    go_enter Tryz.func193, Tryz.ntmps193
    go_wp2
    refine bodyPost_ret (results_tmp2 rfl _ _ _) rfl ?_
    refine ⟨_, by rw [hn.out]; rfl, ?_, Below.refl _ _⟩
    rw [hn.out]
    exact World.ownsRow_nil _ _ _ _
  · have he : s.toList.isEmpty = false := by rw [str_empty, decide_eq_false h0]
    have hy : Hid (allNames (piecesOf s) = true → namesOf s = (piecesOf s, decide ((piecesOf s).length ≤ 8))) := fun h => by unfold namesOf; rw [if_neg h0, if_pos h]
    have hno : Hid (allNames (piecesOf s) = false → namesOf s = ([], false)) := fun h => by unfold namesOf; rw [if_neg h0, if_neg (by simp [h])]
    go_enter Tryz.func193, Tryz.ntmps193
    go_wp2
    go_loopw [4, 5, 6] (fun lv fv iv wr => ∃ (a i : Nat) (done : List ByteArray) (al : Option Addr) (cl : Nat), lv = .slice al done.length cl ∧ a ≤ i ∧ i ≤ s.size + 1 ∧ (i ≤ s.size → a ≤ s.size) ∧ fv = .int .i64 a ∧ iv = .int .i64 i ∧ wr.ownsRow w.heap.size 9 1 (.slice al done.length cl) done.length (strs done) ∧ Below w.heap.size w wr ∧ allNames done = true ∧ piecesOf s = done ++ pieces s (s.size + 1 - i) a i ∧ done.length ≤ i) (fun _ _ iv _ => s.size + 1 - (intOf iv).toNat)
    case atStart => exact ⟨0, 0, [], none, 0, rfl, Nat.le_refl _, Nat.zero_le _, fun _ => Nat.zero_le _, rfl, rfl, World.ownsRow_nil _ _ _ _, Below.refl _ _, rfl, rfl, Nat.le_refl _⟩
    case round =>
      obtain ⟨a, i, done, al, cl, rfl, hai, hi1, ha1, rfl, rfl, ho, hb, hall, hp, hdl⟩ := hrel
      by_cases hle : i ≤ s.size
      · have hf1 : s.size + 1 - i = (s.size - i) + 1 := by omega
        rw [hf1, pieces] at hp
        have i1 : (i : Int) ≤ (s.size : Int) := by omega
        have hxs : (s.extract a i).size ≤ 1000000 := by rw [ByteArray.size_extract]; omega
        have hN := refName_any (s.extract a i) wr hxs
        by_cases hlt : i < s.size
        · have i2 : (i : Int) < (s.size : Int) := by omega
          by_cases hne : (textOf s).getD i 0 ≠ 47
          · rw [if_pos ⟨hlt, hne⟩] at hp
            rw [getD_text s i hlt] at hne
            have hc : ((s[i].toNat : Int) != 47) = true := by simp; omega
            have HP : Hid _ := hp
            have HO : Hid (wr.ownsRow w.heap.size 9 1 (.slice al done.length cl) done.length (strs done)) := ho
            clear hp ho hN
            go_wp2
            refine ⟨⟨a, i + 1, done, al, cl, rfl, by omega, by omega, fun _ => ha1 hle, by go_num, by go_num, HO.out, hb, hall, ?_, by omega⟩, by simp [intOf]; omega⟩
            rw [HP.out, show s.size + 1 - (i + 1) = s.size - i by omega]
          · rw [if_neg (fun h => hne h.2)] at hp
            have hne' : (textOf s).getD i 0 = 47 := by omega
            rw [getD_text s i hlt] at hne'
            have hc : ((s[i].toNat : Int) != 47) = false := by simp; omega
            have HP : Hid _ := hp
            have HO : Hid (wr.ownsRow w.heap.size 9 1 (.slice al done.length cl) done.length (strs done)) := ho
            have ai : (a : Int) ≤ (i : Int) := by omega
            clear hp ho
            cases hq : isName (textOf (s.extract a i))
            · rw [hq] at hN
              have hbad : allNames (piecesOf s) = false := by rw [HP.out]; unfold allNames; rw [List.all_append, List.all_cons, hq]; simp
              go_wp2_with (go_at_call 256; refine hN.mono ?_; rintro e w2 ⟨rfl, rfl⟩)
              refine bodyPost_ret (results_tmp2 rfl _ _ _) rfl ?_
              refine ⟨_, by rw [hno.out hbad]; rfl, ?_, hb⟩
              rw [hno.out hbad]
              exact World.ownsRow_nil _ _ _ _
            · rw [hq] at hN
              have hgood : allNames (done ++ [s.extract a i]) = true := by unfold allNames; rw [List.all_append, show done.all (fun x => isName (textOf x)) = true from hall]; simp [hq]
              go_wp2_with (first
                | (go_at_call 256; refine hN.mono ?_; rintro e w2 ⟨rfl, rfl⟩)
                | (at_builtin; refine wpList_append_lies _ rfl _ _ 35 rfl w.heap.size 9 i0 (.string ByteArray.empty) 1 16 Tryz.underlying35 hi hz0 hz1 hz2 rfl (by decide) (.slice al done.length cl) done.length (strs done) rfl (World.ownsRow.alloc HO.out _) ⟨wr.heap.size, 0, none⟩ 1 1 [.string (s.extract a i)] rfl rfl (one_newT _ _ _) (by intro u hu; simp at hu; subst hu; rfl) (by decide) (by unfold maxLen; omega) (by omega) (by have := hb.size; simp; omega) (wr.heap.size + 1) (by simp) ?_; intro g cap w3 hown hgrow hat hlt3))
              refine ⟨⟨i + 1, i + 1, done ++ [s.extract a i], some ⟨g, 0, none⟩, cap, by simp, Nat.le_refl _, by omega, fun h => h, by go_num, by go_num, ?_, ?_, hgood, ?_, by simp; omega⟩, by simp [intOf]; omega⟩
              · rw [List.length_append, List.length_singleton, ← strs_snoc]; exact hown
              · refine ⟨hgrow.os.trans hb.os, hgrow.tape.trans hb.tape, hgrow.output.trans hb.output, by have h1 := hb.size; have h2 := hgrow.size; simp at h2; omega, fun n hn => ?_⟩
                have hsz := hb.size
                rw [hgrow.block n (by simp; omega) (fun e => ?_), heap_alloc_old _ _ (by omega), hb.block n hn]
                have := own_ge HO.out n e.symm
                omega
              · rw [HP.out, List.append_assoc, show s.size + 1 - (i + 1) = s.size - i by omega]; rfl
        · rw [if_neg (fun h => hlt h.1)] at hp
          have i2 : ¬ (i : Int) < (s.size : Int) := by omega
          have HP : Hid _ := hp
          have HO : Hid (wr.ownsRow w.heap.size 9 1 (.slice al done.length cl) done.length (strs done)) := ho
          have ai : (a : Int) ≤ (i : Int) := by omega
          clear hp ho
          cases hq : isName (textOf (s.extract a i))
          · rw [hq] at hN
            have hbad : allNames (piecesOf s) = false := by rw [HP.out]; unfold allNames; rw [List.all_append, List.all_cons, hq]; simp
            go_wp2_with (go_at_call 256; refine hN.mono ?_; rintro e w2 ⟨rfl, rfl⟩)
            refine bodyPost_ret (results_tmp2 rfl _ _ _) rfl ?_
            refine ⟨_, by rw [hno.out hbad]; rfl, ?_, hb⟩
            rw [hno.out hbad]
            exact World.ownsRow_nil _ _ _ _
          · rw [hq] at hN
            have hgood : allNames (done ++ [s.extract a i]) = true := by unfold allNames; rw [List.all_append, show done.all (fun x => isName (textOf x)) = true from hall]; simp [hq]
            go_wp2_with (first
              | (go_at_call 256; refine hN.mono ?_; rintro e w2 ⟨rfl, rfl⟩)
              | (at_builtin; refine wpList_append_lies _ rfl _ _ 35 rfl w.heap.size 9 i0 (.string ByteArray.empty) 1 16 Tryz.underlying35 hi hz0 hz1 hz2 rfl (by decide) (.slice al done.length cl) done.length (strs done) rfl (World.ownsRow.alloc HO.out _) ⟨wr.heap.size, 0, none⟩ 1 1 [.string (s.extract a i)] rfl rfl (one_newT _ _ _) (by intro u hu; simp at hu; subst hu; rfl) (by decide) (by unfold maxLen; omega) (by omega) (by have := hb.size; simp; omega) (wr.heap.size + 1) (by simp) ?_; intro g cap w3 hown hgrow hat hlt3))
            refine ⟨⟨i + 1, i + 1, done ++ [s.extract a i], some ⟨g, 0, none⟩, cap, by simp, Nat.le_refl _, by omega, fun h => h, by go_num, by go_num, ?_, ?_, hgood, ?_, by simp; omega⟩, by simp [intOf]; omega⟩
            · rw [List.length_append, List.length_singleton, ← strs_snoc]; exact hown
            · refine ⟨hgrow.os.trans hb.os, hgrow.tape.trans hb.tape, hgrow.output.trans hb.output, by have h1 := hb.size; have h2 := hgrow.size; simp at h2; omega, fun n hn => ?_⟩
              have hsz := hb.size
              rw [hgrow.block n (by simp; omega) (fun e => ?_), heap_alloc_old _ _ (by omega), hb.block n hn]
              have := own_ge HO.out n e.symm
              omega
            · rw [HP.out, List.append_assoc, show s.size + 1 - (i + 1) = s.size - i by omega]; rfl
      · have ei : s.size + 1 - i = 0 := by omega
        rw [ei, pieces, List.append_nil] at hp
        have i1 : ¬ (i : Int) ≤ (s.size : Int) := by omega
        have hgood : allNames (piecesOf s) = true := by rw [hp]; exact hall
        have HN := hy.out hgood
        rw [hp] at HN
        have HM : Hid _ := HN
        have HO : Hid (wr.ownsRow w.heap.size 9 1 (.slice al done.length cl) done.length (strs done)) := ho
        clear HN hp ho hy hno
        go_wp2
        refine bodyPost_ret (results_tmp2 rfl _ _ _) rfl ?_
        refine ⟨.slice al done.length cl, ?_, ?_, hb⟩
        · rw [HM.out]
          refine ret_eq ?_
          show Value.tuple #[.slice al done.length cl, .bool (decide ((done.length : Int) ≤ 8))] = Value.tuple #[.slice al done.length cl, .bool (decide (done.length ≤ 8))]
          rw [show decide ((done.length : Int) ≤ 8) = decide (done.length ≤ 8) from decide_eq_decide.2 (by omega)]
        rw [HM.out]
        exact HO.out
end Go.Proofs.YtdidjdoifpfmmaaGreatDoor
/- The document's Kids: its two inner loops. -/
namespace Go.Proofs.YtdidjdoifpfmmaaGreatDoor
open Go.RowKit
noncomputable def kidsCode : Code := Tryz.f197.body.getD .skip
noncomputable def kidsRound : Code := inC (inC (sndC (fstC (sndC (sndC kidsCode)))))
noncomputable def kidsBody : Code := inC (fstC (sndC kidsRound))
noncomputable def kidsCut : Code := fstC (sndC (sndC kidsBody))
noncomputable def kidsRest : Code := sndC (sndC (sndC kidsBody))
noncomputable def kidsSort : Code := sndC (sndC (sndC (sndC kidsRest)))
/-- The place of the last '/' among the first k signs; -1: none. -/
def cutTo (s : ByteArray) : Nat → Int
  | 0 => -1
  | k + 1 => if (textOf s).getD k 0 = 47 then (k : Nat) else cutTo s k
set_option maxRecDepth 100000 in
set_option maxHeartbeats 2000000 in
theorem kidsCut_any {x0 x1 x2 x3 x4 x5 x6 x9 x10 x11 x12 x13 x14 x15 x16 x17 x18 x19 x20 x21 x22 x23 x24 x25 x26 x27 x28 x29 x30 x31 x32 x33 x34 x35 x36 x37 x38 x39 x40 x41 x42 x43 x44 x45 x46 x47 x48 x49 x50 x51 x52 x53 x54 x55 x56 x57 x58 x59 x60 x61 x62 x63 x64 x65 x66 x67 x68 x69 x70 x71 x72 x73 x74 x75 x76 x77 x78 x79 x80 x81 x82 x83 x84 x85 x86 : Value} (s : ByteArray) (hs : s.size ≤ 1000000) (w : World) (R : Act → World → Prop)
    (hQ : Hid (∀ (y9 y24 y25 y26 y27 y28 y29 y30 y31 y32 y33 y34 : Value), R ⟨#[x0, x1, x2, x3, x4, x5, x6, .string s, .int .i64 (cutTo s s.size), y9, x10, x11, x12, x13, x14, x15, x16, x17, x18, x19, x20, x21, x22, x23, y24, y25, y26, y27, y28, y29, y30, y31, y32, y33, y34, x35, x36, x37, x38, x39, x40, x41, x42, x43, x44, x45, x46, x47, x48, x49, x50, x51, x52, x53, x54, x55, x56, x57, x58, x59, x60, x61, x62, x63, x64, x65, x66, x67, x68, x69, x70, x71, x72, x73, x74, x75, x76, x77, x78, x79, x80, x81, x82, x83, x84, x85, x86], []⟩ w)) :
    Code.wp Tryz.prog kidsCut (At R) ⟨#[x0, x1, x2, x3, x4, x5, x6, .string s, .int .i64 (-1), x9, x10, x11, x12, x13, x14, x15, x16, x17, x18, x19, x20, x21, x22, x23, x24, x25, x26, x27, x28, x29, x30, x31, x32, x33, x34, x35, x36, x37, x38, x39, x40, x41, x42, x43, x44, x45, x46, x47, x48, x49, x50, x51, x52, x53, x54, x55, x56, x57, x58, x59, x60, x61, x62, x63, x64, x65, x66, x67, x68, x69, x70, x71, x72, x73, x74, x75, x76, x77, x78, x79, x80, x81, x82, x83, x84, x85, x86], []⟩ w := by
  conv => arg 2; whnf
  refine seq_at ?_
  go_wp2
  show Code.wp _ _ _ _ _
  refine wp_block ?_
  go_loopw [8, 9] (fun c i wr => wr = w ∧ ∃ k : Nat, k ≤ s.size ∧ i = .int .i64 k ∧ c = .int .i64 (cutTo s k)) (fun _ i _ => s.size - (intOf i).toNat)
  case atStart => exact ⟨rfl, 0, Nat.zero_le _, rfl, rfl⟩
  case round =>
    obtain ⟨rfl, k, hk, rfl, rfl⟩ := hrel
    by_cases hlt : k < s.size
    · have i2 : (k : Int) < (s.size : Int) := by omega
      have hst : Hid (cutTo s (k + 1) = if (s[k]).toNat = 47 then ((k : Nat) : Int) else cutTo s k) := by show cutTo s (k + 1) = _; rw [cutTo, getD_text s k hlt]
      by_cases hc : (s[k]).toNat = 47
      · rw [if_pos hc] at hst
        have hb : ((s[k].toNat : Int) == 47) = true := by simp; omega
        go_wp2
        exact ⟨⟨trivial, k + 1, by omega, by go_num, by rw [hst.out]⟩, by simp [intOf]; omega⟩
      · rw [if_neg hc] at hst
        have hb : ((s[k].toNat : Int) == 47) = false := by simp; omega
        go_wp2
        exact ⟨⟨trivial, k + 1, by omega, by go_num, by rw [hst.out]⟩, by simp [intOf]; omega⟩
    · have ek : k = s.size := by omega
      have i2 : ¬ (k : Int) < (s.size : Int) := by omega
      subst ek
      go_wp2
      exact hQ.out _ _ _ _ _ _ _ _ _ _ _ _
/-- Is a text ahead of another, by bytes? -/
def lessB (a b : ByteArray) : Bool := Op.bytesLess a.toList b.toList
/-- Where a name comes in, gone through from the end. -/
def placeF (lst : List ByteArray) (x : ByteArray) : Nat → Nat
  | 0 => 0
  | m + 1 => if lessB x (lst.getD m ByteArray.empty) then placeF lst x m else m + 1
def insB (lst : List ByteArray) (x : ByteArray) : List ByteArray := lst.take (placeF lst x lst.length) ++ x :: lst.drop (placeF lst x lst.length)
theorem take_drop_get (lst : List ByteArray) (x : ByteArray) (k : Nat) (hk : k ≤ lst.length) : (lst.take k ++ x :: lst.drop k).getD k ByteArray.empty = x := by
  rw [List.getD_eq_getElem?_getD, List.getElem?_append_right (by simp; omega)]
  simp [Nat.min_eq_left hk]
theorem take_drop_prev (lst : List ByteArray) (x : ByteArray) (k : Nat) (hk : k < lst.length) : (lst.take (k + 1) ++ x :: lst.drop (k + 1)).getD k ByteArray.empty = lst.getD k ByteArray.empty := by
  rw [List.getD_eq_getElem?_getD, List.getD_eq_getElem?_getD, List.getElem?_append_left (by simp; omega), List.getElem?_take_of_lt (by omega)]
theorem take_drop_swap (lst : List ByteArray) (x : ByteArray) (k : Nat) (hk : k < lst.length) : ((lst.take (k + 1) ++ x :: lst.drop (k + 1)).set (k + 1) (lst.getD k ByteArray.empty)).set k x = lst.take k ++ x :: lst.drop k := by
  apply List.ext_getElem?
  intro i
  have hl : (lst.take (k + 1)).length = k + 1 := by simp; omega
  have hl2 : (lst.take k).length = k := by simp; omega
  by_cases h1 : i = k
  · subst h1
    rw [List.getElem?_set_self (by simp; omega), List.getElem?_append_right (by omega), hl2]
    simp
  · rw [List.getElem?_set_ne (fun e => h1 e.symm)]
    by_cases h2 : i = k + 1
    · subst h2
      rw [List.getElem?_set_self (by simp; omega), List.getElem?_append_right (by omega), hl2, show k + 1 - k = 0 + 1 by omega, List.getElem?_cons_succ, List.getElem?_drop]
      simp [List.getD_eq_getElem?_getD, hk]
    · rw [List.getElem?_set_ne (fun e => h2 e.symm)]
      rcases Nat.lt_or_ge i k with h3 | h3
      · rw [List.getElem?_append_left (by omega), List.getElem?_append_left (by omega), List.getElem?_take_of_lt (by omega), List.getElem?_take_of_lt h3]
      · rw [List.getElem?_append_right (by omega), List.getElem?_append_right (by omega), hl, hl2, show i - (k + 1) = (i - k - 2) + 1 by omega, show i - k = (i - k - 1) + 1 by omega, List.getElem?_cons_succ, List.getElem?_cons_succ, List.getElem?_drop, List.getElem?_drop]
        congr 1
        omega
set_option maxRecDepth 100000 in
set_option maxHeartbeats 2000000 in
theorem kidsSort_any {x0 x1 x2 x3 x4 x6 x7 x8 x9 x10 x11 x12 x13 x14 x15 x16 x17 x18 x19 x20 x21 x22 x23 x24 x25 x26 x27 x28 x29 x30 x31 x32 x33 x34 x35 x36 x37 x38 x39 x40 x41 x42 x43 x44 x45 x46 x47 x48 x49 x50 x51 x52 x53 x54 x55 x56 x57 x58 x59 x60 x61 x62 x63 x64 x65 x66 x67 x68 x69 x70 x71 x72 x73 x74 x75 x76 x77 x78 x79 x80 x81 x82 x83 x84 x85 x86 : Value} (lst : List ByteArray) (x : ByteArray) (g cap : Nat) (n : Nat) (hn : n = lst.length + 1) (hl : n ≤ 100000) (w : World) (h : Has w g 9 cap 1 (strs (lst ++ [x]))) (R : Act → World → Prop)
    (hQ : Hid (∀ (y11 y12 y50 y51 y52 y53 y54 y55 y56 y57 y58 y59 y60 y61 y62 y63 y64 y65 y66 y67 y68 y69 y70 y71 y72 y73 y74 y75 y76 y77 y78 y79 y80 y81 y82 y83 y84 y85 : Value) (w' : World), Has w' g 9 cap 1 (strs (insB lst x)) → Fr w w' [g] → R ⟨#[x0, x1, x2, x3, x4, .slice (some ⟨g, 0, none⟩) n cap, x6, x7, x8, x9, x10, y11, y12, x13, x14, x15, x16, x17, x18, x19, x20, x21, x22, x23, x24, x25, x26, x27, x28, x29, x30, x31, x32, x33, x34, x35, x36, x37, x38, x39, x40, x41, x42, x43, x44, x45, x46, x47, x48, x49, y50, y51, y52, y53, y54, y55, y56, y57, y58, y59, y60, y61, y62, y63, y64, y65, y66, y67, y68, y69, y70, y71, y72, y73, y74, y75, y76, y77, y78, y79, y80, y81, y82, y83, y84, y85, x86], []⟩ w')) :
    Code.wp Tryz.prog kidsSort (At R) ⟨#[x0, x1, x2, x3, x4, .slice (some ⟨g, 0, none⟩) n cap, x6, x7, x8, x9, x10, x11, x12, x13, x14, x15, x16, x17, x18, x19, x20, x21, x22, x23, x24, x25, x26, x27, x28, x29, x30, x31, x32, x33, x34, x35, x36, x37, x38, x39, x40, x41, x42, x43, x44, x45, x46, x47, x48, x49, x50, x51, x52, x53, x54, x55, x56, x57, x58, x59, x60, x61, x62, x63, x64, x65, x66, x67, x68, x69, x70, x71, x72, x73, x74, x75, x76, x77, x78, x79, x80, x81, x82, x83, x84, x85, x86], []⟩ w := by
  conv => arg 2; whnf
  have HN : Hid (n = lst.length + 1) := hn
  have n0 : (1 : Int) ≤ (n : Int) := by omega
  clear hn
  refine seq_at ?_
  go_wp2
  show Code.wp _ _ _ _ _
  refine wp_block ?_
  go_loopw [11] (fun i wr => ∃ m : Nat, m ≤ lst.length ∧ i = .int .i64 m ∧ placeF lst x lst.length = placeF lst x m ∧ Has wr g 9 cap 1 (strs (lst.take m ++ x :: lst.drop m)) ∧ Fr w wr [g]) (fun i _ => (intOf i).toNat)
  case atStart => exact ⟨lst.length, Nat.le_refl _, by have := HN.out; go_num, rfl, by simpa using h, Fr.refl _ _⟩
  case round =>
    obtain ⟨m, hk, rfl, hpl, hh, hf⟩ := hrel
    have hn := HN.out
    rcases Nat.eq_zero_or_pos m with h0 | hpos
    · subst h0
      have HE : Hid (Has wr.drew g 9 cap 1 (strs (insB lst x))) := by
        have : insB lst x = lst.take 0 ++ x :: lst.drop 0 := by unfold insB; rw [hpl]; rfl
        rw [this]
        exact hh.keep rfl
      have HF : Hid _ := hf.drew
      clear hn hh hf hpl
      go_wp2
      go_region
      go_wp2
      exact hQ.out _ _ _ _ _ _ _ _ _ _ _ _ _ _ _ _ _ _ _ _ _ _ _ _ _ _ _ _ _ _ _ _ _ _ _ _ _ _ _ HE.out HF.out
    · obtain ⟨j, hj⟩ : ∃ j, m = j + 1 := ⟨m - 1, by omega⟩
      have hlen : (strs (lst.take m ++ x :: lst.drop m)).length = lst.length + 1 := by rw [strs_length]; simp; omega
      have ck := hh.cell m (by omega)
      rw [strs_get _ _ (by simp; omega), take_drop_get lst x m hk] at ck
      have cj := hh.cell j (by omega)
      rw [strs_get _ _ (by simp; omega), hj, take_drop_prev lst x j (by omega)] at cj
      generalize hy : lst.getD j ByteArray.empty = y at cj
      have b0 : (0 : Int) < (m : Int) := by omega
      have b1 : (0 : Int) ≤ (m : Int) := by omega
      have b2 : (m : Int) < (n : Int) := by omega
      have b3 : (m : Int) - 1 = (j : Int) := by omega
      have b4 : (0 : Int) ≤ (j : Int) := by omega
      have b7 : IntKind.i64.wrap (j : Int) = (j : Int) := wrap_small _ (by omega) (by omega)
      have b6 : IntKind.i64.wrap ((m : Int) - 1) = (j : Int) := by rw [b3]; exact b7
      have b5 : (j : Int) < (n : Int) := by omega
      have fj := hh.frozen j
      have fm := hh.frozen m
      have h1 := (hh.set m (.string y)).set j (.string x)
      have H2 : Hid (Has ((wr.setCell ⟨g, m, none⟩ (.string y)).setCell ⟨g, j, none⟩ (.string x)).drew g 9 cap 1 (strs (lst.take j ++ x :: lst.drop j))) := by
        rw [strs_set, strs_set, hj, ← hy, take_drop_swap lst x j (by omega), ← hj, hy] at h1
        exact h1.keep rfl
      have HF2 : Hid (Fr w ((wr.setCell ⟨g, m, none⟩ (.string y)).setCell ⟨g, j, none⟩ (.string x)).drew [g]) := ((hf.setCell _ _ (.inl (by simp))).setCell _ _ (.inl (by simp))).drew
      have HY : Hid (lessB x y = true → placeF lst x lst.length = placeF lst x j) := fun e => by rw [hpl, hj, placeF, hy, if_pos e]
      have HZ : Hid (lessB x y = false → Has wr.drew g 9 cap 1 (strs (insB lst x))) := fun e => by
        have : insB lst x = lst.take m ++ x :: lst.drop m := by unfold insB; rw [hpl]; conv => lhs; rw [hj, placeF, hy, if_neg (by simp [e])]; rw [← hj]
        rw [this]
        exact hh.keep rfl
      have HF1 : Hid _ := hf.drew
      have hjl : j ≤ lst.length := by omega
      have jm : j < m := by omega
      clear hlen hh hj hn h1 hf hpl
      go_wp2
      go_region_held3 (fun w' => w'.cell? ⟨g, m, none⟩ = some (.string x) ∧ w'.cell? ⟨g, j, none⟩ = some (.string y)) ((go_split_ands; refine ⟨by go_keep, by go_keep⟩)) (fail)
      go_wp2
      · have e : lessB x y = true := by assumption
        exact ⟨⟨j, hjl, by go_num, HY.out e, H2.out, HF2.out⟩, by simp [intOf]; omega⟩
      · have e : lessB x y = false := by assumption
        exact hQ.out _ _ _ _ _ _ _ _ _ _ _ _ _ _ _ _ _ _ _ _ _ _ _ _ _ _ _ _ _ _ _ _ _ _ _ _ _ _ _ (HZ.out e) HF1.out
end Go.Proofs.YtdidjdoifpfmmaaGreatDoor
/- The document's Kids: a round, the whole. -/
namespace Go.Proofs.YtdidjdoifpfmmaaGreatDoor
open Go.RowKit
def cutOf (s : ByteArray) : Int := cutTo s s.size
def upOf (s : ByteArray) : ByteArray := if 0 ≤ cutOf s then s.extract 0 (cutOf s).toNat else ⟨#[]⟩
def lastOf (s : ByteArray) : ByteArray := s.extract (cutOf s + 1).toNat s.size
theorem cutTo_lt (s : ByteArray) (k : Nat) : -1 ≤ cutTo s k ∧ cutTo s k < k := by
  induction k with
  | zero => unfold cutTo; omega
  | succ k ih => unfold cutTo; split <;> omega
def kidsFold (path : ByteArray) (L : List It) : List ByteArray := L.foldl (fun l x => if upOf x.path = path then insB l (lastOf x.path) else l) []
theorem insB_length (l : List ByteArray) (x : ByteArray) : (insB l x).length = l.length + 1 := by
  unfold insB
  simp
  omega
theorem Has.ownsB {w : World} {g : Nat} {e : TypeId} {cap size n : Nat} {xs : List Value} (h : Has w g e cap size xs) (hn : xs.length = n * size) (hs : 0 < size) (hc : cap ≤ maxLen) (B : Nat) (hb : B ≤ g) : w.ownsRow B e size (.slice (some ⟨g, 0, none⟩) n cap) n xs := by
  obtain ⟨h1, h2⟩ := h.owns hn hs hc
  refine ⟨h1, h2.imp id ?_⟩
  rintro ⟨g', cap', cur, hv, _, r⟩
  have hv' := hv
  simp only [Value.slice.injEq, Option.some.injEq, Addr.mk.injEq] at hv'
  exact ⟨g', cap', cur, hv, by omega, r⟩
theorem owns_base0 {w : World} {base : Nat} {e : TypeId} {size n : Nat} {v : Value} {xs : List Value} (h : w.ownsRow base e size v n xs) : w.ownsRow 0 e size v n xs :=
  ⟨h.1, h.2.imp id (fun ⟨g, cap, cur, hv, _, r⟩ => ⟨g, cap, cur, hv, Nat.zero_le _, r⟩)⟩
theorem below_of_fr {B : Nat} {w0 w1 w' : World} {bs : List Nat} (hb : Below B w0 w1) (f : Fr w1 w' bs) (hB : B ≤ w1.heap.size) (hn : ∀ b ∈ bs, B ≤ b) : Below B w0 w' :=
  ⟨f.os.trans hb.os, f.tape.trans hb.tape, f.output.trans hb.output, Nat.le_trans hb.size f.size, fun k hk => (f.block k (by omega) (fun hx => by have := hn k hx; omega)).trans (hb.block k hk)⟩
set_option maxRecDepth 100000 in
set_option maxHeartbeats 4000000 in
theorem kidsBody_any {x2 x3 x4 x7 x8 x9 x10 x11 x12 x13 x14 x15 x16 x17 x18 x19 x20 x21 x22 x23 x24 x25 x26 x27 x28 x29 x30 x31 x32 x33 x34 x35 x36 x37 x38 x39 x40 x41 x42 x43 x44 x45 x46 x47 x48 x49 x50 x51 x52 x53 x54 x55 x56 x57 x58 x59 x60 x61 x62 x63 x64 x65 x66 x67 x68 x69 x70 x71 x72 x73 x74 x75 x76 x77 x78 x79 x80 x81 x82 x83 x84 x85 x86 : Value} (ag : Option Addr) (gt cap0 : Nat) (L : List It) (path : ByteArray) (al : Option Addr) (cl : Nat) (lst : List ByteArray) (k : Nat) (hk : k < L.length) (_hL : L.length ≤ 100000) (hlst : lst.length ≤ 50000) (B : Nat) (w : World) (hB : B ≤ w.heap.size) (Q : Exit → Act → World → Prop)
    (hcell : ag = some ⟨gt, 0, none⟩ ∧ w.cell? ⟨gt, k * 3, none⟩ = some (.string L[k].path)) (hsz : L[k].path.size ≤ 1000000)
    (ho : w.ownsRow B 9 1 (.slice al lst.length cl) lst.length (strs lst))
    (hQ1 : Hid (upOf L[k].path ≠ path → ∀ (y7 y8 y9 y10 y11 y12 y19 y20 y21 y22 y23 y24 y25 y26 y27 y28 y29 y30 y31 y32 y33 y34 y35 y36 y37 y38 y39 y40 y41 y42 y43 y44 y45 y46 y47 y48 y49 y50 y51 y52 y53 y54 y55 y56 y57 y58 y59 y60 y61 y62 y63 y64 y65 y66 y67 y68 y69 y70 y71 y72 y73 y74 y75 y76 y77 y78 y79 y80 y81 y82 y83 y84 y85 : Value), Q (.exit 1) ⟨#[.slice ag L.length cap0, .string path, x2, x3, x4, .slice al lst.length cl, .int .i64 (k : Nat), y7, y8, y9, y10, y11, y12, x13, x14, x15, x16, x17, x18, y19, y20, y21, y22, y23, y24, y25, y26, y27, y28, y29, y30, y31, y32, y33, y34, y35, y36, y37, y38, y39, y40, y41, y42, y43, y44, y45, y46, y47, y48, y49, y50, y51, y52, y53, y54, y55, y56, y57, y58, y59, y60, y61, y62, y63, y64, y65, y66, y67, y68, y69, y70, y71, y72, y73, y74, y75, y76, y77, y78, y79, y80, y81, y82, y83, y84, y85, x86], []⟩ w))
    (hQ2 : Hid (upOf L[k].path = path → ∀ (y7 y8 y9 y10 y11 y12 y19 y20 y21 y22 y23 y24 y25 y26 y27 y28 y29 y30 y31 y32 y33 y34 y35 y36 y37 y38 y39 y40 y41 y42 y43 y44 y45 y46 y47 y48 y49 y50 y51 y52 y53 y54 y55 y56 y57 y58 y59 y60 y61 y62 y63 y64 y65 y66 y67 y68 y69 y70 y71 y72 y73 y74 y75 y76 y77 y78 y79 y80 y81 y82 y83 y84 y85 : Value) (g cap : Nat) (w' : World), w'.ownsRow B 9 1 (.slice (some ⟨g, 0, none⟩) (lst.length + 1) cap) (lst.length + 1) (strs (insB lst (lastOf L[k].path))) → Below B w w' → Q .normal ⟨#[.slice ag L.length cap0, .string path, x2, x3, x4, .slice (some ⟨g, 0, none⟩) (lst.length + 1) cap, .int .i64 (k : Nat), y7, y8, y9, y10, y11, y12, x13, x14, x15, x16, x17, x18, y19, y20, y21, y22, y23, y24, y25, y26, y27, y28, y29, y30, y31, y32, y33, y34, y35, y36, y37, y38, y39, y40, y41, y42, y43, y44, y45, y46, y47, y48, y49, y50, y51, y52, y53, y54, y55, y56, y57, y58, y59, y60, y61, y62, y63, y64, y65, y66, y67, y68, y69, y70, y71, y72, y73, y74, y75, y76, y77, y78, y79, y80, y81, y82, y83, y84, y85, x86], []⟩ w')) :
    Code.wp Tryz.prog kidsBody Q ⟨#[.slice ag L.length cap0, .string path, x2, x3, x4, .slice al lst.length cl, .int .i64 (k : Nat), x7, x8, x9, x10, x11, x12, x13, x14, x15, x16, x17, x18, x19, x20, x21, x22, x23, x24, x25, x26, x27, x28, x29, x30, x31, x32, x33, x34, x35, x36, x37, x38, x39, x40, x41, x42, x43, x44, x45, x46, x47, x48, x49, x50, x51, x52, x53, x54, x55, x56, x57, x58, x59, x60, x61, x62, x63, x64, x65, x66, x67, x68, x69, x70, x71, x72, x73, x74, x75, x76, x77, x78, x79, x80, x81, x82, x83, x84, x85, x86], []⟩ w := by
  conv => arg 2; whnf
  obtain ⟨rfl, hc⟩ := hcell
  obtain ⟨i0, hi, hz0, hz1, hz2⟩ := info_parts strInfoT
  have HO : Hid (w.ownsRow B 9 1 (.slice al lst.length cl) lst.length (strs lst)) := ho
  have k0 : (0 : Int) ≤ (k : Int) := by omega
  have k1 : (k : Int) < (L.length : Int) := by omega
  clear ho
  refine seq_at ?_
  go_wp2
  show Code.wp _ _ _ _ _
  refine seq_at ?_
  go_wp2
  show Code.wp _ _ _ _ _
  refine seq_at (kidsCut_any L[k].path hsz w _ ?_)
  refine fun y9 y24 y25 y26 y27 y28 y29 y30 y31 y32 y33 y34 => ?_
  show Code.wp _ _ _ _ _
  obtain ⟨cb1, cb2⟩ := cutTo_lt L[k].path L[k].path.size
  have hup : Hid (upOf L[k].path = if 0 ≤ cutTo L[k].path L[k].path.size then L[k].path.extract 0 (cutTo L[k].path L[k].path.size).toNat else ⟨#[]⟩) := by
    show upOf L[k].path = _
    rfl
  have hla : Hid (lastOf L[k].path = L[k].path.extract (cutTo L[k].path L[k].path.size + 1).toNat L[k].path.size) := by
    show lastOf L[k].path = _
    rfl
  generalize cutTo L[k].path L[k].path.size = c at *
  generalize L[k].path = s at *
  rcases (show c = -1 ∨ 0 ≤ c by omega) with rfl | hc0
  · rw [if_neg (by decide)] at hup
    have hla0 : (-1 + 1 : Int).toNat = 0 := rfl
    rw [hla0, show s.extract 0 s.size = s by simp] at hla
    refine seq_at ?_
    go_wp2
    show Code.wp _ _ _ _ _
    refine seq_at ?_
    go_wp2
    show Code.wp _ _ _ _ _
    by_cases hpq : (⟨#[]⟩ : ByteArray) = path
    · have hb : (((⟨#[]⟩ : ByteArray)).toList == path.toList) = true := by rw [str_beq, decide_eq_true hpq]
      have hy : Hid (upOf s = path) := by show upOf s = path; rw [hup.out]; exact hpq
      refine seq_at ?_
      go_wp2
      show Code.wp _ _ _ _ _
      refine seq_at ?_
      go_wp2_with (at_builtin; refine wpList_append_lies _ rfl _ _ 35 rfl B 9 i0 (.string ByteArray.empty) 1 16 Tryz.underlying35 hi hz0 hz1 hz2 rfl (by decide) (.slice al lst.length cl) lst.length (strs lst) rfl (World.ownsRow.alloc HO.out _) ⟨w.heap.size, 0, none⟩ 1 1 [.string s] rfl rfl (one_newT _ _ _) (by intro u hu; simp at hu; subst hu; rfl) (by decide) (by unfold maxLen; omega) (by omega) (by simp; omega) (w.heap.size + 1) (by simp) ?_; intro g cap w3 hown hgrow hat hlt3)
      have hge : B ≤ g := own_ge hown g rfl
      obtain ⟨hh, hcap1, hcap2⟩ := has_of_owns (owns_base0 hown)
      rw [strs_snoc] at hh
      have hb3 : Below B w w3 := by
        refine ⟨hgrow.os, hgrow.tape, hgrow.output, by have h2 := hgrow.size; simp at h2; omega, fun n hn => ?_⟩
        rw [hgrow.block n (by simp; omega) (fun e => by have := own_ge HO.out n e.symm; omega), heap_alloc_old _ _ (by omega)]
      clear hown hgrow hat
      show Code.wp _ _ _ _ _
      refine wp_at (kidsSort_any lst s g cap (lst.length + 1) rfl (by omega) w3 hh _ ?_)
      refine fun z11 z12 z50 z51 z52 z53 z54 z55 z56 z57 z58 z59 z60 z61 z62 z63 z64 z65 z66 z67 z68 z69 z70 z71 z72 z73 z74 z75 z76 z77 z78 z79 z80 z81 z82 z83 z84 z85 w4 hh4 hf4 => ?_
      have hs4 : Below B w w4 := below_of_fr hb3 hf4 (by have := hb3.size; omega) (by intro b hb; simp at hb; omega)
      have ho4 : w4.ownsRow B 9 1 (.slice (some ⟨g, 0, none⟩) (lst.length + 1) cap) (lst.length + 1) (strs (insB lst (lastOf s))) := by
        rw [hla.out]
        exact hh4.ownsB (by rw [strs_length, insB_length]; omega) (by decide) hcap2 B hge
      exact hQ2.out hy.out _ _ _ _ _ _ _ _ _ _ _ _ _ _ _ _ _ _ _ _ _ _ _ _ _ _ _ _ _ _ _ _ _ _ _ _ _ _ _ _ _ _ _ _ _ _ _ _ _ _ _ _ _ _ _ _ _ _ _ _ _ _ _ _ _ _ _ _ _ _ _ _ _ g cap w4 ho4 hs4
    · have hb : (((⟨#[]⟩ : ByteArray)).toList == path.toList) = false := by rw [str_beq, decide_eq_false hpq]
      have he : path.toList.isEmpty = false := by rw [str_empty, decide_eq_false (fun e => hpq e.symm)]
      have he2 : path.toList ≠ [] := fun e => by rw [e] at he; simp at he
      have he3 : ¬ path = ⟨#[]⟩ := fun e => hpq e.symm
      have hn : upOf s ≠ path := by rw [hup.out]; exact hpq
      have HQ := hQ1.out hn
      have HR : Hid _ := HQ
      clear HQ
      go_wp2
      exact HR.out _ _ _ _ _ _ _ _ _ _ _ _ _ _ _ _ _ _ _ _ _ _ _ _ _ _ _ _ _ _ _ _ _ _ _ _ _ _ _ _ _ _ _ _ _ _ _ _ _ _ _ _ _ _ _ _ _ _ _ _ _ _ _ _ _ _ _ _ _ _ _ _ _
  · obtain ⟨q, rfl⟩ := Int.eq_ofNat_of_zero_le hc0
    rw [if_pos hc0, Int.toNat_natCast] at hup
    rw [show ((q : Int) + 1).toNat = q + 1 by omega] at hla
    have q0 : (0 : Int) ≤ (q : Int) := by omega
    have q1 : (q : Int) ≤ (s.size : Int) := by omega
    have q2 : (q : Int) + 1 ≤ (s.size : Int) := by omega
    refine seq_at ?_
    go_wp2
    show Code.wp _ _ _ _ _
    refine seq_at ?_
    go_wp2
    show Code.wp _ _ _ _ _
    by_cases hpq : s.extract 0 q = path
    · have hb : ((s.extract 0 q).toList == path.toList) = true := by rw [str_beq, decide_eq_true hpq]
      have hy : Hid (upOf s = path) := by show upOf s = path; rw [hup.out]; exact hpq
      refine seq_at ?_
      go_wp2
      show Code.wp _ _ _ _ _
      refine seq_at ?_
      go_wp2_with (at_builtin; refine wpList_append_lies _ rfl _ _ 35 rfl B 9 i0 (.string ByteArray.empty) 1 16 Tryz.underlying35 hi hz0 hz1 hz2 rfl (by decide) (.slice al lst.length cl) lst.length (strs lst) rfl (World.ownsRow.alloc HO.out _) ⟨w.heap.size, 0, none⟩ 1 1 [.string (s.extract (q + 1) s.size)] rfl rfl (one_newT _ _ _) (by intro u hu; simp at hu; subst hu; rfl) (by decide) (by unfold maxLen; omega) (by omega) (by simp; omega) (w.heap.size + 1) (by simp) ?_; intro g cap w3 hown hgrow hat hlt3)
      have hge : B ≤ g := own_ge hown g rfl
      obtain ⟨hh, hcap1, hcap2⟩ := has_of_owns (owns_base0 hown)
      rw [strs_snoc] at hh
      have hb3 : Below B w w3 := by
        refine ⟨hgrow.os, hgrow.tape, hgrow.output, by have h2 := hgrow.size; simp at h2; omega, fun n hn => ?_⟩
        rw [hgrow.block n (by simp; omega) (fun e => by have := own_ge HO.out n e.symm; omega), heap_alloc_old _ _ (by omega)]
      clear hown hgrow hat
      show Code.wp _ _ _ _ _
      refine wp_at (kidsSort_any lst (s.extract (q + 1) s.size) g cap (lst.length + 1) rfl (by omega) w3 hh _ ?_)
      refine fun z11 z12 z50 z51 z52 z53 z54 z55 z56 z57 z58 z59 z60 z61 z62 z63 z64 z65 z66 z67 z68 z69 z70 z71 z72 z73 z74 z75 z76 z77 z78 z79 z80 z81 z82 z83 z84 z85 w4 hh4 hf4 => ?_
      have hs4 : Below B w w4 := below_of_fr hb3 hf4 (by have := hb3.size; omega) (by intro b hb; simp at hb; omega)
      have ho4 : w4.ownsRow B 9 1 (.slice (some ⟨g, 0, none⟩) (lst.length + 1) cap) (lst.length + 1) (strs (insB lst (lastOf s))) := by
        rw [hla.out]
        exact hh4.ownsB (by rw [strs_length, insB_length]; omega) (by decide) hcap2 B hge
      exact hQ2.out hy.out _ _ _ _ _ _ _ _ _ _ _ _ _ _ _ _ _ _ _ _ _ _ _ _ _ _ _ _ _ _ _ _ _ _ _ _ _ _ _ _ _ _ _ _ _ _ _ _ _ _ _ _ _ _ _ _ _ _ _ _ _ _ _ _ _ _ _ _ _ _ _ _ _ g cap w4 ho4 hs4
    · have hb : ((s.extract 0 q).toList == path.toList) = false := by rw [str_beq, decide_eq_false hpq]
      have hn : upOf s ≠ path := by rw [hup.out]; exact hpq
      have HQ := hQ1.out hn
      have HR : Hid _ := HQ
      clear HQ
      go_wp2
      exact HR.out _ _ _ _ _ _ _ _ _ _ _ _ _ _ _ _ _ _ _ _ _ _ _ _ _ _ _ _ _ _ _ _ _ _ _ _ _ _ _ _ _ _ _ _ _ _ _ _ _ _ _ _ _ _ _ _ _ _ _ _ _ _ _ _ _ _ _ _ _ _ _ _ _
end Go.Proofs.YtdidjdoifpfmmaaGreatDoor
namespace Go.Proofs.YtdidjdoifpfmmaaGreatDoor
open Go.RowKit
theorem kidsFold_snoc (path : ByteArray) (L : List It) (x : It) : kidsFold path (L ++ [x]) = if upOf x.path = path then insB (kidsFold path L) (lastOf x.path) else kidsFold path L := by simp [kidsFold]
theorem take_snocI (L : List It) (k : Nat) (h : k < L.length) : L.take (k + 1) = L.take k ++ [L[k]] := by rw [List.take_succ_eq_append_getElem h]
set_option maxRecDepth 100000 in
set_option maxHeartbeats 4000000 in
theorem refKids_any (L : List It) (path : ByteArray) (v : Value) (w : World) (h : ItsAt w v L) (hl : L.length ≤ 40000) (hsz : ∀ x ∈ L, x.path.size ≤ 1000000) :
    Calls Tryz.prog 197 #[v, .string path] w fun e w' => ∃ kv, e = .returned kv ∧ w'.ownsRow w.heap.size 9 1 kv (kidsFold path L).length (strs (kidsFold path L)) ∧ Below w.heap.size w w' := by
  obtain ⟨ag, gt, cap0, rfl, hag, hc⟩ := h
  have hcl : 0 < L.length → gt < w.heap.size := fun h0 => World.block_lt_of_cell? w ⟨gt, 0, none⟩ (hc 0 (.string L[0].path) (by have := itCells_get L 0 h0 0 (by decide); simpa [It.cells] using this))
  have HA : Hid _ := hag
  have HC : Hid _ := hc
  clear hag hc
  go_enter Tryz.func197, Tryz.ntmps197
  go_wp2
  go_loopw [5, 6] (fun lv iv wr => ∃ (k : Nat) (lst : List ByteArray) (al : Option Addr) (cl : Nat), lv = .slice al lst.length cl ∧ iv = .int .i64 k ∧ k ≤ L.length ∧ lst = kidsFold path (L.take k) ∧ lst.length ≤ k ∧ wr.ownsRow w.heap.size 9 1 (.slice al lst.length cl) lst.length (strs lst) ∧ Below w.heap.size w wr) (fun _ iv _ => L.length - (intOf iv).toNat)
  case atStart => exact ⟨0, [], none, 0, rfl, rfl, Nat.zero_le _, rfl, Nat.le_refl _, World.ownsRow_nil _ _ _ _, Below.refl _ _⟩
  case round =>
    obtain ⟨k, lst, al, cl, rfl, rfl, hk, hlst, hlk, ho, hb⟩ := hrel
    by_cases hlt : k < L.length
    · have k1 : (k : Int) < (L.length : Int) := by omega
      have hcell : Hid (ag = some ⟨gt, 0, none⟩ ∧ wr.cell? ⟨gt, k * 3, none⟩ = some (.string L[k].path)) := by
        refine ⟨HA.out (by omega), ?_⟩
        rw [hb.cell (hcl (by omega))]
        exact HC.out _ _ (by rw [← Nat.add_zero (k * 3), itCells_get L k hlt 0 (by decide)]; rfl)
      have hs := hsz L[k] (List.getElem_mem hlt)
      have HS : Hid (kidsFold path (L.take (k + 1)) = if upOf L[k].path = path then insB lst (lastOf L[k].path) else lst) := by
        show _ = _
        rw [take_snocI L k hlt, kidsFold_snoc, hlst]
      clear hlst
      refine seq_at ?_
      go_wp2
      show Code.wp _ _ _ _ _
      refine seq_at ?_
      refine wp_block ?_
      refine kidsBody_any ag gt cap0 L path al cl lst k hlt (by omega) (by omega) w.heap.size wr hb.size _ hcell.out hs ho ?_ ?_
      · intro hne y7 y8 y9 y10 y11 y12 y19 y20 y21 y22 y23 y24 y25 y26 y27 y28 y29 y30 y31 y32 y33 y34 y35 y36 y37 y38 y39 y40 y41 y42 y43 y44 y45 y46 y47 y48 y49 y50 y51 y52 y53 y54 y55 y56 y57 y58 y59 y60 y61 y62 y63 y64 y65 y66 y67 y68 y69 y70 y71 y72 y73 y74 y75 y76 y77 y78 y79 y80 y81 y82 y83 y84 y85
        show Code.wp _ _ _ _ _
        have HT := HS.out
        rw [if_neg hne] at HT
        have HU : Hid _ := HT
        clear HT HS
        go_wp2
        go_roundw
        case rel => exact ⟨k + 1, lst, al, cl, rfl, by go_num, by omega, HU.out.symm, by omega, ho, hb⟩
        case measure => simp [intOf]; omega
      · intro heq y7 y8 y9 y10 y11 y12 y19 y20 y21 y22 y23 y24 y25 y26 y27 y28 y29 y30 y31 y32 y33 y34 y35 y36 y37 y38 y39 y40 y41 y42 y43 y44 y45 y46 y47 y48 y49 y50 y51 y52 y53 y54 y55 y56 y57 y58 y59 y60 y61 y62 y63 y64 y65 y66 y67 y68 y69 y70 y71 y72 y73 y74 y75 y76 y77 y78 y79 y80 y81 y82 y83 y84 y85 g cap w' ho' hb'
        show Code.wp _ _ _ _ _
        have HT := HS.out
        rw [if_pos heq] at HT
        have HU : Hid _ := HT
        have hin := insB_length lst (lastOf L[k].path)
        have HI : Hid _ := hin
        clear HT HS hin
        go_wp2
        go_roundw
        case rel =>
          refine ⟨k + 1, insB lst (lastOf L[k].path), some ⟨g, 0, none⟩, cap, by rw [HI.out], by go_num, by omega, HU.out.symm, by rw [HI.out]; omega, ?_, hb.trans hb'⟩
          rw [HI.out]
          exact ho'
        case measure => simp [intOf]; omega
    · have ek : k = L.length := by omega
      rw [ek, List.take_length] at hlst
      have k1 : ¬ (k : Int) < (L.length : Int) := by omega
      have HL : Hid _ := hlst
      clear hlst
      go_wp2
      go_ret
      exact ⟨_, rfl, by rw [← HL.out]; exact ho, hb⟩
end Go.Proofs.YtdidjdoifpfmmaaGreatDoor
