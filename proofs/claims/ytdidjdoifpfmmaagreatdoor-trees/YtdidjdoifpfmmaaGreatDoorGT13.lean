import Derived.Test.YtdidjdoifpfmmaaGreatDoorGT12
import Derived.Lib.SplitLaws
import Derived.Lib.IndexLaws
import Derived.Shelf.Strings.Split
import Derived.Test.YtdidjdoifpfmmaaGreatDoorProg
import Derived.Laws.RangeAny
import Derived.Test.YtdidjdoifpfmmaaGreatDoorGT9
/- The document's tree: what stands in a directory; how many stand below. -/
namespace Go.Proofs.YtdidjdoifpfmmaaGreatDoor
open Go.RowKit
theorem insB_perm (l : List ByteArray) (x : ByteArray) : (insB l x).Perm (x :: l) := by
  unfold insB
  refine List.perm_middle.trans ?_
  rw [List.take_append_drop]
theorem kids_perm (p : ByteArray) (L : List It) : (kidsFold p L).Perm ((L.filter (fun x => decide (upOf x.path = p))).map (fun x => lastOf x.path)) := by
  have : ∀ (L : List It) (acc : List ByteArray), (L.foldl (fun l x => if upOf x.path = p then insB l (lastOf x.path) else l) acc).Perm (acc ++ (L.filter (fun x => decide (upOf x.path = p))).map (fun x => lastOf x.path)) := by
    intro L
    induction L with
    | nil => intro acc; simp
    | cons y L ih =>
      intro acc
      rw [List.foldl_cons]
      by_cases h : upOf y.path = p
      · rw [if_pos h, List.filter_cons_of_pos (by simp [h]), List.map_cons]
        refine (ih _).trans ?_
        refine ((insB_perm acc _).append_right _).trans ?_
        exact List.perm_middle.symm
      · rw [if_neg h, List.filter_cons_of_neg (by simp [h])]
        exact ih _
  have := this L []
  simpa [kidsFold] using this
/-- Is that the root, or a directory of the tree? -/
def IsDir (L : List It) (p : ByteArray) : Prop := p = ⟨#[]⟩ ∨ ∃ y ∈ L, y.path = p ∧ y.dir = true
structure TreeOk (L : List It) : Prop where
  apart : (L.map It.path).Nodup
  up : ∀ x ∈ L, ∃ p k, x.path = joinB p k ∧ isName (textOf k) = true ∧ IsDir L p
  size : ∀ x ∈ L, x.path.size ≤ 262144
  data : ∀ x ∈ L, x.data.size ≤ 1536
  few : L.length ≤ 256
  bare : ∀ x ∈ L, x.dir = true → x.data = ⟨#[]⟩
theorem TreeOk.nil : TreeOk [] := ⟨List.nodup_nil, by simp, by simp, by simp, by simp, by simp⟩
theorem paths_one (x y : It) (h : x.path = y.path) : ∀ (L : List It), (L.map It.path).Nodup → x ∈ L → y ∈ L → x = y := by
  intro L
  induction L with
  | nil => intro _ hx; simp at hx
  | cons z L ih =>
    intro hn hx hy
    rw [List.map_cons, List.nodup_cons] at hn
    rcases List.mem_cons.1 hx with e | hx
    · rcases List.mem_cons.1 hy with e2 | hy
      · rw [e, e2]
      · exact absurd (List.mem_map.2 ⟨y, hy, by rw [← h, e]⟩) hn.1
    · rcases List.mem_cons.1 hy with e2 | hy
      · exact absurd (List.mem_map.2 ⟨x, hx, by rw [h, e2]⟩) hn.1
      · exact ih hn.2 hx hy
theorem TreeOk.one {L : List It} (ok : TreeOk L) {x y : It} (hx : x ∈ L) (hy : y ∈ L) (h : x.path = y.path) : x = y := paths_one x y h L ok.apart hx hy
theorem mem_kids {L : List It} (ok : TreeOk L) (p k : ByteArray) : k ∈ kidsFold p L ↔ isName (textOf k) = true ∧ ∃ x ∈ L, x.path = joinB p k := by
  rw [(kids_perm p L).mem_iff, List.mem_map]
  constructor
  · rintro ⟨x, hx, rfl⟩
    rw [List.mem_filter, decide_eq_true_eq] at hx
    obtain ⟨q, n, e, hn, _⟩ := ok.up x hx.1
    have h1 := hx.2
    rw [e, up_join q n hn] at h1
    subst h1
    rw [e, last_join q n hn]
    exact ⟨hn, x, hx.1, e⟩
  · rintro ⟨hk, x, hx, e⟩
    refine ⟨x, ?_, by rw [e, last_join p k hk]⟩
    rw [List.mem_filter, decide_eq_true_eq]
    exact ⟨hx, by rw [e, up_join p k hk]⟩
theorem kids_nodup {L : List It} (ok : TreeOk L) (p : ByteArray) : (kidsFold p L).Nodup := by
  rw [(kids_perm p L).nodup_iff]
  have h1 : ((L.filter (fun x => decide (upOf x.path = p))).map It.path).Nodup := ok.apart.sublist (List.filter_sublist.map _)
  unfold List.Nodup at h1 ⊢
  rw [List.pairwise_map] at h1 ⊢
  refine h1.imp_of_mem ?_
  intro a b ha hb hne e
  rw [List.mem_filter, decide_eq_true_eq] at ha hb
  obtain ⟨q, n, ea, hn, _⟩ := ok.up a ha.1
  obtain ⟨q', n', eb, hn', _⟩ := ok.up b hb.1
  apply hne
  have h1 := ha.2
  have h2 := hb.2
  rw [ea, eb, last_join q n hn, last_join q' n' hn'] at e
  rw [ea, up_join q n hn] at h1
  rw [eb, up_join q' n' hn'] at h2
  rw [ea, eb, e, h1, h2]
/-- A path stands below another. -/
inductive Under (p : ByteArray) : ByteArray → Prop
  | one (k : ByteArray) (h : isName (textOf k) = true) : Under p (joinB p k)
  | more (q k : ByteArray) (hq : Under p q) (h : isName (textOf k) = true) : Under p (joinB q k)
theorem Under.gt {p q : ByteArray} (h : Under p q) : p.size < q.size := by
  induction h with
  | one k h => exact joinB_gt p k h
  | more q k _ h ih => have := joinB_gt q k h; omega
theorem Under.ne {p q : ByteArray} (h : Under p q) : q ≠ ⟨#[]⟩ := by
  cases h with
  | one k h => exact joinB_ne p k h
  | more q k _ h => exact joinB_ne q k h
theorem Under.inv {p q n : ByteArray} (hn : isName (textOf n) = true) (h : Under p (joinB q n)) : p = q ∨ Under p q := by
  generalize e : joinB q n = r at h
  cases h with
  | one k h => exact .inl (joinB_inj hn h e).1.symm
  | more q' k hq h => rw [(joinB_inj hn h e).1]; exact .inr hq
/-- .. or is it that one itself? -/
def UE (p q : ByteArray) : Prop := p = q ∨ Under p q
theorem UE.under {p k x : ByteArray} (hk : isName (textOf k) = true) (h : UE (joinB p k) x) : Under p x := by
  rcases h with rfl | h
  · exact .one k hk
  · induction h with
    | one n hn => exact .more _ _ (.one k hk) hn
    | more q n _ hn ih => exact .more _ _ ih hn
theorem Under.first {p x : ByteArray} (h : Under p x) : ∃ k, isName (textOf k) = true ∧ UE (joinB p k) x := by
  induction h with
  | one k hk => exact ⟨k, hk, .inl rfl⟩
  | more q n _ hn ih =>
    obtain ⟨k, hk, h⟩ := ih
    rcases h with rfl | h
    · exact ⟨k, hk, .inr (.one n hn)⟩
    · exact ⟨k, hk, .inr (.more q n h hn)⟩
theorem UE.unique {p k k' : ByteArray} (hk : isName (textOf k) = true) (hk' : isName (textOf k') = true) : ∀ (m : Nat) (x : ByteArray), x.size ≤ m → UE (joinB p k) x → UE (joinB p k') x → k = k' := by
  intro m
  induction m with
  | zero =>
    intro x hx h _
    have := (UE.under hk h).gt
    omega
  | succ m ih =>
    intro x hx h h'
    rcases h with rfl | h
    · rcases h' with e | h'
      · exact (joinB_inj hk hk' e.symm).2
      · exfalso
        have g := joinB_gt p k' hk'
        rcases Under.inv hk h' with e | h'
        · rw [e] at g; omega
        · have := h'.gt; omega
    · rcases h' with rfl | h'
      · exfalso
        have g := joinB_gt p k hk
        rcases Under.inv hk' h with e | h
        · rw [e] at g; omega
        · have := h.gt; omega
      · cases h with
        | one n hn =>
          have g := joinB_gt p k' hk'
          rcases Under.inv hn h' with e | h'
          · exact (joinB_inj hk hk' e.symm).2
          · exfalso
            have := Under.gt h'
            rcases Under.inv hk h' with e | h'
            · rw [e] at g; omega
            · have := h'.gt; omega
        | more q n hq hn =>
          have := joinB_gt q n hn
          exact ih q (by omega) (.inr hq) (by rcases Under.inv hn h' with e | h'; exact .inl e; exact .inr h')
theorem Under.dir {L : List It} (ok : TreeOk L) {p x : ByteArray} (h : Under p x) : (∃ y ∈ L, y.path = x) → IsDir L p := by
  induction h with
  | one k hk =>
    rintro ⟨y, hy, e⟩
    obtain ⟨q, n, e2, hn, hd⟩ := ok.up y hy
    rw [e] at e2
    rw [(joinB_inj hk hn e2).1]
    exact hd
  | more q k hq hk ih =>
    rintro ⟨y, hy, e⟩
    obtain ⟨q', n, e2, hn, hd⟩ := ok.up y hy
    rw [e] at e2
    rw [← (joinB_inj hk hn e2).1] at hd
    rcases hd with hd | ⟨z, hz, hzp, _⟩
    · exact absurd hd hq.ne
    · exact ih ⟨z, hz, hzp⟩
theorem under_root {L : List It} (ok : TreeOk L) : ∀ (m : Nat) (x : It), x ∈ L → x.path.size ≤ m → Under ⟨#[]⟩ x.path := by
  intro m
  induction m with
  | zero =>
    intro x hx h
    obtain ⟨q, n, e, hn, _⟩ := ok.up x hx
    have := joinB_gt q n hn
    rw [e] at h
    omega
  | succ m ih =>
    intro x hx h
    obtain ⟨q, n, e, hn, hd⟩ := ok.up x hx
    have g := joinB_gt q n hn
    rw [e] at h ⊢
    rcases hd with rfl | ⟨y, hy, rfl, _⟩
    · exact .one n hn
    · exact .more _ _ (ih y hy (by omega)) hn
open Classical in
noncomputable def ind (p : Prop) : Nat := if p then 1 else 0
/-- How many stand below a path. -/
noncomputable def cnt (L : List It) (p : ByteArray) : Nat := (L.map fun x => ind (Under p x.path)).sum
theorem sum_swap {α β : Type} (f : α → β → Nat) (l : List α) (m : List β) : (l.map fun x => (m.map fun y => f x y).sum).sum = (m.map fun y => (l.map fun x => f x y).sum).sum := by
  induction l with
  | nil =>
    simp only [List.map_nil, List.sum_nil]
    induction m with
    | nil => rfl
    | cons y m ih => simp only [List.map_cons, List.sum_cons, ← ih, Nat.add_zero]
  | cons x l ih =>
    rw [List.map_cons, List.sum_cons, ih]
    clear ih
    induction m with
    | nil => rfl
    | cons y m ih =>
      simp only [List.map_cons, List.sum_cons] at ih ⊢
      omega
theorem sum_add {α : Type} (f g : α → Nat) (l : List α) : (l.map fun x => f x + g x).sum = (l.map f).sum + (l.map g).sum := by
  induction l with
  | nil => rfl
  | cons x l ih => simp only [List.map_cons, List.sum_cons, ih]; omega
theorem sum_none {α : Type} (P : α → Prop) (l : List α) (h : ∀ x ∈ l, ¬ P x) : (l.map fun x => ind (P x)).sum = 0 := by
  induction l with
  | nil => rfl
  | cons x l ih =>
    rw [List.map_cons, List.sum_cons, ih (fun y hy => h y (by simp [hy])), ind, if_neg (h x (by simp))]
theorem sum_one {α : Type} (P : α → Prop) (l : List α) (hn : l.Nodup) (x : α) (hx : x ∈ l) (hp : P x) (h : ∀ y ∈ l, P y → y = x) : (l.map fun x => ind (P x)).sum = 1 := by
  induction l with
  | nil => simp at hx
  | cons y l ih =>
    rw [List.nodup_cons] at hn
    rw [List.map_cons, List.sum_cons]
    by_cases e : y = x
    · subst e
      rw [sum_none P l (fun z hz hz2 => hn.1 (by rw [← h z (by simp [hz]) hz2]; exact hz)), ind, if_pos hp]
    · have hx' : x ∈ l := by
        rcases List.mem_cons.1 hx with h1 | h1
        · exact absurd h1.symm e
        · exact h1
      rw [ih hn.2 hx' (fun z hz => h z (by simp [hz])), ind, if_neg (fun hp => e (h y (by simp) hp))]
theorem sum_congr {α : Type} (f g : α → Nat) (l : List α) (h : ∀ x ∈ l, f x = g x) : (l.map f).sum = (l.map g).sum := by
  rw [List.map_congr_left h]
theorem cnt_kids {L : List It} (ok : TreeOk L) (p : ByteArray) : cnt L p = ((kidsFold p L).map fun k => 1 + cnt L (joinB p k)).sum := by
  have h1 : cnt L p = (L.map fun x => ((kidsFold p L).map fun k => ind (x.path = joinB p k) + ind (Under (joinB p k) x.path)).sum).sum := by
    refine sum_congr _ _ _ fun x hx => ?_
    have hsplit : ((kidsFold p L).map fun k => ind (x.path = joinB p k) + ind (Under (joinB p k) x.path)) = (kidsFold p L).map fun k => ind (UE (joinB p k) x.path) := by
      refine List.map_congr_left fun k hk => ?_
      unfold ind UE
      by_cases h1 : x.path = joinB p k
      · rw [if_pos h1, if_neg (fun h => by have := h.gt; rw [h1] at this; omega), if_pos (.inl h1.symm)]
      · rw [if_neg h1]
        by_cases h2 : Under (joinB p k) x.path
        · rw [if_pos h2, if_pos (.inr h2)]
        · rw [if_neg h2, if_neg]
          rintro (h | h)
          · exact h1 h.symm
          · exact h2 h
    rw [hsplit]
    by_cases hu : Under p x.path
    · rw [ind, if_pos hu]
      obtain ⟨k, hk, hue⟩ := hu.first
      have hmem : k ∈ kidsFold p L := by
        refine (mem_kids ok p k).2 ⟨hk, ?_⟩
        rcases hue with e | h
        · exact ⟨x, hx, e.symm⟩
        · rcases h.dir ok ⟨x, hx, rfl⟩ with e | ⟨y, hy, e, _⟩
          · exact absurd e (joinB_ne p k hk)
          · exact ⟨y, hy, e⟩
      exact (sum_one _ _ (kids_nodup ok p) k hmem hue (fun k' hk' h' => UE.unique ((mem_kids ok p k').1 hk').1 hk _ _ (Nat.le_refl _) h' hue)).symm
    · rw [ind, if_neg hu]
      exact (sum_none _ _ (fun k hk h => hu (UE.under ((mem_kids ok p k).1 hk).1 h))).symm
  rw [h1, sum_swap]
  refine sum_congr _ _ _ fun k hk => ?_
  rw [sum_add]
  obtain ⟨hn, x, hx, e⟩ := (mem_kids ok p k).1 hk
  congr 1
  have h2 : (L.map fun x => ind (x.path = joinB p k)).sum = ((L.map It.path).map fun q => ind (q = joinB p k)).sum := by rw [List.map_map]; rfl
  rw [h2]
  exact sum_one _ _ ok.apart (joinB p k) (List.mem_map.2 ⟨x, hx, e⟩) rfl (fun y _ h => h)
theorem cnt_root {L : List It} (ok : TreeOk L) : cnt L ⟨#[]⟩ = L.length := by
  unfold cnt
  rw [sum_congr _ (fun _ => 1) _ (fun x hx => by rw [ind, if_pos (under_root ok _ x hx (Nat.le_refl _))])]
  clear ok
  induction L with
  | nil => rfl
  | cons y L ih => rw [List.map_cons, List.sum_cons, ih, List.length_cons]; omega
theorem cnt_file {L : List It} (ok : TreeOk L) (x : It) (hx : x ∈ L) (hd : x.dir = false) : cnt L x.path = 0 := by
  refine sum_none _ _ fun y hy h => ?_
  rcases h.dir ok ⟨y, hy, rfl⟩ with e | ⟨z, hz, e, hzd⟩
  · obtain ⟨q, n, e2, hn, _⟩ := ok.up x hx
    exact joinB_ne q n hn (by rw [← e2, e])
  · rw [ok.one hz hx e, hd] at hzd
    cases hzd
end Go.Proofs.YtdidjdoifpfmmaaGreatDoor
/- A path taken apart by the library's SplitN, and the document's pieces. -/
namespace Go.Proofs.YtdidjdoifpfmmaaGreatDoor
open Go.RowKit
theorem index_one (l : List UInt8) (c : UInt8) : Lib.index l [c] = Lib.indexByte l c := by
  induction l with
  | nil => rfl
  | cons b l ih =>
    unfold Lib.index Lib.indexByte
    rw [ih]
    have : ([c].isPrefixOf (b :: l)) = (b == c) := by
      simp only [List.isPrefixOf, Bool.and_true]
      rw [Bool.eq_iff_iff]
      simp only [beq_iff_eq]
      exact eq_comm
    rw [this]
def sl : ByteArray := ⟨#[47]⟩
theorem indexB_sl (s : ByteArray) : Lib.indexB s sl = Lib.indexByte s.data.toList 47 := index_one _ _
/-- The pieces from a place on. -/
def piecesAt (s : ByteArray) (a : Nat) : List ByteArray := pieces s (s.size + 1 - a) a a
theorem pieces_skip (s : ByteArray) (a : Nat) : ∀ (n i : Nat), i + n ≤ s.size → (∀ j, i ≤ j → j < i + n → s.data.toList[j]? ≠ some 47) → pieces s (s.size + 1 - i) a i = pieces s (s.size + 1 - (i + n)) a (i + n) := by
  intro n
  induction n with
  | zero => intro i _ _; rfl
  | succ n ih =>
    intro i hi h
    have hlt : i < s.size := by omega
    have hl : i < s.data.toList.length := by rw [size_list]; exact hlt
    rw [show s.size + 1 - i = (s.size - i) + 1 by omega, pieces, if_pos]
    · rw [show s.size - i = s.size + 1 - (i + 1) by omega, ih (i + 1) (by omega) (fun j h1 h2 => h j (by omega) (by omega))]
      rw [show i + 1 + n = i + (n + 1) by omega]
    · refine ⟨hlt, fun e => h i (Nat.le_refl _) (by omega) ?_⟩
      rw [text_get, List.getElem?_eq_getElem hl] at e
      rw [List.getElem?_eq_getElem hl]
      congr 1
      exact UInt8.toNat_inj.1 (by simpa using e)
theorem piecesAt_none (s : ByteArray) (a : Nat) (ha : a ≤ s.size) (h : ∀ j, a ≤ j → s.data.toList[j]? ≠ some 47) : piecesAt s a = [s.extract a s.size] := by
  unfold piecesAt
  rw [pieces_skip s a (s.size - a) a (by omega) (fun j h1 _ => h j h1)]
  rw [show a + (s.size - a) = s.size by omega, show s.size + 1 - s.size = 0 + 1 by omega, pieces, if_neg (by omega), pieces]
theorem piecesAt_hit (s : ByteArray) (a i : Nat) (ha : a ≤ i) (hi : s.data.toList[i]? = some 47) (h : ∀ j, a ≤ j → j < i → s.data.toList[j]? ≠ some 47) : piecesAt s a = s.extract a i :: piecesAt s (i + 1) := by
  have hl : i < s.data.toList.length := (List.getElem?_eq_some_iff.1 hi).1
  have hlt : i < s.size := by rw [← size_list]; exact hl
  unfold piecesAt
  rw [pieces_skip s a (i - a) a (by omega) (fun j h1 h2 => h j h1 (by omega))]
  rw [show a + (i - a) = i by omega, show s.size + 1 - i = (s.size + 1 - (i + 1)) + 1 by omega, pieces, if_neg]
  rw [text_get, hi]
  simp
theorem pieces_few (s : ByteArray) : ∀ (f a i : Nat), (pieces s f a i).length ≤ f := by
  intro f
  induction f with
  | zero => intro a i; exact Nat.le_refl _
  | succ f ih =>
    intro a i
    unfold pieces
    split
    · exact Nat.le_succ_of_le (ih _ _)
    · rw [List.length_cons]; exact Nat.succ_le_succ (ih _ _)
theorem split_pieces (s : ByteArray) : ∀ (k a : Nat), a ≤ s.size →
    ((piecesAt s a).length ≤ k + 1 → Lib.splitB sl 0 k (s.extract a s.size) = piecesAt s a) ∧ (k + 1 < (piecesAt s a).length → (Lib.splitB sl 0 k (s.extract a s.size)).length = k + 1) := by
  intro k
  induction k with
  | zero =>
    intro a ha
    refine ⟨fun h => ?_, fun _ => rfl⟩
    rw [Lib.splitB_zero]
    rcases Classical.em (∀ j, a ≤ j → s.data.toList[j]? ≠ some 47) with hn | hn
    · exact (piecesAt_none s a ha hn).symm
    · exfalso
      have hi := indexB_sl (s.extract a s.size)
      rcases Lib.indexB_cases (s.extract a s.size) sl with h1 | ⟨i, h1, h2⟩
      · apply hn
        intro j hj hc
        rw [h1] at hi
        refine Lib.indexByte_none hi.symm (j - a) ?_
        rw [extract_list, List.getElem?_take_of_lt (by have := (List.getElem?_eq_some_iff.1 hc).1; rw [size_list] at this; omega), List.getElem?_drop, show a + (j - a) = j by omega]
        exact hc
      · rw [h1] at hi
        obtain ⟨g1, g2⟩ := Lib.indexByte_some hi.symm
        have hsz : i < s.size - a := by
          have := (List.getElem?_eq_some_iff.1 g1).1
          rw [size_list, ByteArray.size_extract] at this
          omega
        rw [extract_list, List.getElem?_take_of_lt hsz, List.getElem?_drop] at g1
        have g2' : ∀ j, a ≤ j → j < a + i → s.data.toList[j]? ≠ some 47 := fun j h1 h2 hc => by
          refine g2 (j - a) (by omega) ?_
          rw [extract_list, List.getElem?_take_of_lt (by omega), List.getElem?_drop, show a + (j - a) = j by omega]
          exact hc
        rw [piecesAt_hit s a (a + i) (by omega) g1 g2', List.length_cons] at h
        have : piecesAt s (a + i + 1) ≠ [] := by
          unfold piecesAt
          have : ∀ (n i b : Nat), n = s.size - i → i ≤ s.size → pieces s (s.size + 1 - i) b i ≠ [] := by
            intro n
            induction n with
            | zero =>
              intro i b hn hi
              rw [show s.size + 1 - i = 0 + 1 by omega, pieces, if_neg (by omega)]
              simp
            | succ n ih =>
              intro i b hn hi
              rw [show s.size + 1 - i = (s.size + 1 - (i + 1)) + 1 by omega, pieces]
              split
              · exact ih (i + 1) b (by omega) (by omega)
              · simp
          exact this _ _ _ rfl (by omega)
        exact this (List.length_eq_zero_iff.1 (by omega))
  | succ k ih =>
    intro a ha
    have hi := indexB_sl (s.extract a s.size)
    rcases Lib.indexB_cases (s.extract a s.size) sl with h1 | ⟨i, h1, h2⟩
    · have hn : ∀ j, a ≤ j → s.data.toList[j]? ≠ some 47 := by
        intro j hj hc
        rw [h1] at hi
        refine Lib.indexByte_none hi.symm (j - a) ?_
        rw [extract_list, List.getElem?_take_of_lt (by have := (List.getElem?_eq_some_iff.1 hc).1; rw [size_list] at this; omega), List.getElem?_drop, show a + (j - a) = j by omega]
        exact hc
      rw [Lib.splitB_miss sl 0 _ _ h1, piecesAt_none s a ha hn]
      exact ⟨fun _ => rfl, fun h => by simp at h⟩
    · have hi2 := hi
      rw [h1] at hi2
      obtain ⟨g1, g2⟩ := Lib.indexByte_some hi2.symm
      have hsz : i < s.size - a := by
        have := (List.getElem?_eq_some_iff.1 g1).1
        rw [size_list, ByteArray.size_extract] at this
        omega
      rw [extract_list, List.getElem?_take_of_lt hsz, List.getElem?_drop] at g1
      have g2' : ∀ j, a ≤ j → j < a + i → s.data.toList[j]? ≠ some 47 := fun j h1 h2 hc => by
        refine g2 (j - a) (by omega) ?_
        rw [extract_list, List.getElem?_take_of_lt (by omega), List.getElem?_drop, show a + (j - a) = j by omega]
        exact hc
      have e1 : (s.extract a s.size).extract 0 (i + 0) = s.extract a (a + i) := by
        apply ba_ext
        rw [extract_list, extract_list, extract_list, List.drop_zero, List.take_take]
        congr 1
        omega
      have e2 : (s.extract a s.size).extract (i + sl.size) (s.extract a s.size).size = s.extract (a + i + 1) s.size := by
        apply ba_ext
        have hs1 : sl.size = 1 := rfl
        rw [hs1, ByteArray.size_extract, extract_list, extract_list, extract_list, List.drop_take, List.drop_drop, List.take_take]
        rw [show a + (i + 1) = a + i + 1 by omega]
        congr 1
        omega
      rw [Lib.splitB_hit sl 0 k _ i h1, piecesAt_hit s a (a + i) (by omega) g1 g2', e1, e2]
      obtain ⟨p1, p2⟩ := ih (a + i + 1) (by omega)
      constructor
      · intro h
        rw [p1 (by rw [List.length_cons] at h; omega)]
      · intro h
        rw [List.length_cons, p2 (by rw [List.length_cons] at h; omega)]
/-- What SplitN tells of a path, up to nine: the pieces, or nine. -/
theorem split_nine (s : ByteArray) : ((piecesOf s).length ≤ 8 → Lib.splitB sl 0 (min 9 (s.size + 1) - 1) s = piecesOf s) ∧ (8 < (piecesOf s).length → (Lib.splitB sl 0 (min 9 (s.size + 1) - 1) s).length = 9) := by
  have hf := pieces_few s (s.size + 1) 0 0
  have e : piecesAt s 0 = piecesOf s := rfl
  obtain ⟨p1, p2⟩ := split_pieces s (min 9 (s.size + 1) - 1) 0 (Nat.zero_le _)
  rw [extract_all, e] at p1 p2
  have hl : (piecesOf s).length ≤ s.size + 1 := hf
  constructor
  · intro h
    exact p1 (by omega)
  · intro h
    rcases Nat.lt_or_ge (min 9 (s.size + 1) - 1 + 1) (piecesOf s).length with h1 | h1
    · rw [p2 h1]; omega
    · rw [p1 h1]; omega
end Go.Proofs.YtdidjdoifpfmmaaGreatDoor
/- Contracts of the library, laid at this program: made by tools/shelf.py ShelfSplit Derived.Shelf.Strings.Split n147. -/
namespace Go.Proofs
open Go.Shelf
def Tryz.lays147_ren : Go.Shelf.Ren := ⟨fun | 147 => 227 | 221 => 268 | 268 => 282 | 138 => 283 | 143 => 284 | 195 => 292 | 197 => 293 | 218 => 294 | 219 => 295 | 260 => 309 | 217 => 310 | 225 => 311 | 224 => 312 | 267 => 313 | 266 => 322 | 314 => 323 | n => n, fun | 9 => 9 | 3 => 3 | 31 => 35 | 4 => 4 | 0 => 0 | 105 => 422 | 21 => 21 | 5 => 5 | 46 => 133 | 119 => 445 | 139 => 448 | 138 => 447 | 146 => 393 | 51 => 81 | n => n, fun | 1 => 15 | 3 => 16 | 4 => 17 | n => n⟩
theorem Tryz.lays147 : Go.Proofs.Lays.n147 Tryz.prog Tryz.lays147_ren := {
  mixed := by kernel_rfl
  f138 := Tryz.func283.trans (congrArg some (by kernel_rfl))
  f143 := Tryz.func284.trans (congrArg some (by kernel_rfl))
  f147 := Tryz.func227.trans (congrArg some (by kernel_rfl))
  f195 := Tryz.func292.trans (congrArg some (by kernel_rfl))
  f197 := Tryz.func293.trans (congrArg some (by kernel_rfl))
  f217 := Tryz.func310.trans (congrArg some (by kernel_rfl))
  f218 := Tryz.func294.trans (congrArg some (by kernel_rfl))
  f219 := Tryz.func295.trans (congrArg some (by kernel_rfl))
  f221 := Tryz.func268.trans (congrArg some (by kernel_rfl))
  f224 := Tryz.func312.trans (congrArg some (by kernel_rfl))
  f225 := Tryz.func311.trans (congrArg some (by kernel_rfl))
  f260 := Tryz.func309.trans (congrArg some (by kernel_rfl))
  f266 := Tryz.func322.trans (congrArg some (by kernel_rfl))
  f267 := Tryz.func313.trans (congrArg some (by kernel_rfl))
  f268 := Tryz.func282.trans (congrArg some (by kernel_rfl))
  f314 := Tryz.func323.trans (congrArg some (by kernel_rfl))
  t0 := Tryz.underlying0
  a0 := Tryz.isAgg0
  z0 := Tryz.sizeOf0
  v0 := Tryz.zeroValue0
  t3 := Tryz.underlying3
  a3 := Tryz.isAgg3
  z3 := Tryz.sizeOf3
  v3 := Tryz.zeroValue3
  t4 := Tryz.underlying4
  a4 := Tryz.isAgg4
  z4 := Tryz.sizeOf4
  v4 := Tryz.zeroValue4
  t5 := Tryz.underlying5
  a5 := Tryz.isAgg5
  z5 := Tryz.sizeOf5
  v5 := Tryz.zeroValue5
  t9 := Tryz.underlying9
  a9 := Tryz.isAgg9
  z9 := Tryz.sizeOf9
  v9 := Tryz.zeroValue9
  t21 := Tryz.underlying21
  a21 := Tryz.isAgg21
  z21 := Tryz.sizeOf21
  v21 := Tryz.zeroValue21
  t31 := Tryz.underlying35
  a31 := Tryz.isAgg35
  z31 := Tryz.sizeOf35
  v31 := Tryz.zeroValue35
  t46 := Tryz.underlying133
  a46 := Tryz.isAgg133
  z46 := Tryz.sizeOf133
  v46 := Tryz.zeroValue133
  t51 := Tryz.underlying81
  a51 := Tryz.isAgg81
  z51 := Tryz.sizeOf81
  v51 := Tryz.zeroValue81
  t105 := Tryz.underlying422
  a105 := Tryz.isAgg422
  z105 := Tryz.sizeOf422
  v105 := Tryz.zeroValue422
  t119 := Tryz.underlying445
  a119 := Tryz.isAgg445
  z119 := Tryz.sizeOf445
  t138 := Tryz.underlying447
  a138 := Tryz.isAgg447
  z138 := Tryz.sizeOf447
  v138 := Tryz.zeroValue447
  t139 := Tryz.underlying448
  a139 := Tryz.isAgg448
  z139 := Tryz.sizeOf448
  v139 := Tryz.zeroValue448
  t146 := Tryz.underlying393
  a146 := Tryz.isAgg393
  z146 := Tryz.sizeOf393
  v146 := Tryz.zeroValue393
  g1 := by kernel_rfl
  g3 := by kernel_rfl
  g4 := by kernel_rfl }
end Go.Proofs
/- The program's names: inName, isName. -/
namespace Go.Proofs.YtdidjdoifpfmmaaGreatDoor
open Go.RowKit
def nameI (r : Int) : Bool := (decide (97 ≤ r) && decide (r ≤ 122)) || (decide (48 ≤ r) && decide (r ≤ 57)) || decide (r = 46) || decide (r = 95) || decide (r = 45)
set_option maxHeartbeats 1000000 in
theorem devInName_any (r : Int) (w : World) :
    Calls Tryz.prog 269 #[.int .i32 r] w fun e w' => e = .returned (.bool (nameI r)) ∧ w' = w := by
  go_enter Tryz.func269, Tryz.ntmps269
  go_wp2
  all_goals
    go_ret
    refine ⟨ret_eq (congrArg Value.bool ?_), rfl⟩
    unfold nameI
    rw [Bool.eq_iff_iff]
    simp only [Bool.or_eq_true, Bool.and_eq_true, decide_eq_true_eq, beq_iff_eq, true_iff]
    first | omega | (simp; done)
theorem nameI_nat (c : Nat) : nameI (c : Int) = nameChar c := by
  unfold nameI nameChar
  rw [Bool.eq_iff_iff]
  simp only [Bool.or_eq_true, Bool.and_eq_true, decide_eq_true_eq]
  omega
theorem nameChar_high (c : Nat) (h : 128 ≤ c) : nameChar c = false := by
  unfold nameChar
  simp only [Bool.or_eq_false_iff, Bool.and_eq_false_iff, decide_eq_false_iff_not]
  omega
set_option maxHeartbeats 1000000 in
theorem devIsName_any (s : ByteArray) (w : World) :
    Calls Tryz.prog 228 #[.string s] w fun e w' => e = .returned (.bool (isName (textOf s))) ∧ Below w.heap.size w w' := by
  by_cases h0 : s = ⟨#[]⟩
  · have he : s.toList.isEmpty = true := by rw [str_empty, decide_eq_true h0]
    have hn : Hid (isName (textOf s) = false) := by show isName (textOf s) = false; rw [h0]; rfl
    go_enter Tryz.func228, Tryz.ntmps228
    go_wp2
    go_ret
    exact ⟨by rw [hn.out]; rfl, Below.refl _ _⟩
  · have he : s.toList.isEmpty = false := by rw [str_empty, decide_eq_false h0]
    have hpos : 1 ≤ s.size := by
      refine Nat.one_le_iff_ne_zero.2 fun e => h0 (ba_ext ?_)
      have := size_list s
      rw [e] at this
      rw [List.length_eq_zero_iff.1 this]
    by_cases h16 : s.size ≤ 16
    · have i16 : ¬ (16 : Int) < (s.size : Int) := by omega
      go_enter Tryz.func228, Tryz.ntmps228
      go_wp2
      go_loopw [4] (fun _ wr => ∃ pos : Nat, wr = w.iter s pos ∧ pos ≤ s.size ∧ ((textOf s).take pos).all nameChar = true) (fun _ wr => s.size - wr.iterPos w.heap.size)
      case atStart => exact ⟨0, rfl, Nat.zero_le _, rfl⟩
      case round =>
        obtain ⟨pos, rfl, hle, hall⟩ := hrel
        have HA : Hid _ := hall
        clear hall
        by_cases hp : pos < s.size
        · have hst : Hid _ := all_take_succ s pos hp
          have bad : Hid (nameChar (s[pos]).toNat = false → isName (textOf s) = false) := fun h => by
            have h1 : ((textOf s).take (pos + 1)).all nameChar = false := by rw [hst.out, h, Bool.and_false]
            have h2 : (textOf s).all nameChar = false := by
              rw [← List.take_append_drop (pos + 1) (textOf s), List.all_append, h1, Bool.false_and]
            unfold isName
            rw [h2]; rfl
          by_cases ha : (s[pos]).toNat < 128
          · have hnx : ∀ ty, (Instr.next (.pointer (some ⟨w.heap.size, 0, none⟩)) true ty).run Tryz.prog (w.iter s pos) = _ := fun ty => run_next_ascii w s pos ty hp ha
            have c := devInName_any ((s[pos]).toNat : Int) (w.iter s (pos + 1))
            rw [nameI_nat] at c
            cases hc : nameChar (s[pos]).toNat
            · rw [hc] at c
              go_wp2_with (go_at_call 269; refine c.mono ?_; rintro e w' ⟨rfl, rfl⟩)
              go_ret
              exact ⟨by rw [bad.out hc]; rfl, (Below.refl _ w).alloc (Nat.le_refl _) _⟩
            · rw [hc] at c
              have good : Hid (((textOf s).take (pos + 1)).all nameChar = true) := by show _ = true; rw [hst.out, HA.out, hc]; rfl
              go_wp2_with (go_at_call 269; refine c.mono ?_; rintro e w' ⟨rfl, rfl⟩)
              go_roundw
              case rel => exact ⟨pos + 1, rfl, by omega, good.out⟩
              case measure => simp; omega
          · have hnx : ∀ ty, (Instr.next (.pointer (some ⟨w.heap.size, 0, none⟩)) true ty).run Tryz.prog (w.iter s pos) = _ := fun ty => run_next_any w s pos ty hp
            have hd := (decode_high s pos hp (by omega)).1
            have c := devInName_any ((Utf8.decode s pos).1 : Int) (w.iter s (pos + (Utf8.decode s pos).2))
            rw [nameI_nat, nameChar_high _ hd] at c
            go_wp2_with (go_at_call 269; refine c.mono ?_; rintro e w' ⟨rfl, rfl⟩)
            go_ret
            exact ⟨by rw [bad.out (nameChar_high _ (by omega))]; rfl, (Below.refl _ w).alloc (Nat.le_refl _) _⟩
        · have hnx : ∀ ty, (Instr.next (.pointer (some ⟨w.heap.size, 0, none⟩)) true ty).run Tryz.prog (w.iter s pos) = _ := fun ty => run_next_end w s pos ty hp
          have hn : Hid (isName (textOf s) = true) := by
            show isName (textOf s) = true
            have := HA.out
            rw [List.take_of_length_le (by rw [textOf_len]; omega)] at this
            unfold isName
            rw [this, textOf_len, decide_eq_true hpos, decide_eq_true h16]; rfl
          go_wp2
          go_ret
          exact ⟨by rw [hn.out]; rfl, (Below.refl _ w).alloc (Nat.le_refl _) _⟩
    · have i16 : (16 : Int) < (s.size : Int) := by omega
      have hn : Hid (isName (textOf s) = false) := by
        show isName (textOf s) = false
        unfold isName
        rw [textOf_len, decide_eq_false h16, Bool.and_false]
      go_enter Tryz.func228, Tryz.ntmps228
      go_wp2
      go_ret
      exact ⟨by rw [hn.out]; rfl, Below.refl _ _⟩
end Go.Proofs.YtdidjdoifpfmmaaGreatDoor
/- The program's paths: split, below. -/
namespace Go.Proofs.YtdidjdoifpfmmaaGreatDoor
open Go.RowKit
def nine (s : ByteArray) : List ByteArray := Lib.splitB sl 0 (min 9 (s.size + 1) - 1) s
def errV (a : Nat → Addr) (k : Nat) : Value := .iface 452 (.pointer (some (a k)))
theorem devSplitN (s : ByteArray) (m : Int) (w : World) (hs : s.size ≤ 1000000) (hm : w.cell? ⟨15, 0, none⟩ = some (.int .i64 m)) :
    Calls Tryz.prog 227 #[.string s, .string ⟨#[47]⟩, .int .i64 9] w fun e w' =>
      e = .returned (.slice (some ⟨w.heap.size, 0, none⟩) (nine s).length (min 9 (s.size + 1))) ∧ w.alloc (.cells (Lib.cellsOf (nine s) (min 9 (s.size + 1))) 9) = w' :=
  (Any.strings_SplitN Tryz.lays147 (by kernel_rfl) s sl 9 m w (by omega) hm (by decide) (by decide) (by decide)).mono fun _ _ h => ⟨h.1, h.2.symm⟩
theorem nine_len (s : ByteArray) : (nine s).length ≤ min 9 (s.size + 1) := by
  have := Lib.splitB_length_le sl 0 (min 9 (s.size + 1) - 1) s
  unfold nine
  omega
theorem nine_at (s : ByteArray) (w : World) : StrsAt (w.alloc (.cells (Lib.cellsOf (nine s) (min 9 (s.size + 1))) 9)) (.slice (some ⟨w.heap.size, 0, none⟩) (nine s).length (min 9 (s.size + 1))) (nine s) := by
  refine ⟨_, w.heap.size, _, rfl, nine_len s, fun _ => rfl, fun j x hj => ?_⟩
  rw [cell_of_row _ _ _ _ _ _ (heap_alloc_new w _), ← Array.getElem?_toList]
  have hl : j < (nine s).length := by
    have := (List.getElem?_eq_some_iff.1 hj).1
    rwa [strs_length] at this
  unfold Lib.cellsOf
  rw [List.getElem?_append_left (by simpa using hl)]
  exact hj
theorem names_bad_long (s : ByteArray) (h0 : s ≠ ⟨#[]⟩) (h : 8 < (piecesOf s).length) : (namesOf s).2 = false := by
  unfold namesOf
  rw [if_neg h0]
  split
  · exact decide_eq_false (by omega)
  · rfl
theorem names_bad_name (s : ByteArray) (h0 : s ≠ ⟨#[]⟩) (h : allNames (piecesOf s) = false) : (namesOf s).2 = false := by
  unfold namesOf
  rw [if_neg h0, h]
  rfl
theorem names_good (s : ByteArray) (h0 : s ≠ ⟨#[]⟩) (h : allNames (piecesOf s) = true) (h8 : (piecesOf s).length ≤ 8) : namesOf s = (piecesOf s, true) := by
  unfold namesOf
  rw [if_neg h0, if_pos h, decide_eq_true h8]
def SplitDone (_w w' : World) (s : ByteArray) (a : Nat → Addr) (v : Value) : Prop := ((namesOf s).2 = true ∧ ∃ v1, v = .tuple #[v1, .nilIface] ∧ StrsAt w' v1 (namesOf s).1) ∨ ((namesOf s).2 = false ∧ v = .tuple #[.slice none 0 0, errV a 4])
set_option maxRecDepth 100000 in
set_option maxHeartbeats 1000000 in
theorem devSplit_any (s : ByteArray) (m : Int) (a : Nat → Addr) (w : World) (hs : s.size ≤ 1000000) (hm : w.cell? ⟨15, 0, none⟩ = some (.int .i64 m)) (h4 : w.cell? ⟨4, 0, none⟩ = some (errV a 4)) :
    Calls Tryz.prog 159 #[.string s] w fun e w' => ∃ v, e = .returned v ∧ SplitDone w w' s a v ∧ Below w.heap.size w w' := by
  by_cases h0 : s = ⟨#[]⟩
  · have hn : Hid (namesOf s = ([], true)) := by show namesOf s = _; unfold namesOf; rw [if_pos h0]
    have he : s.toList.isEmpty = true := by rw [str_empty, decide_eq_true h0]
    go_enter Tryz.func159, Tryz.ntmps159
    go_wp2
    refine bodyPost_ret (results_tmp2 rfl _ _ _) rfl ?_
    refine ⟨_, rfl, .inl ⟨by rw [hn.out], _, rfl, ?_⟩, Below.refl _ _⟩
    rw [hn.out]
    exact ⟨none, 0, 0, rfl, Nat.le_refl _, fun h => absurd h (Nat.lt_irrefl 0), fun j x hj => by simp [strs] at hj⟩
  · have he : s.toList.isEmpty = false := by rw [str_empty, decide_eq_false h0]
    have c := devSplitN s m w hs hm
    have hnine := split_nine s
    have hB : Hid (Below w.heap.size w (w.alloc (.cells (Lib.cellsOf (nine s) (min 9 (s.size + 1))) 9))) := (Below.refl _ w).alloc (Nat.le_refl _) _
    have hA : Hid _ := nine_at s w
    have hl9 := nine_len s
    generalize hw1 : w.alloc (.cells (Lib.cellsOf (nine s) (min 9 (s.size + 1))) 9) = w1 at c hB hA
    have h4' : w1.cell? ⟨4, 0, none⟩ = some (errV a 4) := by rw [hB.out.cell (World.block_lt_of_cell? _ _ h4)]; exact h4
    generalize hN : min 9 (s.size + 1) = cap at c hA hl9
    rcases Nat.lt_or_ge 8 (piecesOf s).length with h8 | h8
    · have hbad : Hid _ := names_bad_long s h0 h8
      have e9 : Hid ((nine s).length = 9) := hnine.2 h8
      have i9 : (8 : Int) < ((nine s).length : Int) := by rw [e9.out]; decide
      clear hnine hl9
      go_enter Tryz.func159, Tryz.ntmps159
      go_wp2_with (go_at_call 227; refine c.mono ?_; rintro e w' ⟨rfl, rfl⟩)
      go_region
      go_wp2
      refine bodyPost_ret (results_tmp2 rfl _ _ _) rfl ?_
      exact ⟨_, rfl, .inr ⟨hbad.out, rfl⟩, hB.out.drew⟩
    · have e9 : Hid (nine s = piecesOf s) := hnine.1 h8
      have i9 : ¬ (8 : Int) < ((nine s).length : Int) := by rw [e9.out]; omega
      have l9 : (nine s).length ≤ 8 := by rw [e9.out]; exact h8
      clear hnine hl9
      go_enter Tryz.func159, Tryz.ntmps159
      go_wp2_with (go_at_call 227; refine c.mono ?_; rintro e w' ⟨rfl, rfl⟩)
      go_loopw [17, 6] (fun iv _ wr => ∃ i : Nat, i ≤ (nine s).length ∧ iv = .int .i64 i ∧ Below w1.heap.size w1 wr ∧ allNames ((nine s).take i) = true) (fun iv _ _ => (nine s).length - (intOf iv).toNat)
      case atStart => exact ⟨0, Nat.zero_le _, rfl, Below.refl _ _, rfl⟩
      case round =>
        obtain ⟨i, hi, rfl, hb, hall⟩ := hrel
        have HA : Hid _ := hall
        clear hall
        obtain ⟨ag, g, cp, hv, hcp, hag, hcell⟩ := hA.out
        simp only [Value.slice.injEq] at hv
        obtain ⟨hv1, _, hv3⟩ := hv
        subst hv1 hv3
        by_cases hlt : i < (nine s).length
        · have i1 : (i : Int) < ((nine s).length : Int) := by omega
          have hg : g = w.heap.size := by
            have := hag (by omega)
            simp at this
            exact this.symm
          subst hg
          have hc0 := hcell i (.string (nine s)[i]) (by rw [strs_get _ _ hlt, List.getD_eq_getElem?_getD, List.getElem?_eq_getElem hlt]; rfl)
          have hc1 : wr.cell? ⟨w.heap.size, i, none⟩ = some (.string (nine s)[i]) := by rw [hb.cell (World.block_lt_of_cell? _ _ hc0)]; exact hc0
          have cN := devIsName_any (nine s)[i] wr
          have h4'' : wr.cell? ⟨4, 0, none⟩ = some (errV a 4) := by rw [hb.cell (World.block_lt_of_cell? _ _ h4')]; exact h4'
          cases hnm : isName (textOf (nine s)[i])
          · rw [hnm] at cN
            have hbad : Hid _ := names_bad_name s h0 (by
              rw [← e9.out]
              unfold allNames
              rw [List.all_eq_false]
              exact ⟨(nine s)[i], List.getElem_mem hlt, by rw [hnm]; decide⟩)
            go_wp2_with (go_at_call 228; refine cN.mono ?_; rintro e w' ⟨rfl, hb2⟩)
            have h4w : w'.cell? ⟨4, 0, none⟩ = some (errV a 4) := by rw [hb2.cell (World.block_lt_of_cell? _ _ h4'')]; exact h4''
            go_region
            go_wp2
            refine bodyPost_ret (results_tmp2 rfl _ _ _) rfl ?_
            have hs1 := hB.out.size
            have hs2 := hb.size
            exact ⟨_, rfl, .inr ⟨hbad.out, rfl⟩, (hB.out.trans ((hb.trans (hb2.mono hs2)).mono hs1)).drew⟩
          · rw [hnm] at cN
            have hst : Hid (allNames ((nine s).take (i + 1)) = true) := by
              show allNames _ = true
              rw [List.take_succ_eq_append_getElem hlt]
              unfold allNames at HA ⊢
              rw [List.all_append, HA.out]
              simp [hnm]
            go_wp2_with (go_at_call 228; refine cN.mono ?_; rintro e w' ⟨rfl, hb2⟩)
            have hs2 := hb.size
            exact ⟨⟨i + 1, by omega, by go_num, hb.trans (hb2.mono hs2), hst.out⟩, by simp [intOf]; omega⟩
        · have ei : i = (nine s).length := by omega
          have i1 : ¬ (i : Int) < ((nine s).length : Int) := by omega
          have hgood : Hid (namesOf s = (nine s, true)) := by
            show namesOf s = _
            have := HA.out
            rw [ei, List.take_length, e9.out] at this
            rw [names_good s h0 this h8, e9.out]
          go_wp2
          refine bodyPost_ret (results_tmp2 rfl _ _ _) rfl ?_
          have hs1 := hB.out.size
          refine ⟨_, rfl, .inl ⟨by rw [hgood.out], _, rfl, ?_⟩, hB.out.trans (hb.mono hs1)⟩
          rw [hgood.out]
          exact StrsAt.below hA.out hb (Nat.le_refl _)
end Go.Proofs.YtdidjdoifpfmmaaGreatDoor
