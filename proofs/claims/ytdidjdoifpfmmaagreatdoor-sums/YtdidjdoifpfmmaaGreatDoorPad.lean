import Derived.Test.YtdidjdoifpfmmaaGreatDoorCrcRef
/- A text, filled up to whole blocks; the sum over its blocks: plain mathematics. -/
namespace Go.Proofs.YtdidjdoifpfmmaaGreatDoor

def zerosOf (n : Nat) : Nat := (119 - n % 64) % 64
def lenByte (n i : Nat) : Nat := 8 * n / 2 ^ (8 * (7 - i)) % 256
def lenBytes (n k : Nat) : List Nat := (List.range k).map (lenByte n)
theorem lenBytes_len (n k : Nat) : (lenBytes n k).length = k := by simp [lenBytes]
theorem lenBytes_succ (n k : Nat) : lenBytes n (k + 1) = lenBytes n k ++ [lenByte n k] := by simp [lenBytes, List.range_succ]
theorem lenByte_lt (n i : Nat) : lenByte n i < 256 := Nat.mod_lt _ (by decide)
def pad (l : List Nat) : List Nat := l ++ [128] ++ List.replicate (zerosOf l.length) 0 ++ lenBytes l.length 8
def blocksOf (n : Nat) : Nat := (n + 72) / 64
theorem pad_len (l : List Nat) : (pad l).length = 64 * blocksOf l.length := by
  simp only [pad, List.length_append, List.length_replicate, lenBytes_len, List.length_cons, List.length_nil, zerosOf, blocksOf]
  omega
theorem lenBytes_lt (n k : Nat) : ∀ x ∈ lenBytes n k, x < 256 := by
  intro x hx
  simp only [lenBytes, List.mem_map] at hx
  obtain ⟨i, _, rfl⟩ := hx
  exact lenByte_lt n i
theorem pad_lt (l : List Nat) (h : ∀ x ∈ l, x < 256) : ∀ x ∈ pad l, x < 256 := by
  intro x hx
  simp only [pad, List.mem_append, List.mem_replicate, List.mem_singleton] at hx
  rcases hx with ((hx | hx) | hx) | hx
  · exact h x hx
  · omega
  · omega
  · exact lenBytes_lt _ _ x hx

def ofList (l : List Nat) : St := ⟨l.getD 0 0, l.getD 1 0, l.getD 2 0, l.getD 3 0, l.getD 4 0, l.getD 5 0, l.getD 6 0, l.getD 7 0⟩
theorem mix_list (K : List Nat) (s : St) (b : List Nat) : (ofList (mix K s b)).list = mix K s b := rfl
theorem ofList_ok (l : List Nat) (h : ∀ x ∈ l, x < 4294967296) : (ofList l).Ok := ⟨getD_lt32 l h 0, getD_lt32 l h 1, getD_lt32 l h 2, getD_lt32 l h 3, getD_lt32 l h 4, getD_lt32 l h 5, getD_lt32 l h 6, getD_lt32 l h 7⟩
theorem mix_ok (K : List Nat) (s : St) (b : List Nat) : (ofList (mix K s b)).Ok := ⟨Nat.mod_lt _ (by decide), Nat.mod_lt _ (by decide), Nat.mod_lt _ (by decide), Nat.mod_lt _ (by decide), Nat.mod_lt _ (by decide), Nat.mod_lt _ (by decide), Nat.mod_lt _ (by decide), Nat.mod_lt _ (by decide)⟩
def blockAt (P : List Nat) (n : Nat) : List Nat := (P.drop (64 * n)).take 64
def stAt (K : List Nat) (s : St) (P : List Nat) : Nat → St
  | 0 => s
  | n + 1 => ofList (mix K (stAt K s P n) (blockAt P n))
theorem stAt_ok (K : List Nat) (s : St) (P : List Nat) (h : s.Ok) : ∀ n, (stAt K s P n).Ok
  | 0 => h
  | _ + 1 => mix_ok _ _ _
theorem blockAt_len (P : List Nat) (n : Nat) (h : 64 * n + 64 ≤ P.length) : (blockAt P n).length = 64 := by simp [blockAt]; omega
theorem blockAt_lt (P : List Nat) (n : Nat) (h : ∀ x ∈ P, x < 256) : ∀ x ∈ blockAt P n, x < 256 := fun x hx => h x (List.mem_of_mem_drop (List.mem_of_mem_take hx))
theorem blockAt_get (P : List Nat) (n j : Nat) (h : j < 64) : (blockAt P n).getD j 0 = P.getD (64 * n + j) 0 := by
  simp [blockAt, List.getD_eq_getElem?_getD, h]
theorem stAt_congr (K : List Nat) (s : St) (P Q : List Nat) : ∀ n, (∀ k, k < n → blockAt P k = blockAt Q k) → stAt K s P n = stAt K s Q n
  | 0, _ => rfl
  | n + 1, h => by
    unfold stAt
    rw [stAt_congr K s P Q n (fun k hk => h k (by omega)), h n (by omega)]

/-- The whole blocks of a text are those of the padded one. -/
theorem blockAt_pad (l : List Nat) (n : Nat) (h : 64 * n + 64 ≤ l.length) : blockAt (pad l) n = blockAt l n := by
  unfold blockAt pad
  rw [List.append_assoc, List.append_assoc, List.drop_append_of_le_length (by omega), List.take_append_of_le_length (by simp; omega)]

/-- The last block, where the length has room in it. -/
theorem blockAt_last (l r : List Nat) (q : Nat) (hr : r = l.drop (64 * q)) (hq : 64 * q + r.length = l.length) (h : r.length < 56) : blockAt (pad l) q = r ++ [128] ++ List.replicate (55 - r.length) 0 ++ lenBytes l.length 8 := by
  unfold blockAt pad
  have hz : zerosOf l.length = 55 - r.length := by unfold zerosOf; omega
  rw [hz, List.append_assoc, List.append_assoc, List.drop_append_of_le_length (by omega), ← hr, List.append_assoc, List.append_assoc]
  apply List.take_of_length_le
  simp [lenBytes_len]; omega
/-- The last two, where it has none. -/
theorem blockAt_full (l r : List Nat) (q : Nat) (hr : r = l.drop (64 * q)) (hq : 64 * q + r.length = l.length) (h : 56 ≤ r.length) (h2 : r.length < 64) : blockAt (pad l) q = r ++ [128] ++ List.replicate (63 - r.length) 0 ∧ blockAt (pad l) (q + 1) = List.replicate 56 0 ++ lenBytes l.length 8 := by
  have hz : zerosOf l.length = (63 - r.length) + 56 := by unfold zerosOf; omega
  have hp : (pad l).drop (64 * q) = (r ++ [128] ++ List.replicate (63 - r.length) 0) ++ (List.replicate 56 0 ++ lenBytes l.length 8) := by
    unfold pad
    rw [hz, ← List.replicate_append_replicate, List.append_assoc, List.append_assoc, List.drop_append_of_le_length (by omega), ← hr]
    simp only [List.append_assoc]
  have hl : (r ++ [128] ++ List.replicate (63 - r.length) 0).length = 64 := by simp; omega
  constructor
  · unfold blockAt
    rw [hp, List.take_append_of_le_length (by omega), List.take_of_length_le (by omega)]
  · unfold blockAt
    rw [show 64 * (q + 1) = 64 * q + 64 by omega, ← List.drop_drop, hp, List.drop_append_of_le_length (by omega), List.drop_eq_nil_of_le (by omega), List.nil_append]
    apply List.take_of_length_le
    simp [lenBytes_len]

/-- The four bytes of a word, the high one first. -/
def fourOf (x : Nat) : List Nat := [x / 16777216 % 256, x / 65536 % 256, x / 256 % 256, x % 256]
def outs (l : List Nat) : List Nat := l.flatMap fourOf
def text (l : List Nat) : ByteArray := ⟨(l.map UInt8.ofNat).toArray⟩
theorem text_append (l m : List Nat) : text l ++ text m = text (l ++ m) := by
  apply ByteArray.ext
  simp [text]
theorem text_nil : text [] = ByteArray.empty := rfl
/-- What a text's sum says. -/
def sumOf (K : List Nat) (s : St) (l : List Nat) : ByteArray := text (outs (stAt K s (pad l) (blocksOf l.length)).list)
end Go.Proofs.YtdidjdoifpfmmaaGreatDoor
