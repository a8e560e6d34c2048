import Derived.Test.YtdidjdoifpfmmaaGreatDoorGT2
import Derived.Deep.Cut
import Derived.Deep.QuietTactic
import Derived.BigQuiet
import Derived.Deep.Slices
import Derived.ProofKit
import Derived.OpenShut
/- SHA-256, as plain mathematics on numbers. -/
namespace Go.Proofs.YtdidjdoifpfmmaaGreatDoor

def sig0 (x : Nat) : Nat := rotr x 7 ^^^ rotr x 18 ^^^ x / 8
def sig1 (x : Nat) : Nat := rotr x 17 ^^^ rotr x 19 ^^^ x / 1024
/-- The next word of the schedule. -/
def ext (l : List Nat) : Nat := (l.getD (l.length - 16) 0 + l.getD (l.length - 7) 0 + sig0 (l.getD (l.length - 15) 0) + sig1 (l.getD (l.length - 2) 0)) % 4294967296
def sched (ws : List Nat) : Nat → List Nat
  | 0 => ws
  | n + 1 => sched ws n ++ [ext (sched ws n)]
theorem sched_len (ws : List Nat) (n : Nat) : (sched ws n).length = ws.length + n := by
  induction n with
  | zero => rfl
  | succ n ih => simp [sched, ih]; omega

/-- The word that the bytes b[4j] .. say, as far as those ahead of i. -/
def pw (b : List Nat) (i j : Nat) : Nat := (((b.take i).drop (4 * j)).take 4).foldl (fun a x => 256 * a + x) 0
def firstWords (b : List Nat) : List Nat := (List.range 16).map (pw b 64)
/-- All 64 words behind i bytes. -/
def filled (b : List Nat) (i : Nat) : List Nat := (List.range 64).map (pw b i)

theorem filled_len (b : List Nat) (i : Nat) : (filled b i).length = 64 := by simp [filled]
theorem filled_get (b : List Nat) (i j : Nat) (h : j < 64) : (filled b i).getD j 0 = pw b i j := by
  simp [filled, List.getD_eq_getElem?_getD, h]

theorem pw_zero (b : List Nat) (j : Nat) : pw b 0 j = 0 := by simp [pw]
theorem filled_zero (b : List Nat) : filled b 0 = List.replicate 64 0 := by
  unfold filled
  apply List.ext_getElem (by simp)
  intro k h1 h2
  rw [List.getElem_map, List.getElem_replicate, pw_zero]

theorem drop_take_succ (b : List Nat) (i k : Nat) (h : i < b.length) (hk : k ≤ i) : (b.take (i + 1)).drop k = (b.take i).drop k ++ [b.getD i 0] := by
  rw [List.take_succ_eq_append_getElem h, List.drop_append_of_le_length (by simp; omega)]
  simp [List.getD_eq_getElem?_getD, h]

/-- A byte more: the word that it belongs to. -/
theorem pw_step (b : List Nat) (i : Nat) (h : i < b.length) : pw b (i + 1) (i / 4) = 256 * pw b i (i / 4) + b.getD i 0 := by
  unfold pw
  have h1 : 4 * (i / 4) ≤ i := by omega
  have h2 : ((b.take i).drop (4 * (i / 4))).length < 4 := by simp; omega
  rw [drop_take_succ b i _ h h1]
  generalize (b.take i).drop (4 * (i / 4)) = X at *
  rw [List.take_of_length_le (l := X ++ [b.getD i 0]) (by rw [List.length_append]; simp; omega), List.take_of_length_le (l := X) (by omega), List.foldl_append]
  rfl
theorem pw_keep (b : List Nat) (i j : Nat) (h : i < b.length) (hj : j ≠ i / 4) : pw b (i + 1) j = pw b i j := by
  unfold pw
  rcases Nat.lt_or_ge i (4 * j) with h1 | h1
  · rw [List.drop_eq_nil_of_le (by simp; omega), List.drop_eq_nil_of_le (by simp; omega)]
  · rw [drop_take_succ b i _ h h1, List.take_append_of_le_length (by simp; omega)]

theorem fold_lt : ∀ (l : List Nat) (a n : Nat), (∀ x ∈ l, x < 256) → a < 256 ^ n → l.foldl (fun a x => 256 * a + x) a < 256 ^ (n + l.length)
  | [], a, n, _, h => by simpa using h
  | x :: l, a, n, hx, h => by
    have h1 := hx x List.mem_cons_self
    have := fold_lt l (256 * a + x) (n + 1) (fun y hy => hx y (List.mem_cons_of_mem _ hy)) (by rw [Nat.pow_succ]; omega)
    simp only [List.foldl_cons, List.length_cons]
    rwa [show n + (l.length + 1) = n + 1 + l.length by omega]

theorem pw_lt (b : List Nat) (i j n : Nat) (hb : ∀ x ∈ b, x < 256) (hn : (((b.take i).drop (4 * j)).take 4).length ≤ n) : pw b i j < 256 ^ n := by
  have h := fold_lt (((b.take i).drop (4 * j)).take 4) 0 0 (fun x hx => hb x (List.mem_of_mem_take (List.mem_of_mem_drop (List.mem_of_mem_take hx)))) (by decide)
  rw [Nat.zero_add] at h
  exact Nat.lt_of_lt_of_le h (Nat.pow_le_pow_right (by decide) hn)
theorem pw_lt4 (b : List Nat) (i j : Nat) (hb : ∀ x ∈ b, x < 256) : pw b i j < 4294967296 := by
  have := pw_lt b i j 4 hb (by simp; omega)
  omega
theorem pw_lt3 (b : List Nat) (i : Nat) (hb : ∀ x ∈ b, x < 256) : pw b i (i / 4) < 16777216 := by
  have := pw_lt b i (i / 4) 3 hb (by simp; omega)
  omega

theorem filled_step (b : List Nat) (i : Nat) (hb : b.length = 64) (h : i < 64) : (filled b i).set (i / 4) (256 * pw b i (i / 4) + b.getD i 0) = filled b (i + 1) := by
  apply List.ext_getElem (by simp [filled])
  intro k h1 h2
  have hk : k < 64 := by simpa [filled] using h2
  by_cases e : i / 4 = k
  · subst e
    rw [List.getElem_set_self]
    simp [filled, pw_step b i (by omega)]
  · rw [List.getElem_set_ne e]
    simp [filled, pw_keep b i k (by omega) (Ne.symm e)]

theorem pw_over (b : List Nat) (i j : Nat) (hi : i ≤ 64) (hj : 16 ≤ j) : pw b i j = 0 := by
  unfold pw
  rw [List.drop_eq_nil_of_le (by simp; omega)]; rfl

/-- The schedule as it lies in memory: what is done, and zeros. -/
def laid (b : List Nat) (n : Nat) : List Nat := sched (firstWords b) n ++ List.replicate (48 - n) 0
theorem firstWords_len (b : List Nat) : (firstWords b).length = 16 := by simp [firstWords]
theorem laid_len (b : List Nat) (n : Nat) (h : n ≤ 48) : (laid b n).length = 64 := by
  simp [laid, sched_len, firstWords_len]; omega
theorem filled_end (b : List Nat) : filled b 64 = laid b 0 := by
  unfold laid sched firstWords filled
  apply List.ext_getElem (by simp)
  intro k h1 h2
  have hk : k < 64 := by simpa using h1
  rcases Nat.lt_or_ge k 16 with h | h
  · rw [List.getElem_append_left (by simpa using h), List.getElem_map, List.getElem_map, List.getElem_range, List.getElem_range]
  · rw [List.getElem_append_right (by simpa using h), List.getElem_map, List.getElem_range, List.getElem_replicate, pw_over b 64 k (by omega) h]
theorem laid_get (b : List Nat) (n j : Nat) (h : j < 16 + n) : (laid b n).getD j 0 = (sched (firstWords b) n).getD j 0 := by
  unfold laid
  rw [List.getD_eq_getElem?_getD, List.getElem?_append_left (by rw [sched_len, firstWords_len]; omega), List.getD_eq_getElem?_getD]
theorem laid_step (b : List Nat) (n : Nat) (h : n < 48) : (laid b n).set (n + 16) (ext (sched (firstWords b) n)) = laid b (n + 1) := by
  have hl : (sched (firstWords b) n).length = n + 16 := by rw [sched_len, firstWords_len]; omega
  unfold laid
  rw [List.set_append_right _ _ (by omega), hl, Nat.sub_self, show 48 - n = (48 - (n + 1)) + 1 by omega, List.replicate_succ, List.set_cons_zero]
  simp [sched]

theorem xor_lt (a b : Nat) (ha : a < 4294967296) (hb : b < 4294967296) : a ^^^ b < 4294967296 := Nat.xor_lt_two_pow (n := 32) ha hb
theorem and_lt (a b : Nat) (hb : b < 4294967296) : a &&& b < 4294967296 := Nat.and_lt_two_pow (n := 32) a hb
theorem sig0_lt (x : Nat) (h : x < 4294967296) : sig0 x < 4294967296 := xor_lt _ _ (xor_lt _ _ (rotr_lt _ _) (rotr_lt _ _)) (by omega)
theorem sig1_lt (x : Nat) (h : x < 4294967296) : sig1 x < 4294967296 := xor_lt _ _ (xor_lt _ _ (rotr_lt _ _) (rotr_lt _ _)) (by omega)
theorem ext_lt (l : List Nat) : ext l < 4294967296 := Nat.mod_lt _ (by decide)

theorem sched_lt (ws : List Nat) (h : ∀ x ∈ ws, x < 4294967296) : ∀ n, ∀ x ∈ sched ws n, x < 4294967296
  | 0, x, hx => h x hx
  | n + 1, x, hx => by
    rcases List.mem_append.1 hx with hx | hx
    · exact sched_lt ws h n x hx
    · simp at hx; subst hx; exact ext_lt _
theorem first_lt (b : List Nat) (hb : ∀ x ∈ b, x < 256) : ∀ y ∈ firstWords b, y < 4294967296 := by
  intro y hy
  simp only [firstWords, List.mem_map] at hy
  obtain ⟨j, _, rfl⟩ := hy
  exact pw_lt4 b 64 j hb
theorem ext_at (ws : List Nat) (n : Nat) (h : ws.length = 16) : ext (sched ws n) = ((sched ws n).getD n 0 + (sched ws n).getD (n + 9) 0 + sig0 ((sched ws n).getD (n + 1) 0) + sig1 ((sched ws n).getD (n + 14) 0)) % 4294967296 := by
  unfold ext
  rw [sched_len, h, show 16 + n - 16 = n by omega, show 16 + n - 7 = n + 9 by omega, show 16 + n - 15 = n + 1 by omega, show 16 + n - 2 = n + 14 by omega]
theorem getD_lt32 (l : List Nat) (h : ∀ x ∈ l, x < 4294967296) (j : Nat) : l.getD j 0 < 4294967296 := by
  rw [List.getD_eq_getElem?_getD]
  cases e : l[j]? with
  | none => simp
  | some x => exact h x (List.mem_of_getElem? e)
theorem laid_lt (b : List Nat) (hb : ∀ x ∈ b, x < 256) (n : Nat) : ∀ x ∈ laid b n, x < 4294967296 := by
  intro x hx
  rcases List.mem_append.1 hx with hx | hx
  · refine sched_lt _ ?_ n x hx
    intro y hy
    simp only [firstWords, List.mem_map] at hy
    obtain ⟨j, _, rfl⟩ := hy
    exact pw_lt4 b 64 j hb
  · simp at hx; omega

/-- The eight words. -/
structure St where
  (a b c d e f g h : Nat)
def St.list (s : St) : List Nat := [s.a, s.b, s.c, s.d, s.e, s.f, s.g, s.h]
structure St.Ok (s : St) : Prop where
  a : s.a < 4294967296
  b : s.b < 4294967296
  c : s.c < 4294967296
  d : s.d < 4294967296
  e : s.e < 4294967296
  f : s.f < 4294967296
  g : s.g < 4294967296
  h : s.h < 4294967296
def big1 (e : Nat) : Nat := rotr e 6 ^^^ rotr e 11 ^^^ rotr e 25
def big0 (a : Nat) : Nat := rotr a 2 ^^^ rotr a 13 ^^^ rotr a 22
def choice (e f g : Nat) : Nat := (e &&& f) ^^^ ((4294967295 - e) &&& g)
def majority (a b c : Nat) : Nat := (a &&& b) ^^^ (a &&& c) ^^^ (b &&& c)
def tOne (s : St) (k w : Nat) : Nat := s.h + big1 s.e + choice s.e s.f s.g + k + w
def tTwo (s : St) : Nat := big0 s.a + majority s.a s.b s.c
def St.round (s : St) (k w : Nat) : St := ⟨(tOne s k w + tTwo s) % 4294967296, s.a, s.b, s.c, (s.d + tOne s k w) % 4294967296, s.e, s.f, s.g⟩
def St.run (K ws : List Nat) (s : St) : Nat → St
  | 0 => s
  | n + 1 => (St.run K ws s n).round (K.getD n 0) (ws.getD n 0)
theorem big1_lt (x : Nat) : big1 x < 4294967296 := xor_lt _ _ (xor_lt _ _ (rotr_lt _ _) (rotr_lt _ _)) (rotr_lt _ _)
theorem big0_lt (x : Nat) : big0 x < 4294967296 := xor_lt _ _ (xor_lt _ _ (rotr_lt _ _) (rotr_lt _ _)) (rotr_lt _ _)
theorem choice_lt (e f g : Nat) (hf : f < 4294967296) (hg : g < 4294967296) : choice e f g < 4294967296 := xor_lt _ _ (and_lt _ _ hf) (and_lt _ _ hg)
theorem majority_lt (a b c : Nat) (hb : b < 4294967296) (hc : c < 4294967296) : majority a b c < 4294967296 := xor_lt _ _ (xor_lt _ _ (and_lt _ _ hb) (and_lt _ _ hc)) (and_lt _ _ hc)
theorem St.Ok.round {s : St} (h : s.Ok) (k w : Nat) : (s.round k w).Ok := ⟨Nat.mod_lt _ (by decide), h.a, h.b, h.c, Nat.mod_lt _ (by decide), h.e, h.f, h.g⟩
theorem St.Ok.run {s : St} (h : s.Ok) (K ws : List Nat) : ∀ n, (St.run K ws s n).Ok
  | 0 => h
  | n + 1 => (St.Ok.run h K ws n).round _ _
/-- Two lists of words, added. -/
def addW (l m : List Nat) : List Nat := List.zipWith (fun x y => (x + y) % 4294967296) l m
/-- The eight words behind one more block of 64 bytes. -/
def mix (K : List Nat) (s : St) (b : List Nat) : List Nat := addW s.list (St.run K (laid b 48) s 64).list
end Go.Proofs.YtdidjdoifpfmmaaGreatDoor
/- CRC-32, bit by bit: the document's answer. -/
namespace Go.Proofs.YtdidjdoifpfmmaaGreatDoor
open Go.RowKit

def crcBit (r : Nat) : Nat := if r % 2 = 1 then (r / 2) ^^^ 3988292384 else r / 2
def crcBits : Nat → Nat → Nat
  | 0, r => r
  | n + 1, r => crcBit (crcBits n r)
def crcOver (l : List Nat) (r : Nat) : Nat := l.foldl (fun r b => crcBits 8 (r ^^^ b)) r
def crc (l : List Nat) : Nat := 4294967295 - crcOver l 4294967295
theorem crcBit_lt (r : Nat) (h : r < 4294967296) : crcBit r < 4294967296 := by
  unfold crcBit
  split
  · exact xor_lt _ _ (by omega) (by decide)
  · omega
theorem crcBits_lt (n r : Nat) (h : r < 4294967296) : crcBits n r < 4294967296 := by
  induction n with
  | zero => exact h
  | succ n ih => exact crcBit_lt _ ih
theorem crcOver_snoc (l : List Nat) (b r : Nat) : crcOver (l ++ [b]) r = crcBits 8 (crcOver l r ^^^ b) := by simp [crcOver]
theorem crcOver_lt : ∀ (l : List Nat) (r : Nat), (∀ x ∈ l, x < 256) → r < 4294967296 → crcOver l r < 4294967296
  | [], r, _, h => h
  | b :: l, r, hb, h => crcOver_lt l _ (fun x hx => hb x (List.mem_cons_of_mem _ hx)) (crcBits_lt 8 _ (xor_lt _ _ h (Nat.lt_trans (hb b List.mem_cons_self) (by decide))))

/-- A text's bytes. -/
def textOf (s : ByteArray) : List Nat := s.data.toList.map UInt8.toNat
theorem textOf_lt (s : ByteArray) : ∀ x ∈ textOf s, x < 256 := by
  intro x hx
  simp only [textOf, List.mem_map] at hx
  obtain ⟨u, _, rfl⟩ := hx
  exact u.toNat_lt
theorem textOf_len (s : ByteArray) : (textOf s).length = s.size := by simp [textOf]
theorem textOf_take (s : ByteArray) (k : Nat) (h : k < s.size) : (textOf s).take (k + 1) = (textOf s).take k ++ [(s[k]).toNat] := by
  rw [List.take_succ_eq_append_getElem (by rw [textOf_len]; exact h)]
  simp [textOf]
  rfl

set_option maxHeartbeats 1000000 in
set_option maxRecDepth 3000 in
theorem crcRef_any (s : ByteArray) (w : World) (hs : s.size ≤ 1000000) :
    Calls Tryz.prog 68 #[.string s] w fun e w' => e = .returned (.int .i64 (crc (textOf s) : Nat)) ∧ w = w' := by
  go_enter Tryz.func68, Tryz.ntmps68
  go_wp2
  go_loop [3, 4] (fun r i => ∃ k : Nat, k ≤ s.size ∧ i = .int .i64 k ∧ r = .int .i64 (crcOver ((textOf s).take k) 4294967295 : Nat)) (fun _ i => s.size - (intOf i).toNat)
  case atStart => exact ⟨0, Nat.zero_le _, rfl, rfl⟩
  case round =>
    obtain ⟨k, hk, rfl, rfl⟩ := hrel
    have hlt := crcOver_lt ((textOf s).take k) 4294967295 (fun x hx => textOf_lt s x (List.mem_of_mem_take hx)) (by decide)
    by_cases hks : k < s.size
    · have hsn : Hid _ := textOf_take s k hks
      have hst : Hid _ := crcOver_snoc ((textOf s).take k) (s[k]).toNat 4294967295
      have hb : (s[k]).toNat < 256 := (s[k]).toNat_lt
      have hx := i64_xor_nat (crcOver ((textOf s).take k) 4294967295) (s[k]).toNat (by omega) (by omega)
      have hxl := xor_lt (crcOver ((textOf s).take k) 4294967295) (s[k]).toNat hlt (by omega)
      have hfin : Hid (crcOver ((textOf s).take (k + 1)) 4294967295 = crcBits 8 (crcOver ((textOf s).take k) 4294967295 ^^^ (s[k]).toNat)) := by rw [hsn.out]; exact hst.out
      clear hsn hst
      generalize crcOver ((textOf s).take k) 4294967295 = r at hlt hx hxl hfin ⊢
      go_wp2
      generalize r ^^^ (s[k]).toNat = r0 at hxl hfin ⊢
      go_loop [3, 5] (fun r i => ∃ m : Nat, m ≤ 8 ∧ i = .int .i64 m ∧ r = .int .i64 (crcBits m r0 : Nat)) (fun _ i => 8 - (intOf i).toNat)
      case atStart => exact ⟨0, by omega, rfl, rfl⟩
      case round =>
        obtain ⟨m, hm, rfl, rfl⟩ := hrel
        by_cases hm8 : m < 8
        · have hl := crcBits_lt m r0 hxl
          have hnx : Hid (crcBits (m + 1) r0 = crcBit (crcBits m r0)) := rfl
          generalize crcBits m r0 = q at hl hnx ⊢
          by_cases hodd : q % 2 = 1
          · have ho : (q : Int) % 2 = 1 := by omega
            have hxo := i64_xor_nat (q / 2) 3988292384 (by omega) (by decide)
            have hq : Hid (crcBits (m + 1) r0 = (q / 2) ^^^ 3988292384) := by rw [hnx.out]; unfold crcBit; rw [if_pos hodd]; rfl
            go_wp2
            go_round
            case rel => exact ⟨m + 1, by omega, by go_num, by rw [hq.out]; exact congrArg (Value.int .i64) hxo⟩
            case measure => simp [intOf]; omega
          · have ho : (q : Int) % 2 = 0 := by omega
            have hq : Hid (crcBits (m + 1) r0 = q / 2) := by rw [hnx.out]; unfold crcBit; rw [if_neg hodd]; rfl
            go_wp2
            go_round
            case rel => exact ⟨m + 1, by omega, by go_num, by rw [hq.out]; rfl⟩
            case measure => simp [intOf]; omega
        · have em : 8 = m := by omega
          have hq : Hid (crcOver ((textOf s).take (k + 1)) 4294967295 = crcBits m r0) := by rw [← em]; exact hfin.out
          go_wp2
          go_round
          case rel => exact ⟨k + 1, by omega, by go_num, by rw [hq.out]⟩
          case measure => simp [intOf]; omega
    · have hfull : Hid (crc (textOf s) = 4294967295 - crcOver ((textOf s).take k) 4294967295) := by
        show crc (textOf s) = _
        rw [List.take_of_length_le (by rw [textOf_len]; omega)]; rfl
      generalize crcOver ((textOf s).take k) 4294967295 = r at hlt hfull ⊢
      go_wp2
      go_ret
      exact ⟨by rw [hfull.out]; exact ret_eq (congrArg (Value.int .i64) (by omega)), rfl⟩
end Go.Proofs.YtdidjdoifpfmmaaGreatDoor
namespace Go.Proofs.YtdidjdoifpfmmaaGreatDoor
open Go.RowKit Digits

/-- A Maker in memory: its two tables. -/
structure MakerAt (w : World) (p gk gh ck ch : Nat) (K H : List Nat) : Prop where
  k : w.cell? ⟨p, 0, none⟩ = some (.slice (some ⟨gk, 0, none⟩) 64 ck)
  h : w.cell? ⟨p, 1, none⟩ = some (.slice (some ⟨gh, 0, none⟩) 8 ch)
  ks : ∀ j, j < 64 → w.cell? ⟨gk, j, none⟩ = some (.int .i64 (K.getD j 0 : Nat))
  hs : ∀ j, j < 8 → w.cell? ⟨gh, j, none⟩ = some (.int .i64 (H.getD j 0 : Nat))
theorem MakerAt.below {w w' : World} {p gk gh ck ch : Nat} {K H : List Nat} (m : MakerAt w p gk gh ck ch K H) (hb : Below w.heap.size w w') : MakerAt w' p gk gh ck ch K H where
  k := by rw [hb.cell (lt_of_cell m.k)]; exact m.k
  h := by rw [hb.cell (lt_of_cell m.h)]; exact m.h
  ks j hj := by rw [hb.cell (lt_of_cell (m.ks j hj))]; exact m.ks j hj
  hs j hj := by rw [hb.cell (lt_of_cell (m.hs j hj))]; exact m.hs j hj

theorem MakerAt.other {w : World} {p gk gh ck ch : Nat} {K H : List Nat} (m : MakerAt w p gk gh ck ch K H) (a : Addr) (v : Value) (h1 : a.block ≠ p) (h2 : a.block ≠ gk) (h3 : a.block ≠ gh) : MakerAt (w.setCell a v) p gk gh ck ch K H where
  k := by rw [World.cell?_of_block (Below.heap_setCell _ _ _ _ (Ne.symm h1))]; exact m.k
  h := by rw [World.cell?_of_block (Below.heap_setCell _ _ _ _ (Ne.symm h1))]; exact m.h
  ks j hj := by rw [World.cell?_of_block (Below.heap_setCell _ _ _ _ (Ne.symm h2))]; exact m.ks j hj
  hs j hj := by rw [World.cell?_of_block (Below.heap_setCell _ _ _ _ (Ne.symm h3))]; exact m.hs j hj
theorem kList_get (j : Nat) (h : j < 64) : kList.getD j 0 = rootOf ((primesTo 310).getD j 0) 3 := by
  unfold kList
  exact getD_map _ _ j (by rw [primes_len]; exact h)
theorem hList_get (j : Nat) (h : j < 8) : hList.getD j 0 = rootOf ((primesTo 310).getD j 0) 2 := by
  unfold hList
  rw [getD_map _ _ j (by rw [List.length_take, primes_len]; omega), getD_take _ _ _ h]

set_option maxHeartbeats 1000000 in
theorem newMaker_any (w : World) :
    Calls Tryz.prog 39 #[] w fun e w' => ∃ p gk gh ck ch, e = .returned (.pointer (some ⟨p, 0, none⟩)) ∧ MakerAt w' p gk gh ck ch kList hList ∧ Below w.heap.size w w' ∧ w.heap.size ≤ p ∧ w.heap.size ≤ gk ∧ w.heap.size ≤ gh := by
  have hC := constants_gen _ rfl w
  have hC2 : Calls Tryz.prog 64 #[] w fun e w' => ∃ gk ck gh ch, e = .returned (.tuple #[.slice (some ⟨gk, 0, none⟩) 64 ck, .slice (some ⟨gh, 0, none⟩) 8 ch]) ∧
      (∀ j, j < 64 → w'.cell? ⟨gk, j, none⟩ = some (.int .i64 (kList.getD j 0 : Nat))) ∧ (∀ j, j < 8 → w'.cell? ⟨gh, j, none⟩ = some (.int .i64 (hList.getD j 0 : Nat))) ∧ Below w.heap.size w w' ∧ w.heap.size ≤ gk ∧ w.heap.size ≤ gh := by
    refine hC.mono ?_
    rintro e w' ⟨gk, ck, gh, ch, he, h1, h2, h3, h4, hb⟩
    exact ⟨gk, ck, gh, ch, he, fun j hj => by rw [kList_get j hj]; exact h1 j hj, fun j hj => by rw [hList_get j hj]; exact h2 j hj, hb, h3, h4⟩
  clear hC
  generalize hk : kList = K at hC2 ⊢
  generalize hh : hList = H at hC2 ⊢
  clear hk hh
  go_enter Tryz.func39, Tryz.ntmps39
  go_wp2_with (go_at_call 64; refine hC2.mono ?_; rintro e w1 ⟨gk, ck, gh, ch, rfl, h1, h2, hb, h3, h4⟩; have H1 : Hid _ := h1; have H2 : Hid _ := h2; clear h1 h2 hC2)
  go_ret
  refine ⟨w1.heap.size, gk, gh, ck, ch, rfl, ⟨by simp, by simp, fun j hj => ?_, fun j hj => ?_⟩, hb.alloc hb.size _, hb.size, h3, h4⟩
  · rw [World.cell?_alloc_lt _ _ _ (lt_of_cell (H1.out j hj))]; exact H1.out j hj
  · rw [World.cell?_alloc_lt _ _ _ (lt_of_cell (H2.out j hj))]; exact H2.out j hj
end Go.Proofs.YtdidjdoifpfmmaaGreatDoor
/- The statements' own loop over a script, whatever a step does. -/
namespace Go.Proofs.YtdidjdoifpfmmaaGreatDoor
open Go.RowKit Digits

/-- One step of a script, read off memory. -/
structure OpR where
  (kind a b d : Int)
  (s t : ByteArray)
def OpR.vals (o : OpR) : List Value := [.int .i64 o.kind, .int .i64 o.a, .int .i64 o.b, .int .i64 o.d, .string o.s, .string o.t]
def OpR.agg (o : OpR) : Value := .agg #[.int .i64 o.kind, .int .i64 o.a, .int .i64 o.b, .int .i64 o.d, .string o.s, .string o.t]
/-- A script in memory. -/
def ScriptAt (w : World) (b off : Nat) (ops : List OpR) : Prop := ∀ i o, ops[i]? = some o → ∀ j v, o.vals[j]? = some v → w.cell? ⟨b, off + i * 6 + j, none⟩ = some v
theorem ScriptAt.below {w w' : World} {B b off : Nat} {ops : List OpR} (h : ScriptAt w b off ops) (hb : Below B w w') (hg : b < B) : ScriptAt w' b off ops := fun i o hi j v hj => by
  rw [hb.cell hg]; exact h i o hi j v hj

set_option maxHeartbeats 1000000 in
set_option maxRecDepth 3000 in
theorem upTo_gen (ops : List OpR) (a0 : Option Addr) (b off cap : Nat) (ha : 0 < ops.length → a0 = some ⟨b, off, none⟩) (made held : Int) (lists : Bool) (w : World) (hs : ScriptAt w b off ops) (hbl : b < w.heap.size) (hn : ops.length ≤ 262144)
    (Inv : World → Nat → Prop) (D : OpR → Bool) (Hd : Int → Bool)
    (hInit : ∀ w1 pm gk gh ck ch, MakerAt w1 pm gk gh ck ch kList hList → RowIs w1 w.heap.size 73 [.pointer (some ⟨pm, 0, none⟩), .slice none 0 0, .slice none 0 0, .slice none 0 0, .int .i64 0, .int .i64 262144] → Below w.heap.size w w1 → Inv w1 w.heap.size)
    (hLeft : ∀ w1 p, Inv w1 p → ∃ l : Int, w1.cell? ⟨p, 5, none⟩ = some (.int .i64 l))
    (hDoes : ∀ o w1, 1 ≤ o.kind → o.kind ≤ 22 → Calls Tryz.prog 40 #[OpR.agg o, .int .i64 made] w1 fun e w' => e = .returned (.bool (D o)) ∧ Below w1.heap.size w1 w')
    (hBelow : ∀ w1 w2 p, Inv w1 p → Below w1.heap.size w1 w2 → Inv w2 p)
    (hStep : ∀ o w1, o ∈ ops → 1 ≤ o.kind → o.kind ≤ 22 → D o = true → Below w.heap.size w w1 → Inv w1 w.heap.size → Calls Tryz.prog 41 #[.pointer (some ⟨w.heap.size, 0, none⟩), OpR.agg o] w1 fun e w' => ∃ ok, e = .returned (.bool ok) ∧ (Hd o.kind = true → ok = true) ∧ Inv w' w.heap.size ∧ Below w.heap.size w w')
    (hLooks : ∀ w1, Inv w1 w.heap.size → Below w.heap.size w w1 → Calls Tryz.prog 42 #[.pointer (some ⟨w.heap.size, 0, none⟩)] w1 fun e w' => e = .returned (.bool true) ∧ Inv w' w.heap.size ∧ Below w.heap.size w w')
    (hHeld : ∀ k : Int, 1 ≤ k → k ≤ 22 → Hd k = false → bits .and .i64 (held / 2 ^ k.toNat) 1 = 0) :
    Calls Tryz.prog 23 #[.slice a0 ops.length cap, .int .i64 made, .int .i64 held, .bool lists] w fun e w' => e = .returned (.int .i64 (-1)) ∧ Below w.heap.size w w' := by
  have HA : Hid _ := ha
  clear ha
  have HInit : Hid _ := hInit
  have HLeft : Hid _ := hLeft
  have HDoes : Hid _ := hDoes
  have HBelow : Hid _ := hBelow
  have HStep : Hid _ := hStep
  have HLooks : Hid _ := hLooks
  have HHeld : Hid _ := hHeld
  clear hInit hLeft hDoes hBelow hStep hLooks hHeld
  go_enter Tryz.func23, Tryz.ntmps23
  go_wp2_with (go_at_call 39; refine (newMaker_any _).mono ?_; rintro e w1 ⟨pm, gk, gh, ck, ch, rfl, hM, hb1, hp1, hp2, hp3⟩; have hr := (RowIs.new w 73 [.pointer none, .slice none 0 0, .slice none 0 0, .slice none 0 0, .int .i64 0, .int .i64 262144]).below hb1 (by simp); have hc := hr.cell 0; have hf := hr.frozen 0; simp only [List.getElem?_cons_zero] at hc)
  have hr1 := hr.set 0 (.pointer (some ⟨pm, 0, none⟩))
  have hb2 : Below w.heap.size w (w1.setCell ⟨w.heap.size, 0, none⟩ (.pointer (some ⟨pm, 0, none⟩))) := (((Below.refl _ _).alloc (Nat.le_refl _) _).trans (hb1.mono (by simp))).setCell (Nat.le_refl _) _
  simp only [World.size_alloc] at hp1 hp2 hp3
  have hI := HInit.out _ pm gk gh ck ch (hM.other ⟨w.heap.size, 0, none⟩ (.pointer (some ⟨pm, 0, none⟩)) (by simp; omega) (by simp; omega) (by simp; omega)) hr1 hb2
  clear hr hr1 hc hf hM hb1 hp1 hp2 hp3 HInit
  go_loopw [10] (fun i wr => ∃ k : Nat, k ≤ ops.length ∧ i = .int .i64 k ∧ Inv wr w.heap.size ∧ Below w.heap.size w wr) (fun i _ => ops.length - (intOf i).toNat)
  case atStart => exact ⟨0, Nat.zero_le _, rfl, hI, hb2⟩
  case round =>
    clear hI hb2
    obtain ⟨k, hk, rfl, hI, hb⟩ := hrel
    obtain ⟨l, hl⟩ := HLeft.out _ _ hI
    by_cases hlt : k < ops.length
    · obtain rfl := HA.out (by omega)
      by_cases hl0 : 0 < l
      · obtain ⟨o, ho⟩ : ∃ o, ops[k]? = some o := ⟨ops[k], List.getElem?_eq_getElem hlt⟩
        have hmem : o ∈ ops := List.mem_of_getElem? ho
        have hsc := (hs.below hb hbl) k o ho
        have s0 : wr.cell? ⟨b, off + k * 6, none⟩ = some (.int .i64 o.kind) := hsc 0 _ rfl
        have s1 : wr.cell? ⟨b, off + k * 6 + 1, none⟩ = some (.int .i64 o.a) := hsc 1 _ rfl
        have s2 : wr.cell? ⟨b, off + k * 6 + 2, none⟩ = some (.int .i64 o.b) := hsc 2 _ rfl
        have s3 : wr.cell? ⟨b, off + k * 6 + 3, none⟩ = some (.int .i64 o.d) := hsc 3 _ rfl
        have s4 : wr.cell? ⟨b, off + k * 6 + 4, none⟩ = some (.string o.s) := hsc 4 _ rfl
        have s5 : wr.cell? ⟨b, off + k * 6 + 5, none⟩ = some (.string o.t) := hsc 5 _ rfl
        have ho2 : Hid (ops[k]? = some o) := ho
        clear hsc ho
        by_cases hr : 1 ≤ o.kind ∧ o.kind ≤ 22
        · obtain ⟨hr1, hr2⟩ := hr
          have hD := HDoes.out o wr hr1 hr2
          unfold OpR.agg at hD
          cases hd : D o
          · rw [hd] at hD
            go_wp2_with (go_at_call 40; refine hD.mono ?_; rintro e w2 ⟨rfl, hb2⟩)
            go_roundw
            case rel => exact ⟨k + 1, by omega, by go_num, HBelow.out _ _ _ hI hb2, hb.trans (hb2.mono hb.size)⟩
            case measure => simp [intOf]; omega
          · rw [hd] at hD
            have hS := fun w2 (hb2 : Below wr.heap.size wr w2) => HStep.out o w2 hmem hr1 hr2 hd (hb.trans (hb2.mono hb.size)) (HBelow.out _ _ _ hI hb2)
            unfold OpR.agg at hS
            have HS : Hid _ := hS
            have hH : Hid _ := HHeld.out o.kind hr1 hr2
            clear hS
            go_wp2_with (first | (go_at_call 40; refine hD.mono ?_; rintro e w2 ⟨rfl, hb2⟩; have hS2 := HS.out w2 hb2; have z := ((hs.below hb hbl).below hb2 (Nat.lt_of_lt_of_le hbl hb.size)) k o ho2.out; have z0 : w2.cell? ⟨b, off + k * 6, none⟩ = some (.int .i64 o.kind) := z 0 _ rfl; have z1 : w2.cell? ⟨b, off + k * 6 + 1, none⟩ = some (.int .i64 o.a) := z 1 _ rfl; have z2 : w2.cell? ⟨b, off + k * 6 + 2, none⟩ = some (.int .i64 o.b) := z 2 _ rfl; have z3 : w2.cell? ⟨b, off + k * 6 + 3, none⟩ = some (.int .i64 o.d) := z 3 _ rfl; have z4 : w2.cell? ⟨b, off + k * 6 + 4, none⟩ = some (.string o.s) := z 4 _ rfl; have z5 : w2.cell? ⟨b, off + k * 6 + 5, none⟩ = some (.string o.t) := z 5 _ rfl; clear hD z HS) | (go_at_call 41; refine hS2.mono ?_; rintro e w3 ⟨ok, rfl, hok, hI3, hb3⟩; clear hS2) | (go_at_call 42; refine (HLooks.out w3 hI3 hb3).mono ?_; rintro e w4 ⟨rfl, hI4, hb4⟩))
            all_goals first
              | (refine ⟨⟨k + 1, by omega, by go_num, hI4, hb4⟩, ?_⟩; simp [intOf]; omega)
              | (exfalso; have hnk : ¬ ok = true := by assumption
                 have hbt : (bits BinOp.and IntKind.i64 (held / 2 ^ o.kind.toNat) 1 == 1) = true := by assumption
                 have hf : Hd o.kind = false := by
                   cases hq : Hd o.kind
                   · rfl
                   · exact absurd (hok hq) hnk
                 rw [hH.out hf] at hbt
                 exact absurd hbt (by decide))
        · by_cases h1 : o.kind < 1
          · go_wp2
            go_roundw
            case rel => exact ⟨k + 1, by omega, by go_num, hI, hb⟩
            case measure => simp [intOf]; omega
          · have h2 : 22 < o.kind := by omega
            go_wp2
            go_roundw
            case rel => exact ⟨k + 1, by omega, by go_num, hI, hb⟩
            case measure => simp [intOf]; omega
      · go_wp2
        go_ret
        exact ⟨rfl, hb⟩
    · go_wp2
      go_ret
      exact ⟨rfl, hb⟩
end Go.Proofs.YtdidjdoifpfmmaaGreatDoor
namespace Go.Proofs.YtdidjdoifpfmmaaGreatDoor
open Go.RowKit Digits

/-- Is a script small enough that something is claimed of it? -/
def Fits (ops : List OpR) : Prop := ops.length ≤ 262144 ∧ ∀ o ∈ ops, o.s.size ≤ 262144 ∧ o.t.size ≤ 262144

set_option maxHeartbeats 1000000 in
set_option maxRecDepth 3000 in
theorem small_any (ops : List OpR) (a0 : Option Addr) (b off cap : Nat) (ha : 0 < ops.length → a0 = some ⟨b, off, none⟩) (w : World) (hs : ScriptAt w b off ops) (hlen : ops.length ≤ maxLen) (hz : ∀ o ∈ ops, o.s.size ≤ 140737488351232 ∧ o.t.size ≤ 140737488351232) :
    Calls Tryz.prog 22 #[.slice a0 ops.length cap] w fun e w' => ∃ f, e = .returned (.bool f) ∧ (f = true → Fits ops) ∧ Below w.heap.size w w' := by
  unfold maxLen at hlen
  have HA : Hid _ := ha
  have HZ : Hid _ := hz
  clear ha hz
  by_cases hbig : 262144 < ops.length
  · have hbig' : (262144 : Int) < (ops.length : Int) := by omega
    go_enter Tryz.func22, Tryz.ntmps22
    go_wp2
    go_ret
    exact ⟨false, rfl, fun h => (Bool.noConfusion h), Below.refl _ _⟩
  · have hbig' : ¬ (262144 : Int) < (ops.length : Int) := by omega
    go_enter Tryz.func22, Tryz.ntmps22
    go_wp2
    go_loopw [3, 4] (fun n i wr => ∃ (k : Nat) (m : Nat), k ≤ ops.length ∧ i = .int .i64 k ∧ n = .int .i64 m ∧ m ≤ 262144 ∧ Hid (∀ j o, j < k → ops[j]? = some o → o.s.size ≤ 262144 ∧ o.t.size ≤ 262144) ∧ Below w.heap.size w wr ∧ Hid (wr.heap = w.heap)) (fun _ i _ => ops.length - (intOf i).toNat)
    case atStart => exact ⟨0, ops.length, Nat.zero_le _, rfl, rfl, by omega, fun j o hj => absurd hj (Nat.not_lt_zero _), Below.refl _ _, rfl⟩
    case round =>
      obtain ⟨k, m, hk, rfl, rfl, hm, hall, hb, hhp⟩ := hrel
      by_cases hlt : k < ops.length
      · obtain rfl := HA.out (by omega)
        obtain ⟨o, ho⟩ : ∃ o, ops[k]? = some o := ⟨ops[k], List.getElem?_eq_getElem hlt⟩
        have hz := HZ.out o (List.mem_of_getElem? ho)
        have s4 : wr.cell? ⟨b, off + k * 6 + 4, none⟩ = some (.string o.s) := by rw [← hs k o ho 4 _ rfl]; simp only [World.cell?, hhp.out]
        have s5 : wr.cell? ⟨b, off + k * 6 + 5, none⟩ = some (.string o.t) := by rw [← hs k o ho 5 _ rfl]; simp only [World.cell?, hhp.out]
        have ho2 : Hid (ops[k]? = some o) := ho
        obtain ⟨z1, z2⟩ := hz
        clear ho
        by_cases hgt : 262144 < m + o.s.size + o.t.size
        · have hgt' : (262144 : Int) < (m : Int) + (o.s.size : Int) + (o.t.size : Int) := by omega
          go_wp2
          go_quiet (fail)
          go_wp2
          go_ret
          exact ⟨false, rfl, fun h => (Bool.noConfusion h), below_drewN hb _⟩
        · have hgt' : ¬ (262144 : Int) < (m : Int) + (o.s.size : Int) + (o.t.size : Int) := by omega
          go_wp2
          go_quiet (fail)
          have hb2 := below_drewN hb nq
          have hh2 : Hid ((wr.drewN nq).heap = w.heap) := hhp.out
          generalize wr.drewN nq = wq at hb2 hh2 ⊢
          go_wp2
          go_roundw
          case rel =>
            refine ⟨k + 1, m + o.s.size + o.t.size, by omega, by go_num, by go_num, by omega, ?_, hb2, hh2⟩
            intro j p hj hp
            by_cases e : j = k
            · subst e
              obtain rfl : o = p := Option.some.inj (ho2.out.symm.trans hp)
              omega
            · exact hall.out j p (by omega) hp
          case measure => simp [intOf]; omega
      · have hf : Hid (Fits ops) := ⟨by omega, fun o ho => by
          obtain ⟨j, hj, rfl⟩ := List.mem_iff_getElem.1 ho
          exact hall.out j _ (by omega) (List.getElem?_eq_getElem hj)⟩
        go_wp2
        go_ret
        exact ⟨true, rfl, fun _ => hf.out, hb⟩
end Go.Proofs.YtdidjdoifpfmmaaGreatDoor
namespace Go.Proofs.YtdidjdoifpfmmaaGreatDoor
open Go.RowKit Digits

theorem not_false {f : Bool} (h : (!f) = false) : f = true := by cases f <;> simp_all

set_option maxHeartbeats 1000000 in
theorem plays_gen (ops : List OpR) (a0 : Option Addr) (b off cap : Nat) (ha : 0 < ops.length → a0 = some ⟨b, off, none⟩) (made held : Int) (lists : Bool) (w : World) (hs : ScriptAt w b off ops) (hlen : ops.length ≤ maxLen) (hz : ∀ o ∈ ops, o.s.size ≤ 140737488351232 ∧ o.t.size ≤ 140737488351232)
    (hUp : ∀ w1, Below w.heap.size w w1 → Fits ops → Calls Tryz.prog 23 #[.slice a0 ops.length cap, .int .i64 made, .int .i64 held, .bool lists] w1 fun e w' => e = .returned (.int .i64 (-1)) ∧ Below w1.heap.size w1 w') :
    Calls Tryz.prog 13 #[.slice a0 ops.length cap, .int .i64 made, .int .i64 held, .bool lists] w fun e w' => e = .returned (.bool true) ∧ Below w.heap.size w w' := by
  have hS := small_any ops a0 b off cap ha w hs hlen hz
  have HU : Hid _ := hUp
  clear hUp ha hs hz
  go_enter Tryz.func13, Tryz.ntmps13
  go_wp2_with (first | (go_at_call 22; refine hS.mono ?_; rintro e w1 ⟨f, rfl, hf, hb1⟩; clear hS) | (go_at_call 23; refine (HU.out w1 hb1 (hf (not_false (by assumption)))).mono ?_; rintro e w2 ⟨rfl, hb2⟩))
  all_goals go_ret
  all_goals first | exact ⟨rfl, hb1.trans (hb2.mono hb1.size)⟩ | exact ⟨rfl, hb1⟩
end Go.Proofs.YtdidjdoifpfmmaaGreatDoor
/- A script that comes in, opened: the argument of every statement over steps. -/
namespace Go.Proofs.YtdidjdoifpfmmaaGreatDoor
open Go.RowKit Go.Deep Go.ChangeShapes Go.WideShapes

theorem cellsOp : Tryz.prog.cellsOf 67 = 6 := by kernel_rfl
theorem cellsInt : Tryz.prog.cellsOf 3 = 1 := by kernel_rfl
theorem cellsStr : Tryz.prog.cellsOf 9 = 1 := by kernel_rfl

theorem six_of {α : Type} (l : List α) (h : l.length = 6) : ∃ a b c d e f, l = [a, b, c, d, e, f] := by
  match l, h with
  | [a, b, c, d, e, f], _ => exact ⟨a, b, c, d, e, f, rfl⟩

/-- How a step reads. -/
def OpR.datum {H : Type} (o : OpR) : DataW H := .agg [.lit (.int .i64 o.kind), .lit (.int .i64 o.a), .lit (.int .i64 o.b), .lit (.int .i64 o.d), .lit (.string o.s.data.toList), .lit (.string o.t.data.toList)]
theorem weightsAll_mem {H : Type} {e : TypeId} : ∀ {l : List (DataW H)} {d : DataW H} {n : Nat}, d ∈ l → n ∈ d.weights Tryz.prog e → n ∈ DataW.weightsAll Tryz.prog e l
  | x :: l, d, n, hd, hn => by
    simp only [DataW.weightsAll, List.mem_append]
    rcases List.mem_cons.1 hd with rfl | hd
    · exact Or.inl hn
    · exact Or.inr (weightsAll_mem hd hn)
theorem datum_sizes {H : Type} (o : OpR) : o.s.size ∈ (OpR.datum (H := H) o).weights Tryz.prog 67 ∧ o.t.size ∈ (OpR.datum (H := H) o).weights Tryz.prog 67 := by
  simp only [OpR.datum, DataW.weights, Tryz.underlying67]
  simp [DataW.weightsEach, DataW.weights]

section
variable {H : Type} {enc : TypeId × Value → H} {W : World} {base : Nat} {spare : Nat → Bool} {held : Bool}

theorem trod_struct6 {t : TypeId} {f0 f1 f2 f3 f4 f5 : Field} {fuel : Nat} {cs : List Value} {x : DataW H × List MemPlace} (ht : Tryz.prog.underlying t = some (.struct #[f0, f1, f2, f3, f4, f5])) (h : DataW.trod enc Tryz.prog W base spare held fuel t cs = some x) :
    ∃ y0 y1 y2 y3 y4 y5 n, x.1 = .agg [y0.1, y1.1, y2.1, y3.1, y4.1, y5.1] ∧ cs.length = Tryz.prog.cellsOf t ∧ DataW.trod enc Tryz.prog W base spare held n f0.type ((cs.drop f0.offset).take (Tryz.prog.cellsOf f0.type)) = some y0 ∧ DataW.trod enc Tryz.prog W base spare held n f1.type ((cs.drop f1.offset).take (Tryz.prog.cellsOf f1.type)) = some y1 ∧
      DataW.trod enc Tryz.prog W base spare held n f2.type ((cs.drop f2.offset).take (Tryz.prog.cellsOf f2.type)) = some y2 ∧ DataW.trod enc Tryz.prog W base spare held n f3.type ((cs.drop f3.offset).take (Tryz.prog.cellsOf f3.type)) = some y3 ∧
      DataW.trod enc Tryz.prog W base spare held n f4.type ((cs.drop f4.offset).take (Tryz.prog.cellsOf f4.type)) = some y4 ∧ DataW.trod enc Tryz.prog W base spare held n f5.type ((cs.drop f5.offset).take (Tryz.prog.cellsOf f5.type)) = some y5 := by
  obtain ⟨xs, n, _, hx, hl, hlen, hf⟩ := DataW.trod_struct ht h
  obtain ⟨y0, y1, y2, y3, y4, y5, rfl⟩ := six_of xs hlen
  exact ⟨y0, y1, y2, y3, y4, y5, n, by rw [hx]; rfl, hl, by simpa using hf 0 f0 rfl, by simpa using hf 1 f1 rfl, by simpa using hf 2 f2 rfl, by simpa using hf 3 f3 rfl, by simpa using hf 4 f4 rfl, by simpa using hf 5 f5 rfl⟩

/-- Its numbers are ints. -/
def OpR.Fit (o : OpR) : Prop := (-9223372036854775808 ≤ o.kind ∧ o.kind ≤ 9223372036854775807) ∧ (-9223372036854775808 ≤ o.a ∧ o.a ≤ 9223372036854775807) ∧ (-9223372036854775808 ≤ o.b ∧ o.b ≤ 9223372036854775807) ∧ (-9223372036854775808 ≤ o.d ∧ o.d ≤ 9223372036854775807)
theorem int_wf {n : Int} (h : (Lit.int .i64 n).wf = true) : -9223372036854775808 ≤ n ∧ n ≤ 9223372036854775807 := by
  simpa [Lit.wf, IntKind.min, IntKind.max, IntKind.signed, IntKind.bits] using h
theorem op_of_trod {n : Nat} {cs : List Value} {x : DataW H × List MemPlace} (h : DataW.trod enc Tryz.prog W base spare held n 67 cs = some x) :
    ∃ o : OpR, cs = o.vals ∧ x.1 = o.datum ∧ o.Fit := by
  obtain ⟨y0, y1, y2, y3, y4, y5, m, hx, hl, h0, h1, h2, h3, h4, h5⟩ := trod_struct6 Tryz.underlying67 h
  rw [cellsOp] at hl
  obtain ⟨c0, c1, c2, c3, c4, c5, rfl⟩ := six_of cs hl
  simp only [cellsInt, cellsStr, List.drop_zero, List.drop_succ_cons, List.take_succ_cons, List.take_zero] at h0 h1 h2 h3 h4 h5
  obtain ⟨n0, e0, rfl, q0⟩ := DataW.trod_int Tryz.underlying3 h0
  obtain ⟨n1, e1, rfl, q1⟩ := DataW.trod_int Tryz.underlying3 h1
  obtain ⟨n2, e2, rfl, q2⟩ := DataW.trod_int Tryz.underlying3 h2
  obtain ⟨n3, e3, rfl, q3⟩ := DataW.trod_int Tryz.underlying3 h3
  obtain ⟨s4, e4, rfl, _⟩ := DataW.trod_string Tryz.underlying9 h4
  obtain ⟨s5, e5, rfl, _⟩ := DataW.trod_string Tryz.underlying9 h5
  simp only [List.cons.injEq, and_true] at e0 e1 e2 e3 e4 e5
  subst e0 e1 e2 e3 e4 e5
  exact ⟨⟨n0, n1, n2, n3, s4, s5⟩, rfl, hx, int_wf q0, int_wf q1, int_wf q2, int_wf q3⟩

instance : Inhabited OpR := ⟨⟨0, 0, 0, 0, ByteArray.empty, ByteArray.empty⟩⟩

/-- A script that came in. -/
theorem script_of_trod {fuel : Nat} {v : Value} {x : DataW H × List MemPlace} (h : DataW.trod enc Tryz.prog W base spare held fuel 22 [v] = some x) :
    ∃ (ops : List OpR) (a0 : Option Addr) (b off cap : Nat), v = .slice a0 ops.length cap ∧ (0 < ops.length → a0 = some ⟨b, off, none⟩) ∧ ScriptAt W b off ops ∧ (0 < ops.length → b < W.heap.size) ∧ ops.length ≤ maxLen ∧ (ops = [] ∨ ∃ sp, x.1 = .slice (ops.map OpR.datum) sp) ∧ (∀ o ∈ ops, o.Fit) := by
  rcases open_slice Tryz.underlying22 h with ⟨hc, _⟩ | ⟨a, len, cap, m, n, D, Pl, hc, _, hl, hcm, hm, hxd, hx⟩
  · simp only [List.cons.injEq, and_true] at hc
    subst hc
    exact ⟨[], none, 0, 0, 0, rfl, fun h => absurd h (by decide), fun i o hi => by simp at hi, fun h => absurd h (by decide), by decide, Or.inl rfl, fun o ho => by simp at ho⟩
  · simp only [List.cons.injEq, and_true] at hc
    subst hc
    have hlm : len ≤ m := by rw [hm]; split <;> omega
    rw [cellsOp] at hx
    obtain ⟨F, hF⟩ := choose_lt (α := OpR) (n := len) (p := fun i o => (∀ j v, o.vals[j]? = some v → W.cell? (a.add (i * 6 + j)) = some v) ∧ D i = o.datum ∧ o.Fit) (fun i hi => by
      obtain ⟨cs', h1, h2⟩ := hx i (by omega)
      obtain ⟨_, hlen, hcell⟩ := World.cells?_some h1
      obtain ⟨o, rfl, hdat, hfit⟩ := op_of_trod h2
      refine ⟨o, fun j v hj => ?_, hdat, hfit⟩
      have hj6 : j < 6 := by
        rcases Nat.lt_or_ge j 6 with h | h
        · exact h
        · rw [List.getElem?_eq_none (by rw [hlen]; exact h)] at hj; cases hj
      rw [← add_add, hcell j hj6, hj])
    have hlen : ((List.range len).map F).length = len := by simp
    have hget : ∀ i o, ((List.range len).map F)[i]? = some o → i < len ∧ o = F i := by
      intro i o hi
      rcases Nat.lt_or_ge i len with h | h
      · simp [h] at hi; exact ⟨h, hi.symm⟩
      · rw [List.getElem?_eq_none (by simpa using h)] at hi; cases hi
    have hspot : 0 < len → a = ⟨a.block, a.off, none⟩ := fun h0 => by
      have := World.cell?_spot ((hF 0 h0).1 0 _ rfl)
      simp [Addr.add] at this
      cases a
      simp_all
    refine ⟨(List.range len).map F, some a, a.block, a.off, cap, by rw [hlen], fun h0 => by rw [hlen] at h0; exact congrArg some (hspot h0), ?_, ?_, by rw [hlen]; omega, Or.inr ⟨(List.range (m - len)).map fun j => D (len + j), ?_⟩, ?_⟩
    · intro i o hi j v hj
      obtain ⟨hi', rfl⟩ := hget i o hi
      have h := (hF i hi').1 j v hj
      rw [hspot (by omega), add_plain] at h
      rw [Nat.add_assoc]; exact h
    · intro h0
      rw [hlen] at h0
      have h := (hF 0 h0).1 0 _ rfl
      have := lt_of_cell h
      simpa [Addr.add] using this
    · rw [hxd]
      show DataW.slice _ _ = DataW.slice _ _
      congr 1
      rw [List.map_map]
      apply List.map_congr_left
      intro i hi
      exact (hF i (by simpa using hi)).2.1
    · intro o ho
      obtain ⟨i, hi, rfl⟩ := List.mem_map.1 ho
      exact (hF i (by simpa using hi)).2.2

/-- The reach, of a script's texts. -/
theorem script_sizes {ts : List TypeId} {ds : List (DataW H)} {d : DataW H} {ops : List OpR} {sp : List (DataW H)} (h : (DataW.weightsEach Tryz.prog (22 :: ts) (d :: ds)).all (· ≤ reachBytes) = true) (hd : d = .slice (ops.map OpR.datum) sp) :
    ∀ o ∈ ops, o.s.size ≤ 140737488351232 ∧ o.t.size ≤ 140737488351232 := by
  intro o ho
  have key : ∀ n, n ∈ (OpR.datum (H := H) o).weights Tryz.prog 67 → n ≤ 140737488351232 := by
    intro n hn
    have hm : n ∈ d.weights Tryz.prog 22 := by
      rw [hd]
      simp only [DataW.weights, Tryz.underlying22]
      exact List.mem_cons_of_mem _ (List.mem_append_left _ (weightsAll_mem (List.mem_map_of_mem ho) hn))
    have := List.all_eq_true.1 h n (DataW.weights_mem_each (j := 0) rfl rfl n hm)
    have e : reachBytes = 140737488351232 := by decide
    simp only [decide_eq_true_eq] at this
    omega
  exact ⟨key _ (datum_sizes o).1, key _ (datum_sizes o).2⟩
end
end Go.Proofs.YtdidjdoifpfmmaaGreatDoor
