import Derived.Test.YtdidjdoifpfmmaaGreatDoorGA1
import Derived.Laws.BitsAllLaws
import Derived.BigRegion
import Derived.Laws.Tables
import Derived.Deep.RegionWith
import Derived.Deep.Cut
/- Words of 32 bits, turned. -/
namespace Go.Proofs.YtdidjdoifpfmmaaGreatDoor
open Go.RowKit

def W32 : Nat := 4294967296
/-- A word's bits, turned right. -/
def rotr (x n : Nat) : Nat := (x / 2 ^ n ||| x * 2 ^ (32 - n)) % 4294967296
theorem rotr_lt (x n : Nat) : rotr x n < 4294967296 := Nat.mod_lt _ (by decide)

theorem rot_amt (n : Nat) (h0 : 1 ≤ n) (h1 : n ≤ 31) : bits .and .u64 (IntKind.u64.wrap (-(n : Int))) 31 = ((32 - n : Nat) : Int) := by
  have e : IntKind.u64.wrap (-(n : Int)) = ((18446744073709551616 - n : Nat) : Int) := by rw [IntKind.wrap_u64]; omega
  rw [e]
  have h := u64_and_nat (18446744073709551616 - n) 31 (by omega) (by decide)
  have e2 : ((31 : Nat) : Int) = 31 := rfl
  rw [e2] at h
  rw [h, nat_mask5]
  omega

theorem rotr_eq (x n : Nat) (hx : x < 4294967296) : rotr x n = (x * 2 ^ (32 - n) % 4294967296) ||| x / 2 ^ n := by
  unfold rotr
  have e : (4294967296 : Nat) = 2 ^ 32 := by decide
  rw [e, Nat.or_mod_two_pow, Nat.or_comm]
  congr 1
  exact Nat.mod_eq_of_lt (Nat.lt_of_le_of_lt (Nat.div_le_self _ _) (by rw [← e]; exact hx))

theorem ofInt_i64 (a : Nat) (ha : a < 9223372036854775808) : (BitVec.ofInt 64 (a : Int)).toNat = a := by
  rw [BitVec.ofInt_natCast, BitVec.toNat_ofNat]; exact Nat.mod_eq_of_lt (by omega)
theorem i64_and_nat (a b : Nat) (ha : a < 9223372036854775808) (hb : b < 9223372036854775808) : bits .and .i64 (a : Int) (b : Int) = ((a &&& b : Nat) : Int) := by
  have hx : a &&& b < 2 ^ 63 := Nat.and_lt_two_pow _ (by omega)
  show IntKind.i64.wrap ((BitVec.ofInt 64 (a : Int) &&& BitVec.ofInt 64 (b : Int)).toNat : Int) = _
  rw [BitVec.toNat_and, ofInt_i64 a ha, ofInt_i64 b hb, IntKind.wrap_i64]
  omega
theorem i64_or_nat (a b : Nat) (ha : a < 9223372036854775808) (hb : b < 9223372036854775808) : bits .or .i64 (a : Int) (b : Int) = ((a ||| b : Nat) : Int) := by
  have hx : a ||| b < 2 ^ 63 := Nat.or_lt_two_pow (by omega) (by omega)
  show IntKind.i64.wrap ((BitVec.ofInt 64 (a : Int) ||| BitVec.ofInt 64 (b : Int)).toNat : Int) = _
  rw [BitVec.toNat_or, ofInt_i64 a ha, ofInt_i64 b hb, IntKind.wrap_i64]
  omega
theorem i64_xor_nat (a b : Nat) (ha : a < 9223372036854775808) (hb : b < 9223372036854775808) : bits .xor .i64 (a : Int) (b : Int) = ((a ^^^ b : Nat) : Int) := by
  have hx : a ^^^ b < 2 ^ 63 := Nat.xor_lt_two_pow (by omega) (by omega)
  show IntKind.i64.wrap ((BitVec.ofInt 64 (a : Int) ^^^ BitVec.ofInt 64 (b : Int)).toNat : Int) = _
  rw [BitVec.toNat_xor, ofInt_i64 a ha, ofInt_i64 b hb, IntKind.wrap_i64]
  omega

theorem rot_val (x n : Nat) (hx : x < 4294967296) (hn : n ≤ 31) : bits .or .u32 ((x : Int) * 2 ^ (32 - n) % 4294967296) ((x : Int) / 2 ^ (32 - (32 - n))) = ((rotr x n : Nat) : Int) := by
  rw [show 32 - (32 - n) = n by omega, rotr_eq x n hx]
  have h1 : (x : Int) * 2 ^ (32 - n) % 4294967296 = ((x * 2 ^ (32 - n) % 4294967296 : Nat) : Int) := by simp
  have h2 : (x : Int) / 2 ^ n = ((x / 2 ^ n : Nat) : Int) := by simp
  rw [h1, h2]
  exact u32_or_nat _ _ (Nat.mod_lt _ (by decide)) (Nat.lt_of_le_of_lt (Nat.div_le_self _ _) hx)

theorem turn_val (x n : Nat) (hx : x < 4294967296) (hn0 : 1 ≤ n) (hn : n ≤ 31) : (bits .or .i64 ((x : Int) / 2 ^ n) (wrap64 ((x : Int) * 2 ^ (32 - n)))).tmod 4294967296 = ((rotr x n : Nat) : Int) := by
  have h1 : (x : Int) * 2 ^ (32 - n) = ((x * 2 ^ (32 - n) : Nat) : Int) := by simp
  have h2 : (x : Int) / 2 ^ n = ((x / 2 ^ n : Nat) : Int) := by simp
  have h3 : x * 2 ^ (32 - n) < 4294967296 * 2 ^ 31 := by
    have a : 2 ^ (32 - n) ≤ 2 ^ 31 := Nat.pow_le_pow_right (by decide) (by omega)
    have b : x * 2 ^ (32 - n) ≤ x * 2 ^ 31 := Nat.mul_le_mul_left _ a
    have c : x * 2 ^ 31 < 4294967296 * 2 ^ 31 := Nat.mul_lt_mul_of_pos_right hx (by decide)
    omega
  have h4 : x / 2 ^ n ≤ x := Nat.div_le_self _ _
  rw [h1, h2]
  unfold rotr
  generalize x * 2 ^ (32 - n) = y at *
  generalize x / 2 ^ n = z at *
  have h5 : wrap64 (y : Int) = (y : Int) := by unfold wrap64; omega
  rw [h5, i64_or_nat _ _ (by omega) (by omega)]
  rw [Int.tmod_eq_emod_of_nonneg (by omega)]
  simp

set_option maxHeartbeats 1000000 in
theorem right_any (x n : Nat) (hx : x < 4294967296) (hn0 : 1 ≤ n) (hn : n ≤ 31) (w : World) :
    Calls Tryz.prog 275 #[.int .u32 x, .int .i64 n] w fun e w' => e = .returned (.int .u32 (rotr x n)) ∧ w = w' := by
  have hs := rot_amt n hn0 hn
  have hv := rot_val x n hx hn
  go_enter Tryz.func275, Tryz.ntmps275
  go_wp2
  go_ret
  exact ⟨rfl, rfl⟩

theorem turn_any (x n : Nat) (hx : x < 4294967296) (hn0 : 1 ≤ n) (hn : n ≤ 31) (w : World) :
    Calls Tryz.prog 186 #[.int .i64 x, .int .i64 n] w fun e w' => e = .returned (.int .i64 (rotr x n)) ∧ w = w' := by
  have hv := turn_val x n hx hn0 hn
  go_enter Tryz.func186, Tryz.ntmps186
  go_wp2
  go_ret
  exact ⟨rfl, rfl⟩

set_option maxHeartbeats 1000000 in
theorem turned_any (x i j k : Nat) (hx : x < 4294967296) (hi0 : 1 ≤ i) (hi : i ≤ 31) (hj0 : 1 ≤ j) (hj : j ≤ 31) (hk0 : 1 ≤ k) (hk : k ≤ 31) (w : World) :
    Calls Tryz.prog 249 #[.int .u32 x, .int .i64 i, .int .i64 j, .int .i64 k] w fun e w' => e = .returned (.int .u32 (rotr x i ^^^ rotr x j ^^^ rotr x k : Nat)) ∧ w = w' := by
  have r1 := right_any x i hx hi0 hi w
  have r2 := right_any x j hx hj0 hj w
  have r3 := right_any x k hx hk0 hk w
  have h1 := u32_xor_nat (rotr x i) (rotr x j) (rotr_lt _ _) (rotr_lt _ _)
  have h2 := u32_xor_nat (rotr x i ^^^ rotr x j) (rotr x k) (Nat.xor_lt_two_pow (n := 32) (rotr_lt _ _) (rotr_lt _ _)) (rotr_lt _ _)
  go_enter Tryz.func249, Tryz.ntmps249
  go_wp2_with (first | (go_at_call 275; refine r1.mono ?_; rintro e w' ⟨rfl, rfl⟩; clear r1) | (go_at_call 275; refine r2.mono ?_; rintro e w' ⟨rfl, rfl⟩; clear r2) | (go_at_call 275; refine r3.mono ?_; rintro e w' ⟨rfl, rfl⟩))
  go_ret
  exact ⟨rfl, rfl⟩
end Go.Proofs.YtdidjdoifpfmmaaGreatDoor
/- SHA-256, as plain mathematics on numbers. -/
namespace Go.Proofs.YtdidjdoifpfmmaaGreatDoor

def sig0 (x : Nat) : Nat := rotr x 7 ^^^ rotr x 18 ^^^ x / 8
def sig1 (x : Nat) : Nat := rotr x 17 ^^^ rotr x 19 ^^^ x / 1024
/-- The next word of the schedule. -/
def ext (l : List Nat) : Nat := (l.getD (l.length - 16) 0 + l.getD (l.length - 7) 0 + sig0 (l.getD (l.length - 15) 0) + sig1 (l.getD (l.length - 2) 0)) % 4294967296
def sched (ws : List Nat) : Nat → List Nat
  | 0 => ws
  | n + 1 => sched ws n ++ [ext (sched ws n)]
theorem sched_len (ws : List Nat) (n : Nat) : (sched ws n).length = ws.length + n := by
  induction n with
  | zero => rfl
  | succ n ih => simp [sched, ih]; omega

/-- The word that the bytes b[4j] .. say, as far as those ahead of i. -/
def pw (b : List Nat) (i j : Nat) : Nat := (((b.take i).drop (4 * j)).take 4).foldl (fun a x => 256 * a + x) 0
def firstWords (b : List Nat) : List Nat := (List.range 16).map (pw b 64)
/-- All 64 words behind i bytes. -/
def filled (b : List Nat) (i : Nat) : List Nat := (List.range 64).map (pw b i)

theorem filled_len (b : List Nat) (i : Nat) : (filled b i).length = 64 := by simp [filled]
theorem filled_get (b : List Nat) (i j : Nat) (h : j < 64) : (filled b i).getD j 0 = pw b i j := by
  simp [filled, List.getD_eq_getElem?_getD, h]

theorem pw_zero (b : List Nat) (j : Nat) : pw b 0 j = 0 := by simp [pw]
theorem filled_zero (b : List Nat) : filled b 0 = List.replicate 64 0 := by
  unfold filled
  apply List.ext_getElem (by simp)
  intro k h1 h2
  rw [List.getElem_map, List.getElem_replicate, pw_zero]

theorem drop_take_succ (b : List Nat) (i k : Nat) (h : i < b.length) (hk : k ≤ i) : (b.take (i + 1)).drop k = (b.take i).drop k ++ [b.getD i 0] := by
  rw [List.take_succ_eq_append_getElem h, List.drop_append_of_le_length (by simp; omega)]
  simp [List.getD_eq_getElem?_getD, h]

/-- A byte more: the word that it belongs to. -/
theorem pw_step (b : List Nat) (i : Nat) (h : i < b.length) : pw b (i + 1) (i / 4) = 256 * pw b i (i / 4) + b.getD i 0 := by
  unfold pw
  have h1 : 4 * (i / 4) ≤ i := by omega
  have h2 : ((b.take i).drop (4 * (i / 4))).length < 4 := by simp; omega
  rw [drop_take_succ b i _ h h1]
  generalize (b.take i).drop (4 * (i / 4)) = X at *
  rw [List.take_of_length_le (l := X ++ [b.getD i 0]) (by rw [List.length_append]; simp; omega), List.take_of_length_le (l := X) (by omega), List.foldl_append]
  rfl
theorem pw_keep (b : List Nat) (i j : Nat) (h : i < b.length) (hj : j ≠ i / 4) : pw b (i + 1) j = pw b i j := by
  unfold pw
  rcases Nat.lt_or_ge i (4 * j) with h1 | h1
  · rw [List.drop_eq_nil_of_le (by simp; omega), List.drop_eq_nil_of_le (by simp; omega)]
  · rw [drop_take_succ b i _ h h1, List.take_append_of_le_length (by simp; omega)]

theorem fold_lt : ∀ (l : List Nat) (a n : Nat), (∀ x ∈ l, x < 256) → a < 256 ^ n → l.foldl (fun a x => 256 * a + x) a < 256 ^ (n + l.length)
  | [], a, n, _, h => by simpa using h
  | x :: l, a, n, hx, h => by
    have h1 := hx x List.mem_cons_self
    have := fold_lt l (256 * a + x) (n + 1) (fun y hy => hx y (List.mem_cons_of_mem _ hy)) (by rw [Nat.pow_succ]; omega)
    simp only [List.foldl_cons, List.length_cons]
    rwa [show n + (l.length + 1) = n + 1 + l.length by omega]

theorem pw_lt (b : List Nat) (i j n : Nat) (hb : ∀ x ∈ b, x < 256) (hn : (((b.take i).drop (4 * j)).take 4).length ≤ n) : pw b i j < 256 ^ n := by
  have h := fold_lt (((b.take i).drop (4 * j)).take 4) 0 0 (fun x hx => hb x (List.mem_of_mem_take (List.mem_of_mem_drop (List.mem_of_mem_take hx)))) (by decide)
  rw [Nat.zero_add] at h
  exact Nat.lt_of_lt_of_le h (Nat.pow_le_pow_right (by decide) hn)
theorem pw_lt4 (b : List Nat) (i j : Nat) (hb : ∀ x ∈ b, x < 256) : pw b i j < 4294967296 := by
  have := pw_lt b i j 4 hb (by simp; omega)
  omega
theorem pw_lt3 (b : List Nat) (i : Nat) (hb : ∀ x ∈ b, x < 256) : pw b i (i / 4) < 16777216 := by
  have := pw_lt b i (i / 4) 3 hb (by simp; omega)
  omega

theorem filled_step (b : List Nat) (i : Nat) (hb : b.length = 64) (h : i < 64) : (filled b i).set (i / 4) (256 * pw b i (i / 4) + b.getD i 0) = filled b (i + 1) := by
  apply List.ext_getElem (by simp [filled])
  intro k h1 h2
  have hk : k < 64 := by simpa [filled] using h2
  by_cases e : i / 4 = k
  · subst e
    rw [List.getElem_set_self]
    simp [filled, pw_step b i (by omega)]
  · rw [List.getElem_set_ne e]
    simp [filled, pw_keep b i k (by omega) (Ne.symm e)]

theorem pw_over (b : List Nat) (i j : Nat) (hi : i ≤ 64) (hj : 16 ≤ j) : pw b i j = 0 := by
  unfold pw
  rw [List.drop_eq_nil_of_le (by simp; omega)]; rfl

/-- The schedule as it lies in memory: what is done, and zeros. -/
def laid (b : List Nat) (n : Nat) : List Nat := sched (firstWords b) n ++ List.replicate (48 - n) 0
theorem firstWords_len (b : List Nat) : (firstWords b).length = 16 := by simp [firstWords]
theorem laid_len (b : List Nat) (n : Nat) (h : n ≤ 48) : (laid b n).length = 64 := by
  simp [laid, sched_len, firstWords_len]; omega
theorem filled_end (b : List Nat) : filled b 64 = laid b 0 := by
  unfold laid sched firstWords filled
  apply List.ext_getElem (by simp)
  intro k h1 h2
  have hk : k < 64 := by simpa using h1
  rcases Nat.lt_or_ge k 16 with h | h
  · rw [List.getElem_append_left (by simpa using h), List.getElem_map, List.getElem_map, List.getElem_range, List.getElem_range]
  · rw [List.getElem_append_right (by simpa using h), List.getElem_map, List.getElem_range, List.getElem_replicate, pw_over b 64 k (by omega) h]
theorem laid_get (b : List Nat) (n j : Nat) (h : j < 16 + n) : (laid b n).getD j 0 = (sched (firstWords b) n).getD j 0 := by
  unfold laid
  rw [List.getD_eq_getElem?_getD, List.getElem?_append_left (by rw [sched_len, firstWords_len]; omega), List.getD_eq_getElem?_getD]
theorem laid_step (b : List Nat) (n : Nat) (h : n < 48) : (laid b n).set (n + 16) (ext (sched (firstWords b) n)) = laid b (n + 1) := by
  have hl : (sched (firstWords b) n).length = n + 16 := by rw [sched_len, firstWords_len]; omega
  unfold laid
  rw [List.set_append_right _ _ (by omega), hl, Nat.sub_self, show 48 - n = (48 - (n + 1)) + 1 by omega, List.replicate_succ, List.set_cons_zero]
  simp [sched]

theorem xor_lt (a b : Nat) (ha : a < 4294967296) (hb : b < 4294967296) : a ^^^ b < 4294967296 := Nat.xor_lt_two_pow (n := 32) ha hb
theorem and_lt (a b : Nat) (hb : b < 4294967296) : a &&& b < 4294967296 := Nat.and_lt_two_pow (n := 32) a hb
theorem sig0_lt (x : Nat) (h : x < 4294967296) : sig0 x < 4294967296 := xor_lt _ _ (xor_lt _ _ (rotr_lt _ _) (rotr_lt _ _)) (by omega)
theorem sig1_lt (x : Nat) (h : x < 4294967296) : sig1 x < 4294967296 := xor_lt _ _ (xor_lt _ _ (rotr_lt _ _) (rotr_lt _ _)) (by omega)
theorem ext_lt (l : List Nat) : ext l < 4294967296 := Nat.mod_lt _ (by decide)

theorem sched_lt (ws : List Nat) (h : ∀ x ∈ ws, x < 4294967296) : ∀ n, ∀ x ∈ sched ws n, x < 4294967296
  | 0, x, hx => h x hx
  | n + 1, x, hx => by
    rcases List.mem_append.1 hx with hx | hx
    · exact sched_lt ws h n x hx
    · simp at hx; subst hx; exact ext_lt _
theorem first_lt (b : List Nat) (hb : ∀ x ∈ b, x < 256) : ∀ y ∈ firstWords b, y < 4294967296 := by
  intro y hy
  simp only [firstWords, List.mem_map] at hy
  obtain ⟨j, _, rfl⟩ := hy
  exact pw_lt4 b 64 j hb
theorem ext_at (ws : List Nat) (n : Nat) (h : ws.length = 16) : ext (sched ws n) = ((sched ws n).getD n 0 + (sched ws n).getD (n + 9) 0 + sig0 ((sched ws n).getD (n + 1) 0) + sig1 ((sched ws n).getD (n + 14) 0)) % 4294967296 := by
  unfold ext
  rw [sched_len, h, show 16 + n - 16 = n by omega, show 16 + n - 7 = n + 9 by omega, show 16 + n - 15 = n + 1 by omega, show 16 + n - 2 = n + 14 by omega]
theorem getD_lt32 (l : List Nat) (h : ∀ x ∈ l, x < 4294967296) (j : Nat) : l.getD j 0 < 4294967296 := by
  rw [List.getD_eq_getElem?_getD]
  cases e : l[j]? with
  | none => simp
  | some x => exact h x (List.mem_of_getElem? e)
theorem laid_lt (b : List Nat) (hb : ∀ x ∈ b, x < 256) (n : Nat) : ∀ x ∈ laid b n, x < 4294967296 := by
  intro x hx
  rcases List.mem_append.1 hx with hx | hx
  · refine sched_lt _ ?_ n x hx
    intro y hy
    simp only [firstWords, List.mem_map] at hy
    obtain ⟨j, _, rfl⟩ := hy
    exact pw_lt4 b 64 j hb
  · simp at hx; omega

/-- The eight words. -/
structure St where
  (a b c d e f g h : Nat)
def St.list (s : St) : List Nat := [s.a, s.b, s.c, s.d, s.e, s.f, s.g, s.h]
structure St.Ok (s : St) : Prop where
  a : s.a < 4294967296
  b : s.b < 4294967296
  c : s.c < 4294967296
  d : s.d < 4294967296
  e : s.e < 4294967296
  f : s.f < 4294967296
  g : s.g < 4294967296
  h : s.h < 4294967296
def big1 (e : Nat) : Nat := rotr e 6 ^^^ rotr e 11 ^^^ rotr e 25
def big0 (a : Nat) : Nat := rotr a 2 ^^^ rotr a 13 ^^^ rotr a 22
def choice (e f g : Nat) : Nat := (e &&& f) ^^^ ((4294967295 - e) &&& g)
def majority (a b c : Nat) : Nat := (a &&& b) ^^^ (a &&& c) ^^^ (b &&& c)
def tOne (s : St) (k w : Nat) : Nat := s.h + big1 s.e + choice s.e s.f s.g + k + w
def tTwo (s : St) : Nat := big0 s.a + majority s.a s.b s.c
def St.round (s : St) (k w : Nat) : St := ⟨(tOne s k w + tTwo s) % 4294967296, s.a, s.b, s.c, (s.d + tOne s k w) % 4294967296, s.e, s.f, s.g⟩
def St.run (K ws : List Nat) (s : St) : Nat → St
  | 0 => s
  | n + 1 => (St.run K ws s n).round (K.getD n 0) (ws.getD n 0)
theorem big1_lt (x : Nat) : big1 x < 4294967296 := xor_lt _ _ (xor_lt _ _ (rotr_lt _ _) (rotr_lt _ _)) (rotr_lt _ _)
theorem big0_lt (x : Nat) : big0 x < 4294967296 := xor_lt _ _ (xor_lt _ _ (rotr_lt _ _) (rotr_lt _ _)) (rotr_lt _ _)
theorem choice_lt (e f g : Nat) (hf : f < 4294967296) (hg : g < 4294967296) : choice e f g < 4294967296 := xor_lt _ _ (and_lt _ _ hf) (and_lt _ _ hg)
theorem majority_lt (a b c : Nat) (hb : b < 4294967296) (hc : c < 4294967296) : majority a b c < 4294967296 := xor_lt _ _ (xor_lt _ _ (and_lt _ _ hb) (and_lt _ _ hc)) (and_lt _ _ hc)
theorem St.Ok.round {s : St} (h : s.Ok) (k w : Nat) : (s.round k w).Ok := ⟨Nat.mod_lt _ (by decide), h.a, h.b, h.c, Nat.mod_lt _ (by decide), h.e, h.f, h.g⟩
theorem St.Ok.run {s : St} (h : s.Ok) (K ws : List Nat) : ∀ n, (St.run K ws s n).Ok
  | 0 => h
  | n + 1 => (St.Ok.run h K ws n).round _ _
/-- Two lists of words, added. -/
def addW (l m : List Nat) : List Nat := List.zipWith (fun x y => (x + y) % 4294967296) l m
/-- The eight words behind one more block of 64 bytes. -/
def mix (K : List Nat) (s : St) (b : List Nat) : List Nat := addW s.list (St.run K (laid b 48) s 64).list
end Go.Proofs.YtdidjdoifpfmmaaGreatDoor
/- CRC-32, bit by bit: the document's answer. -/
namespace Go.Proofs.YtdidjdoifpfmmaaGreatDoor
open Go.RowKit

def crcBit (r : Nat) : Nat := if r % 2 = 1 then (r / 2) ^^^ 3988292384 else r / 2
def crcBits : Nat → Nat → Nat
  | 0, r => r
  | n + 1, r => crcBit (crcBits n r)
def crcOver (l : List Nat) (r : Nat) : Nat := l.foldl (fun r b => crcBits 8 (r ^^^ b)) r
def crc (l : List Nat) : Nat := 4294967295 - crcOver l 4294967295
theorem crcBit_lt (r : Nat) (h : r < 4294967296) : crcBit r < 4294967296 := by
  unfold crcBit
  split
  · exact xor_lt _ _ (by omega) (by decide)
  · omega
theorem crcBits_lt (n r : Nat) (h : r < 4294967296) : crcBits n r < 4294967296 := by
  induction n with
  | zero => exact h
  | succ n ih => exact crcBit_lt _ ih
theorem crcOver_snoc (l : List Nat) (b r : Nat) : crcOver (l ++ [b]) r = crcBits 8 (crcOver l r ^^^ b) := by simp [crcOver]
theorem crcOver_lt : ∀ (l : List Nat) (r : Nat), (∀ x ∈ l, x < 256) → r < 4294967296 → crcOver l r < 4294967296
  | [], r, _, h => h
  | b :: l, r, hb, h => crcOver_lt l _ (fun x hx => hb x (List.mem_cons_of_mem _ hx)) (crcBits_lt 8 _ (xor_lt _ _ h (Nat.lt_trans (hb b List.mem_cons_self) (by decide))))

/-- A text's bytes. -/
def textOf (s : ByteArray) : List Nat := s.data.toList.map UInt8.toNat
theorem textOf_lt (s : ByteArray) : ∀ x ∈ textOf s, x < 256 := by
  intro x hx
  simp only [textOf, List.mem_map] at hx
  obtain ⟨u, _, rfl⟩ := hx
  exact u.toNat_lt
theorem textOf_len (s : ByteArray) : (textOf s).length = s.size := by simp [textOf]
theorem textOf_take (s : ByteArray) (k : Nat) (h : k < s.size) : (textOf s).take (k + 1) = (textOf s).take k ++ [(s[k]).toNat] := by
  rw [List.take_succ_eq_append_getElem (by rw [textOf_len]; exact h)]
  simp [textOf]
  rfl

set_option maxHeartbeats 1000000 in
set_option maxRecDepth 3000 in
theorem crcRef_any (s : ByteArray) (w : World) (hs : s.size ≤ 1000000) :
    Calls Tryz.prog 68 #[.string s] w fun e w' => e = .returned (.int .i64 (crc (textOf s) : Nat)) ∧ w = w' := by
  go_enter Tryz.func68, Tryz.ntmps68
  go_wp2
  go_loop [3, 4] (fun r i => ∃ k : Nat, k ≤ s.size ∧ i = .int .i64 k ∧ r = .int .i64 (crcOver ((textOf s).take k) 4294967295 : Nat)) (fun _ i => s.size - (intOf i).toNat)
  case atStart => exact ⟨0, Nat.zero_le _, rfl, rfl⟩
  case round =>
    obtain ⟨k, hk, rfl, rfl⟩ := hrel
    have hlt := crcOver_lt ((textOf s).take k) 4294967295 (fun x hx => textOf_lt s x (List.mem_of_mem_take hx)) (by decide)
    by_cases hks : k < s.size
    · have hsn : Hid _ := textOf_take s k hks
      have hst : Hid _ := crcOver_snoc ((textOf s).take k) (s[k]).toNat 4294967295
      have hb : (s[k]).toNat < 256 := (s[k]).toNat_lt
      have hx := i64_xor_nat (crcOver ((textOf s).take k) 4294967295) (s[k]).toNat (by omega) (by omega)
      have hxl := xor_lt (crcOver ((textOf s).take k) 4294967295) (s[k]).toNat hlt (by omega)
      have hfin : Hid (crcOver ((textOf s).take (k + 1)) 4294967295 = crcBits 8 (crcOver ((textOf s).take k) 4294967295 ^^^ (s[k]).toNat)) := by rw [hsn.out]; exact hst.out
      clear hsn hst
      generalize crcOver ((textOf s).take k) 4294967295 = r at hlt hx hxl hfin ⊢
      go_wp2
      generalize r ^^^ (s[k]).toNat = r0 at hxl hfin ⊢
      go_loop [3, 5] (fun r i => ∃ m : Nat, m ≤ 8 ∧ i = .int .i64 m ∧ r = .int .i64 (crcBits m r0 : Nat)) (fun _ i => 8 - (intOf i).toNat)
      case atStart => exact ⟨0, by omega, rfl, rfl⟩
      case round =>
        obtain ⟨m, hm, rfl, rfl⟩ := hrel
        by_cases hm8 : m < 8
        · have hl := crcBits_lt m r0 hxl
          have hnx : Hid (crcBits (m + 1) r0 = crcBit (crcBits m r0)) := rfl
          generalize crcBits m r0 = q at hl hnx ⊢
          by_cases hodd : q % 2 = 1
          · have ho : (q : Int) % 2 = 1 := by omega
            have hxo := i64_xor_nat (q / 2) 3988292384 (by omega) (by decide)
            have hq : Hid (crcBits (m + 1) r0 = (q / 2) ^^^ 3988292384) := by rw [hnx.out]; unfold crcBit; rw [if_pos hodd]; rfl
            go_wp2
            go_round
            case rel => exact ⟨m + 1, by omega, by go_num, by rw [hq.out]; exact congrArg (Value.int .i64) hxo⟩
            case measure => simp [intOf]; omega
          · have ho : (q : Int) % 2 = 0 := by omega
            have hq : Hid (crcBits (m + 1) r0 = q / 2) := by rw [hnx.out]; unfold crcBit; rw [if_neg hodd]; rfl
            go_wp2
            go_round
            case rel => exact ⟨m + 1, by omega, by go_num, by rw [hq.out]; rfl⟩
            case measure => simp [intOf]; omega
        · have em : 8 = m := by omega
          have hq : Hid (crcOver ((textOf s).take (k + 1)) 4294967295 = crcBits m r0) := by rw [← em]; exact hfin.out
          go_wp2
          go_round
          case rel => exact ⟨k + 1, by omega, by go_num, by rw [hq.out]⟩
          case measure => simp [intOf]; omega
    · have hfull : Hid (crc (textOf s) = 4294967295 - crcOver ((textOf s).take k) 4294967295) := by
        show crc (textOf s) = _
        rw [List.take_of_length_le (by rw [textOf_len]; omega)]; rfl
      generalize crcOver ((textOf s).take k) 4294967295 = r at hlt hfull ⊢
      go_wp2
      go_ret
      exact ⟨by rw [hfull.out]; exact ret_eq (congrArg (Value.int .i64) (by omega)), rfl⟩
end Go.Proofs.YtdidjdoifpfmmaaGreatDoor
/- CRC-32 by halves of bytes: plain mathematics. -/
namespace Go.Proofs.YtdidjdoifpfmmaaGreatDoor

theorem crcBit_xor (a b : Nat) : crcBit (a ^^^ b) = crcBit a ^^^ crcBit b := by
  have h1 : (a ^^^ b) / 2 = a / 2 ^^^ b / 2 := Nat.xor_div_two
  have h2 : (a ^^^ b) % 2 = (a % 2) ^^^ (b % 2) := Nat.xor_mod_two_pow (n := 1)
  unfold crcBit
  rw [h1, h2]
  rcases Nat.mod_two_eq_zero_or_one a with ha | ha <;> rcases Nat.mod_two_eq_zero_or_one b with hb | hb <;> rw [ha, hb]
  · rw [if_neg (by decide), if_neg (by decide), if_neg (by decide)]
  · rw [if_pos (by decide), if_neg (by decide), if_pos (by decide), Nat.xor_assoc]
  · rw [if_pos (by decide), if_pos (by decide), if_neg (by decide), Nat.xor_assoc, Nat.xor_assoc, Nat.xor_comm (b / 2)]
  · rw [if_neg (by decide), if_pos (by decide), if_pos (by decide), Nat.xor_assoc, Nat.xor_comm (b / 2), ← Nat.xor_assoc 3988292384, Nat.xor_self, Nat.zero_xor]
theorem crcBits_xor (n a b : Nat) : crcBits n (a ^^^ b) = crcBits n a ^^^ crcBits n b := by
  induction n with
  | zero => rfl
  | succ n ih => simp only [crcBits, ih, crcBit_xor]
theorem crcBits_shift (n q : Nat) : crcBits n (2 ^ n * q) = q := by
  induction n generalizing q with
  | zero => simp [crcBits]
  | succ n ih =>
    rw [crcBits, show 2 ^ (n + 1) * q = 2 ^ n * (2 * q) by rw [Nat.pow_succ, Nat.mul_assoc], ih]
    unfold crcBit
    rw [if_neg (by omega)]
    omega
theorem split16 (r : Nat) : r = (2 ^ 4 * (r / 2 ^ 4)) ^^^ (r % 2 ^ 4) := by
  apply Nat.eq_of_testBit_eq
  intro i
  rw [Nat.testBit_xor, Nat.testBit_two_pow_mul, Nat.testBit_div_two_pow, Nat.testBit_mod_two_pow]
  by_cases h : 4 ≤ i
  · have e : i - 4 + 4 = i := by omega
    have e2 : ¬ i < 4 := by omega
    simp [h, e, e2]
  · have e2 : i < 4 := by omega
    simp [e2, h]
/-- Half a byte at once. -/
theorem crcBits_half (r : Nat) : crcBits 4 r = (r / 16) ^^^ crcBits 4 (r % 16) := by
  conv => lhs; rw [split16 r, crcBits_xor, crcBits_shift]
theorem crcBits_eight (r : Nat) : crcBits 8 r = crcBits 4 (crcBits 4 r) := rfl
/-- The table: what half a byte leaves behind. -/
def halfTab : List Nat := (List.range 16).map (crcBits 4)
theorem halfTab_get (j : Nat) (h : j < 16) : halfTab.getD j 0 = crcBits 4 j := by
  simp [halfTab, List.getD_eq_getElem?_getD, h]
end Go.Proofs.YtdidjdoifpfmmaaGreatDoor
/- A text, filled up to whole blocks; the sum over its blocks: plain mathematics. -/
namespace Go.Proofs.YtdidjdoifpfmmaaGreatDoor

def zerosOf (n : Nat) : Nat := (119 - n % 64) % 64
def lenByte (n i : Nat) : Nat := 8 * n / 2 ^ (8 * (7 - i)) % 256
def lenBytes (n k : Nat) : List Nat := (List.range k).map (lenByte n)
theorem lenBytes_len (n k : Nat) : (lenBytes n k).length = k := by simp [lenBytes]
theorem lenBytes_succ (n k : Nat) : lenBytes n (k + 1) = lenBytes n k ++ [lenByte n k] := by simp [lenBytes, List.range_succ]
theorem lenByte_lt (n i : Nat) : lenByte n i < 256 := Nat.mod_lt _ (by decide)
def pad (l : List Nat) : List Nat := l ++ [128] ++ List.replicate (zerosOf l.length) 0 ++ lenBytes l.length 8
def blocksOf (n : Nat) : Nat := (n + 72) / 64
theorem pad_len (l : List Nat) : (pad l).length = 64 * blocksOf l.length := by
  simp only [pad, List.length_append, List.length_replicate, lenBytes_len, List.length_cons, List.length_nil, zerosOf, blocksOf]
  omega
theorem lenBytes_lt (n k : Nat) : ∀ x ∈ lenBytes n k, x < 256 := by
  intro x hx
  simp only [lenBytes, List.mem_map] at hx
  obtain ⟨i, _, rfl⟩ := hx
  exact lenByte_lt n i
theorem pad_lt (l : List Nat) (h : ∀ x ∈ l, x < 256) : ∀ x ∈ pad l, x < 256 := by
  intro x hx
  simp only [pad, List.mem_append, List.mem_replicate, List.mem_singleton] at hx
  rcases hx with ((hx | hx) | hx) | hx
  · exact h x hx
  · omega
  · omega
  · exact lenBytes_lt _ _ x hx

def ofList (l : List Nat) : St := ⟨l.getD 0 0, l.getD 1 0, l.getD 2 0, l.getD 3 0, l.getD 4 0, l.getD 5 0, l.getD 6 0, l.getD 7 0⟩
theorem mix_list (K : List Nat) (s : St) (b : List Nat) : (ofList (mix K s b)).list = mix K s b := rfl
theorem ofList_ok (l : List Nat) (h : ∀ x ∈ l, x < 4294967296) : (ofList l).Ok := ⟨getD_lt32 l h 0, getD_lt32 l h 1, getD_lt32 l h 2, getD_lt32 l h 3, getD_lt32 l h 4, getD_lt32 l h 5, getD_lt32 l h 6, getD_lt32 l h 7⟩
theorem mix_ok (K : List Nat) (s : St) (b : List Nat) : (ofList (mix K s b)).Ok := ⟨Nat.mod_lt _ (by decide), Nat.mod_lt _ (by decide), Nat.mod_lt _ (by decide), Nat.mod_lt _ (by decide), Nat.mod_lt _ (by decide), Nat.mod_lt _ (by decide), Nat.mod_lt _ (by decide), Nat.mod_lt _ (by decide)⟩
def blockAt (P : List Nat) (n : Nat) : List Nat := (P.drop (64 * n)).take 64
def stAt (K : List Nat) (s : St) (P : List Nat) : Nat → St
  | 0 => s
  | n + 1 => ofList (mix K (stAt K s P n) (blockAt P n))
theorem stAt_ok (K : List Nat) (s : St) (P : List Nat) (h : s.Ok) : ∀ n, (stAt K s P n).Ok
  | 0 => h
  | _ + 1 => mix_ok _ _ _
theorem blockAt_len (P : List Nat) (n : Nat) (h : 64 * n + 64 ≤ P.length) : (blockAt P n).length = 64 := by simp [blockAt]; omega
theorem blockAt_lt (P : List Nat) (n : Nat) (h : ∀ x ∈ P, x < 256) : ∀ x ∈ blockAt P n, x < 256 := fun x hx => h x (List.mem_of_mem_drop (List.mem_of_mem_take hx))
theorem blockAt_get (P : List Nat) (n j : Nat) (h : j < 64) : (blockAt P n).getD j 0 = P.getD (64 * n + j) 0 := by
  simp [blockAt, List.getD_eq_getElem?_getD, h]
theorem stAt_congr (K : List Nat) (s : St) (P Q : List Nat) : ∀ n, (∀ k, k < n → blockAt P k = blockAt Q k) → stAt K s P n = stAt K s Q n
  | 0, _ => rfl
  | n + 1, h => by
    unfold stAt
    rw [stAt_congr K s P Q n (fun k hk => h k (by omega)), h n (by omega)]

/-- The whole blocks of a text are those of the padded one. -/
theorem blockAt_pad (l : List Nat) (n : Nat) (h : 64 * n + 64 ≤ l.length) : blockAt (pad l) n = blockAt l n := by
  unfold blockAt pad
  rw [List.append_assoc, List.append_assoc, List.drop_append_of_le_length (by omega), List.take_append_of_le_length (by simp; omega)]

/-- The last block, where the length has room in it. -/
theorem blockAt_last (l r : List Nat) (q : Nat) (hr : r = l.drop (64 * q)) (hq : 64 * q + r.length = l.length) (h : r.length < 56) : blockAt (pad l) q = r ++ [128] ++ List.replicate (55 - r.length) 0 ++ lenBytes l.length 8 := by
  unfold blockAt pad
  have hz : zerosOf l.length = 55 - r.length := by unfold zerosOf; omega
  rw [hz, List.append_assoc, List.append_assoc, List.drop_append_of_le_length (by omega), ← hr, List.append_assoc, List.append_assoc]
  apply List.take_of_length_le
  simp [lenBytes_len]; omega
/-- The last two, where it has none. -/
theorem blockAt_full (l r : List Nat) (q : Nat) (hr : r = l.drop (64 * q)) (hq : 64 * q + r.length = l.length) (h : 56 ≤ r.length) (h2 : r.length < 64) : blockAt (pad l) q = r ++ [128] ++ List.replicate (63 - r.length) 0 ∧ blockAt (pad l) (q + 1) = List.replicate 56 0 ++ lenBytes l.length 8 := by
  have hz : zerosOf l.length = (63 - r.length) + 56 := by unfold zerosOf; omega
  have hp : (pad l).drop (64 * q) = (r ++ [128] ++ List.replicate (63 - r.length) 0) ++ (List.replicate 56 0 ++ lenBytes l.length 8) := by
    unfold pad
    rw [hz, ← List.replicate_append_replicate, List.append_assoc, List.append_assoc, List.drop_append_of_le_length (by omega), ← hr]
    simp only [List.append_assoc]
  have hl : (r ++ [128] ++ List.replicate (63 - r.length) 0).length = 64 := by simp; omega
  constructor
  · unfold blockAt
    rw [hp, List.take_append_of_le_length (by omega), List.take_of_length_le (by omega)]
  · unfold blockAt
    rw [show 64 * (q + 1) = 64 * q + 64 by omega, ← List.drop_drop, hp, List.drop_append_of_le_length (by omega), List.drop_eq_nil_of_le (by omega), List.nil_append]
    apply List.take_of_length_le
    simp [lenBytes_len]

/-- The four bytes of a word, the high one first. -/
def fourOf (x : Nat) : List Nat := [x / 16777216 % 256, x / 65536 % 256, x / 256 % 256, x % 256]
def outs (l : List Nat) : List Nat := l.flatMap fourOf
def text (l : List Nat) : ByteArray := ⟨(l.map UInt8.ofNat).toArray⟩
theorem text_append (l m : List Nat) : text l ++ text m = text (l ++ m) := by
  apply ByteArray.ext
  simp [text]
theorem text_nil : text [] = ByteArray.empty := rfl
/-- What a text's sum says. -/
def sumOf (K : List Nat) (s : St) (l : List Nat) : ByteArray := text (outs (stAt K s (pad l) (blocksOf l.length)).list)
end Go.Proofs.YtdidjdoifpfmmaaGreatDoor
namespace Go.Proofs.YtdidjdoifpfmmaaGreatDoor
open Go.RowKit

def u32s (l : List Nat) : List Value := l.map fun n : Nat => Value.int .u32 (n : Int)
def bytes (l : List Nat) : List Value := l.map fun n : Nat => Value.int .u8 (n : Int)
theorem u32s_get (l : List Nat) (j : Nat) (h : j < l.length) : (u32s l)[j]? = some (.int .u32 (l.getD j 0 : Nat)) := by
  simp [u32s, List.getD_eq_getElem?_getD, h]
theorem u32s_set (l : List Nat) (j x : Nat) : (u32s l).set j (.int .u32 (x : Nat)) = u32s (l.set j x) := by simp [u32s, List.map_set]
theorem bytes_get (l : List Nat) (j : Nat) (h : j < l.length) : (bytes l)[j]? = some (.int .u8 (l.getD j 0 : Nat)) := by
  simp [bytes, List.getD_eq_getElem?_getD, h]
theorem bytes_length (l : List Nat) : (bytes l).length = l.length := by simp [bytes]
theorem u32s_length (l : List Nat) : (u32s l).length = l.length := by simp [u32s]
theorem u32s_zeros (n : Nat) : u32s (List.replicate n 0) = List.replicate n (.int .u32 0) := by simp [u32s]

theorem u32s_one (l : List Nat) : (u32s l).toArray.all (·.oneCell') = true := by
  simp [u32s, Value.oneCell']
theorem _root_.Go.RowKit.Below.setRow {B g : Nat} {a w : World} (h : Below B a w) (cs : Array Value) (hg : B ≤ g) : Below B a (w.setRow g cs) :=
  h.trans ⟨rfl, rfl, rfl, by simp, fun k hk => setRow_other w g k cs (by omega)⟩
/-- An element of an array by value, each of one cell. -/
theorem index_agg (w : World) (t e : TypeId) (n : Nat) (vs : List Value) (i : Nat) (v : Value) (h : Tryz.prog.underlying t = some (.array n e)) (hi : i < n) (hsz : ∀ w, (sizeOf e).run Tryz.prog w = .ok 1 w) (hag : ∀ w, (isAgg e).run Tryz.prog w = .ok false w) (hv : vs[i]? = some v) :
    (Instr.index t (.agg vs.toArray) (.int .i64 (i : Int))).run Tryz.prog w = .ok v w := by
  have hn : (0 : Int) ≤ i ∧ (i : Int) < (n : Int) := by omega
  simp [Instr.index, run_underlying h, asIntOf, hn, go_sem, hsz, hag, hi, hv]
theorem or_byte (p x : Nat) (hp : p < 16777216) (hx : x < 256) : bits .or .u32 ((p : Int) * 256) (x : Int) = ((256 * p + x : Nat) : Int) := by
  have h := u32_or_nat (p * 256) x (by omega) (by omega)
  rw [Int.natCast_mul] at h
  rw [show (((256 : Nat)) : Int) = 256 from rfl] at h
  rw [h, nat_join 8 (p * 256) x (by omega) (by omega), Nat.mul_comm]

set_option maxHeartbeats 400000 in
set_option maxRecDepth 3000 in
theorem spread_any (b : List Nat) (hb : b.length = 64) (hd : ∀ x ∈ b, x < 256) (w : World) :
    Calls Tryz.prog 248 #[.agg (bytes b).toArray] w fun e w' => e = .returned (.agg (u32s (laid b 48)).toArray) ∧ Below w.heap.size w w' := by
  go_enter Tryz.func248, Tryz.ntmps248
  go_upto_region 2 with fail
  show Code.wp _ _ _ _ (((w.alloc (.cells (bytes b).toArray 189)).alloc (.cells (u32s (List.replicate 64 0)).toArray 379)).alloc (.cells (u32s (List.replicate 64 0)).toArray 379))
  have hb0 : Below w.heap.size w (((w.alloc (.cells (bytes b).toArray 189)).alloc (.cells (u32s (List.replicate 64 0)).toArray 379)).alloc (.cells (u32s (List.replicate 64 0)).toArray 379)) := (((Below.refl _ _).alloc (Nat.le_refl _) _).alloc (by simp) _).alloc (by simp; omega) _
  have h1 := ((RowIs.new w 189 (bytes b)).below ((Below.refl _ _).alloc (Nat.le_refl _) (.cells (u32s (List.replicate 64 0)).toArray 379)) (by simp)).below ((Below.refl _ _).alloc (Nat.le_refl _) (.cells (u32s (List.replicate 64 0)).toArray 379)) (by simp; omega)
  have h2 := (RowIs.new (w.alloc (.cells (bytes b).toArray 189)) 379 (u32s (List.replicate 64 0))).below ((Below.refl _ _).alloc (Nat.le_refl _) (.cells (u32s (List.replicate 64 0)).toArray 379)) (by simp)
  have h3 := RowIs.new ((w.alloc (.cells (bytes b).toArray 189)).alloc (.cells (u32s (List.replicate 64 0)).toArray 379)) 379 (u32s (List.replicate 64 0))
  generalize (((w.alloc (.cells (bytes b).toArray 189)).alloc (.cells (u32s (List.replicate 64 0)).toArray 379)).alloc (.cells (u32s (List.replicate 64 0)).toArray 379)) = W at *
  simp only [World.size_alloc] at h2 h3
  have hsz : (Tryz.prog.info? 189).map (·.size) = some (bytes b).toArray.size := by rw [List.size_toArray, bytes_length, hb]; kernel_rfl
  rw [← filled_zero b] at h3
  go_wp2_with (refine wpList_load_row rfl 189 _ rfl w.heap.size rfl _ _ _ _ h1.heap Tryz.underlying189 rfl hsz ?_)
  go_loopw [12] (fun i wr => ∃ n : Nat, n ≤ 64 ∧ i = .int .i64 n ∧ RowIs wr (w.heap.size + 1) 379 (u32s (List.replicate 64 0)) ∧ RowIs wr (w.heap.size + 1 + 1) 379 (u32s (filled b n)) ∧ Below w.heap.size w wr) (fun i _ => 64 - (intOf i).toNat)
  case atStart => exact ⟨0, by omega, rfl, h2, h3, hb0⟩
  case round =>
    clear h1 h2 h3 hb0 hsz
    obtain ⟨n, hn, rfl, h2, h3, hbw⟩ := hrel
    by_cases hlt : n < 64
    · have hx : (Instr.index 189 (.agg (bytes b).toArray) (.int .i64 (n : Int))).run Tryz.prog wr = .ok (.int .u8 (b.getD n 0 : Nat)) wr :=
        index_agg wr _ _ 64 _ n _ Tryz.underlying189 hlt (fun _ => by kernel_rfl) (fun _ => by kernel_rfl) (bytes_get b n (by omega))
      have hc := h3.cell (n / 4)
      rw [u32s_get _ _ (by rw [filled_len]; omega), filled_get _ _ _ (by omega)] at hc
      have hf := h3.frozen (n / 4)
      have hst : Hid _ := filled_step b n hb hlt
      have l3 := pw_lt3 b n hd
      have lb : b.getD n 0 < 256 := hd _ (Digits.getD_mem b n (by omega))
      generalize pw b n (n / 4) = p at *
      generalize b.getD n 0 = x at *
      have hor := or_byte p x l3 lb
      go_wp2
      go_roundw
      case rel => exact ⟨n + 1, by omega, by go_num, h2.other _ (by simp), by rw [← hst.out, ← u32s_set]; exact h3.set _ _, hbw.setCell (by simp; omega) _⟩
      case measure => simp [intOf]; omega
    · have en : n = 64 := by omega
      have en2 : (n : Int) = 64 := by omega
      rw [en2]
      subst en
      rw [filled_end] at h3
      go_wp2
      go_loopw [28] (fun i wr => ∃ n : Nat, n ≤ 48 ∧ i = .int .i64 n ∧ RowIs wr (w.heap.size + 1) 379 (u32s (List.replicate 64 0)) ∧ RowIs wr (w.heap.size + 1 + 1) 379 (u32s (laid b n)) ∧ Below w.heap.size w wr) (fun i _ => 48 - (intOf i).toNat)
      case atStart => exact ⟨0, by omega, rfl, h2, h3, hbw⟩
      case round =>
        clear h2 h3 hbw
        obtain ⟨n, hn, rfl, h2, h3, hbw⟩ := hrel
        have hln := laid_len b n hn
        by_cases hlt : n < 48
        · have c1 := h3.cell (n + 1)
          have c14 := h3.cell (n + 14)
          have c0 := h3.cell n
          have c9 := h3.cell (n + 9)
          have f16 := h3.frozen (n + 16)
          rw [u32s_get _ _ (by omega), laid_get _ _ _ (by omega)] at c1 c14 c0 c9
          have c16 := h3.cell (n + 16)
          rw [u32s_get _ _ (by omega)] at c16
          have hst : Hid _ := laid_step b n hlt
          have hs := sched_lt (firstWords b) (fun y hy => first_lt b hd y hy) n
          have hext : Hid _ := ext_at (firstWords b) n (firstWords_len b)
          have l0 := getD_lt32 _ hs n
          have l1 := getD_lt32 _ hs (n + 1)
          have l9 := getD_lt32 _ hs (n + 9)
          have l14 := getD_lt32 _ hs (n + 14)
          generalize ext (sched (firstWords b) n) = ex at *
          generalize (sched (firstWords b) n).getD n 0 = x0 at *
          generalize (sched (firstWords b) n).getD (n + 1) 0 = x1 at *
          generalize (sched (firstWords b) n).getD (n + 9) 0 = x9 at *
          generalize (sched (firstWords b) n).getD (n + 14) 0 = x14 at *
          clear hs
          have r7 : ∀ w, Calls Tryz.prog 275 #[.int .u32 (x1 : Int), .int .i64 7] w fun e w' => e = .returned (.int .u32 (rotr x1 7 : Nat)) ∧ w = w' := fun w => right_any x1 7 l1 (by decide) (by decide) w
          have r18 : ∀ w, Calls Tryz.prog 275 #[.int .u32 (x1 : Int), .int .i64 18] w fun e w' => e = .returned (.int .u32 (rotr x1 18 : Nat)) ∧ w = w' := fun w => right_any x1 18 l1 (by decide) (by decide) w
          have r17 : ∀ w, Calls Tryz.prog 275 #[.int .u32 (x14 : Int), .int .i64 17] w fun e w' => e = .returned (.int .u32 (rotr x14 17 : Nat)) ∧ w = w' := fun w => right_any x14 17 l14 (by decide) (by decide) w
          have r19 : ∀ w, Calls Tryz.prog 275 #[.int .u32 (x14 : Int), .int .i64 19] w fun e w' => e = .returned (.int .u32 (rotr x14 19 : Nat)) ∧ w = w' := fun w => right_any x14 19 l14 (by decide) (by decide) w
          have e1 := u32_xor_nat (rotr x1 7) (rotr x1 18) (rotr_lt _ _) (rotr_lt _ _)
          have e2 : bits .xor .u32 ((rotr x1 7 ^^^ rotr x1 18 : Nat) : Int) ((x1 : Int) / 8) = ((sig0 x1 : Nat) : Int) := u32_xor_nat (rotr x1 7 ^^^ rotr x1 18) (x1 / 8) (xor_lt _ _ (rotr_lt _ _) (rotr_lt _ _)) (by omega)
          have e3 := u32_xor_nat (rotr x14 17) (rotr x14 19) (rotr_lt _ _) (rotr_lt _ _)
          have e4 : bits .xor .u32 ((rotr x14 17 ^^^ rotr x14 19 : Nat) : Int) ((x14 : Int) / 1024) = ((sig1 x14 : Nat) : Int) := u32_xor_nat (rotr x14 17 ^^^ rotr x14 19) (x14 / 1024) (xor_lt _ _ (rotr_lt _ _) (rotr_lt _ _)) (by omega)
          have g0 := sig0_lt x1 l1
          have g1 := sig1_lt x14 l14
          go_wp2
          go_region
          go_wp2_with (first | (go_at_call 275; refine (r7 _).mono ?_; rintro e w' ⟨rfl, rfl⟩; clear r7) | (go_at_call 275; refine (r18 _).mono ?_; rintro e w' ⟨rfl, rfl⟩; clear r18) | (go_at_call 275; refine (r17 _).mono ?_; rintro e w' ⟨rfl, rfl⟩; clear r17) | (go_at_call 275; refine (r19 _).mono ?_; rintro e w' ⟨rfl, rfl⟩; clear r19))
          go_region
          have hv : ((x0 : Int) + (sig0 x1 : Nat) + x9 + (sig1 x14 : Nat)) % 4294967296 = (ex : Int) := by rw [hext.out]; omega
          have h2' := h2.other (a := ⟨w.heap.size + 1 + 1, n + 16, none⟩) (.int .u32 (((x0 : Int) + (sig0 x1 : Nat) + x9 + (sig1 x14 : Nat)) % 4294967296)) (by simp)
          have h3' := h3.set (n + 16) (.int .u32 (((x0 : Int) + (sig0 x1 : Nat) + x9 + (sig1 x14 : Nat)) % 4294967296))
          have hb' := hbw.setCell (p := ⟨w.heap.size + 1 + 1, n + 16, none⟩) (by simp; omega) (.int .u32 (((x0 : Int) + (sig0 x1 : Nat) + x9 + (sig1 x14 : Nat)) % 4294967296))
          have h3'' := h3'.drew.drew
          rw [show (u32s (laid b n)).set (n + 16) (.int .u32 (((x0 : Int) + (sig0 x1 : Nat) + x9 + (sig1 x14 : Nat)) % 4294967296)) = u32s (laid b (n + 1)) by rw [hv, u32s_set, hst.out]] at h3''
          have h2'' := h2'.drew.drew
          have hb'' := hb'.drew.drew
          clear c0 c1 c9 c14 c16 f16 h2 h3 hbw h3' h2' hb' hv e1 e2 e3 e4
          generalize (wr.setCell ⟨w.heap.size + 1 + 1, n + 16, none⟩ (.int .u32 (((x0 : Int) + (sig0 x1 : Nat) + x9 + (sig1 x14 : Nat)) % 4294967296))).drew.drew = w3 at *
          go_wp2
          go_roundw
          case rel => exact ⟨n + 1, by omega, by go_num, h2'', h3'', hb''⟩
          case measure => simp [intOf]; omega
        · have en : n = 48 := by omega
          have en2 : (n : Int) = 48 := by omega
          rw [en2]
          subst en
          have hsz : (Tryz.prog.info? 379).map (·.size) = some (u32s (laid b 48)).toArray.size := by rw [List.size_toArray, u32s_length, hln]; kernel_rfl
          have hz : (u32s (List.replicate 64 0)).toArray.size = (u32s (laid b 48)).toArray.size := by rw [List.size_toArray, List.size_toArray, u32s_length, u32s_length, hln]; simp
          have hone := u32s_one (laid b 48)
          have hB2 : Below w.heap.size w (wr.setRow (w.heap.size + 1) (u32s (laid b 48)).toArray) := hbw.setRow _ (by omega)
          have hg2 := setRow_heap wr (w.heap.size + 1) _ (u32s (laid b 48)).toArray _ _ h2.heap
          generalize hL : laid b 48 = L at *
          have HL : Hid (laid b 48 = L) := hL
          clear hL
          go_wp2_with (first | (refine wpList_load_row rfl 379 _ rfl (w.heap.size + 1 + 1) rfl _ _ _ _ h3.heap Tryz.underlying379 rfl hsz ?_) | (refine wpList_store_row rfl 379 _ _ rfl (w.heap.size + 1) _ rfl rfl _ _ h2.heap hsz hz hone ?_))
          refine bodyPost_ret (v := .agg (u32s L).toArray) ?_ rfl ⟨by rw [HL.out], hB2⟩
          exact results_cell_row (P := Tryz.prog) Tryz.results248 _ _ (w.heap.size + 1) _ _ _ _ rfl hg2 Tryz.underlying379 rfl hsz
end Go.Proofs.YtdidjdoifpfmmaaGreatDoor
namespace Go.Proofs.YtdidjdoifpfmmaaGreatDoor
open Go.RowKit

theorem not_xor (e : Nat) (h : e < 4294967296) : 4294967295 ^^^ e = 4294967295 - e := by
  apply Nat.eq_of_testBit_eq
  intro i
  have h1 : (4294967295 : Nat) = 2 ^ 32 - 1 := by decide
  have h2 : 4294967295 - e = 2 ^ 32 - (e + 1) := by omega
  rw [Nat.testBit_xor, h2, Nat.testBit_two_pow_sub_succ (by omega), h1, Nat.testBit_two_pow_sub_one]
  rcases Nat.lt_or_ge i 32 with hi | hi
  · simp [hi]
  · have : e.testBit i = false := Nat.testBit_lt_two_pow (Nat.lt_of_lt_of_le h (Nat.le_trans (by decide) (Nat.pow_le_pow_right (by decide) hi)))
    simp [this, Nat.not_lt.2 hi]
theorem not_u32 (e : Nat) (h : e < 4294967296) : bits .xor .u32 (if IntKind.u32.signed = true then -1 else IntKind.u32.max) (e : Int) = ((4294967295 - e : Nat) : Int) := by
  have h1 := u32_xor_nat 4294967295 e (by decide) h
  rw [not_xor e h] at h1
  have e1 : (if IntKind.u32.signed = true then (-1 : Int) else IntKind.u32.max) = ((4294967295 : Nat) : Int) := by decide
  rw [e1]
  exact h1
end Go.Proofs.YtdidjdoifpfmmaaGreatDoor
