import Derived.Test.YtdidjdoifpfmmaaGreatDoorRot
/- SHA-256, as plain mathematics on numbers. -/
namespace Go.Proofs.YtdidjdoifpfmmaaGreatDoor

def sig0 (x : Nat) : Nat := rotr x 7 ^^^ rotr x 18 ^^^ x / 8
def sig1 (x : Nat) : Nat := rotr x 17 ^^^ rotr x 19 ^^^ x / 1024
/-- The next word of the schedule. -/
def ext (l : List Nat) : Nat := (l.getD (l.length - 16) 0 + l.getD (l.length - 7) 0 + sig0 (l.getD (l.length - 15) 0) + sig1 (l.getD (l.length - 2) 0)) % 4294967296
def sched (ws : List Nat) : Nat → List Nat
  | 0 => ws
  | n + 1 => sched ws n ++ [ext (sched ws n)]
theorem sched_len (ws : List Nat) (n : Nat) : (sched ws n).length = ws.length + n := by
  induction n with
  | zero => rfl
  | succ n ih => simp [sched, ih]; omega

/-- The word that the bytes b[4j] .. say, as far as those ahead of i. -/
def pw (b : List Nat) (i j : Nat) : Nat := (((b.take i).drop (4 * j)).take 4).foldl (fun a x => 256 * a + x) 0
def firstWords (b : List Nat) : List Nat := (List.range 16).map (pw b 64)
/-- All 64 words behind i bytes. -/
def filled (b : List Nat) (i : Nat) : List Nat := (List.range 64).map (pw b i)

theorem filled_len (b : List Nat) (i : Nat) : (filled b i).length = 64 := by simp [filled]
theorem filled_get (b : List Nat) (i j : Nat) (h : j < 64) : (filled b i).getD j 0 = pw b i j := by
  simp [filled, List.getD_eq_getElem?_getD, h]

theorem pw_zero (b : List Nat) (j : Nat) : pw b 0 j = 0 := by simp [pw]
theorem filled_zero (b : List Nat) : filled b 0 = List.replicate 64 0 := by
  unfold filled
  apply List.ext_getElem (by simp)
  intro k h1 h2
  rw [List.getElem_map, List.getElem_replicate, pw_zero]

theorem drop_take_succ (b : List Nat) (i k : Nat) (h : i < b.length) (hk : k ≤ i) : (b.take (i + 1)).drop k = (b.take i).drop k ++ [b.getD i 0] := by
  rw [List.take_succ_eq_append_getElem h, List.drop_append_of_le_length (by simp; omega)]
  simp [List.getD_eq_getElem?_getD, h]

/-- A byte more: the word that it belongs to. -/
theorem pw_step (b : List Nat) (i : Nat) (h : i < b.length) : pw b (i + 1) (i / 4) = 256 * pw b i (i / 4) + b.getD i 0 := by
  unfold pw
  have h1 : 4 * (i / 4) ≤ i := by omega
  have h2 : ((b.take i).drop (4 * (i / 4))).length < 4 := by simp; omega
  rw [drop_take_succ b i _ h h1]
  generalize (b.take i).drop (4 * (i / 4)) = X at *
  rw [List.take_of_length_le (l := X ++ [b.getD i 0]) (by rw [List.length_append]; simp; omega), List.take_of_length_le (l := X) (by omega), List.foldl_append]
  rfl
theorem pw_keep (b : List Nat) (i j : Nat) (h : i < b.length) (hj : j ≠ i / 4) : pw b (i + 1) j = pw b i j := by
  unfold pw
  rcases Nat.lt_or_ge i (4 * j) with h1 | h1
  · rw [List.drop_eq_nil_of_le (by simp; omega), List.drop_eq_nil_of_le (by simp; omega)]
  · rw [drop_take_succ b i _ h h1, List.take_append_of_le_length (by simp; omega)]

theorem fold_lt : ∀ (l : List Nat) (a n : Nat), (∀ x ∈ l, x < 256) → a < 256 ^ n → l.foldl (fun a x => 256 * a + x) a < 256 ^ (n + l.length)
  | [], a, n, _, h => by simpa using h
  | x :: l, a, n, hx, h => by
    have h1 := hx x List.mem_cons_self
    have := fold_lt l (256 * a + x) (n + 1) (fun y hy => hx y (List.mem_cons_of_mem _ hy)) (by rw [Nat.pow_succ]; omega)
    simp only [List.foldl_cons, List.length_cons]
    rwa [show n + (l.length + 1) = n + 1 + l.length by omega]

theorem pw_lt (b : List Nat) (i j n : Nat) (hb : ∀ x ∈ b, x < 256) (hn : (((b.take i).drop (4 * j)).take 4).length ≤ n) : pw b i j < 256 ^ n := by
  have h := fold_lt (((b.take i).drop (4 * j)).take 4) 0 0 (fun x hx => hb x (List.mem_of_mem_take (List.mem_of_mem_drop (List.mem_of_mem_take hx)))) (by decide)
  rw [Nat.zero_add] at h
  exact Nat.lt_of_lt_of_le h (Nat.pow_le_pow_right (by decide) hn)
theorem pw_lt4 (b : List Nat) (i j : Nat) (hb : ∀ x ∈ b, x < 256) : pw b i j < 4294967296 := by
  have := pw_lt b i j 4 hb (by simp; omega)
  omega
theorem pw_lt3 (b : List Nat) (i : Nat) (hb : ∀ x ∈ b, x < 256) : pw b i (i / 4) < 16777216 := by
  have := pw_lt b i (i / 4) 3 hb (by simp; omega)
  omega

theorem filled_step (b : List Nat) (i : Nat) (hb : b.length = 64) (h : i < 64) : (filled b i).set (i / 4) (256 * pw b i (i / 4) + b.getD i 0) = filled b (i + 1) := by
  apply List.ext_getElem (by simp [filled])
  intro k h1 h2
  have hk : k < 64 := by simpa [filled] using h2
  by_cases e : i / 4 = k
  · subst e
    rw [List.getElem_set_self]
    simp [filled, pw_step b i (by omega)]
  · rw [List.getElem_set_ne e]
    simp [filled, pw_keep b i k (by omega) (Ne.symm e)]

theorem pw_over (b : List Nat) (i j : Nat) (hi : i ≤ 64) (hj : 16 ≤ j) : pw b i j = 0 := by
  unfold pw
  rw [List.drop_eq_nil_of_le (by simp; omega)]; rfl

/-- The schedule as it lies in memory: what is done, and zeros. -/
def laid (b : List Nat) (n : Nat) : List Nat := sched (firstWords b) n ++ List.replicate (48 - n) 0
theorem firstWords_len (b : List Nat) : (firstWords b).length = 16 := by simp [firstWords]
theorem laid_len (b : List Nat) (n : Nat) (h : n ≤ 48) : (laid b n).length = 64 := by
  simp [laid, sched_len, firstWords_len]; omega
theorem filled_end (b : List Nat) : filled b 64 = laid b 0 := by
  unfold laid sched firstWords filled
  apply List.ext_getElem (by simp)
  intro k h1 h2
  have hk : k < 64 := by simpa using h1
  rcases Nat.lt_or_ge k 16 with h | h
  · rw [List.getElem_append_left (by simpa using h), List.getElem_map, List.getElem_map, List.getElem_range, List.getElem_range]
  · rw [List.getElem_append_right (by simpa using h), List.getElem_map, List.getElem_range, List.getElem_replicate, pw_over b 64 k (by omega) h]
theorem laid_get (b : List Nat) (n j : Nat) (h : j < 16 + n) : (laid b n).getD j 0 = (sched (firstWords b) n).getD j 0 := by
  unfold laid
  rw [List.getD_eq_getElem?_getD, List.getElem?_append_left (by rw [sched_len, firstWords_len]; omega), List.getD_eq_getElem?_getD]
theorem laid_step (b : List Nat) (n : Nat) (h : n < 48) : (laid b n).set (n + 16) (ext (sched (firstWords b) n)) = laid b (n + 1) := by
  have hl : (sched (firstWords b) n).length = n + 16 := by rw [sched_len, firstWords_len]; omega
  unfold laid
  rw [List.set_append_right _ _ (by omega), hl, Nat.sub_self, show 48 - n = (48 - (n + 1)) + 1 by omega, List.replicate_succ, List.set_cons_zero]
  simp [sched]

theorem xor_lt (a b : Nat) (ha : a < 4294967296) (hb : b < 4294967296) : a ^^^ b < 4294967296 := Nat.xor_lt_two_pow (n := 32) ha hb
theorem and_lt (a b : Nat) (hb : b < 4294967296) : a &&& b < 4294967296 := Nat.and_lt_two_pow (n := 32) a hb
theorem sig0_lt (x : Nat) (h : x < 4294967296) : sig0 x < 4294967296 := xor_lt _ _ (xor_lt _ _ (rotr_lt _ _) (rotr_lt _ _)) (by omega)
theorem sig1_lt (x : Nat) (h : x < 4294967296) : sig1 x < 4294967296 := xor_lt _ _ (xor_lt _ _ (rotr_lt _ _) (rotr_lt _ _)) (by omega)
theorem ext_lt (l : List Nat) : ext l < 4294967296 := Nat.mod_lt _ (by decide)

theorem sched_lt (ws : List Nat) (h : ∀ x ∈ ws, x < 4294967296) : ∀ n, ∀ x ∈ sched ws n, x < 4294967296
  | 0, x, hx => h x hx
  | n + 1, x, hx => by
    rcases List.mem_append.1 hx with hx | hx
    · exact sched_lt ws h n x hx
    · simp at hx; subst hx; exact ext_lt _
theorem first_lt (b : List Nat) (hb : ∀ x ∈ b, x < 256) : ∀ y ∈ firstWords b, y < 4294967296 := by
  intro y hy
  simp only [firstWords, List.mem_map] at hy
  obtain ⟨j, _, rfl⟩ := hy
  exact pw_lt4 b 64 j hb
theorem ext_at (ws : List Nat) (n : Nat) (h : ws.length = 16) : ext (sched ws n) = ((sched ws n).getD n 0 + (sched ws n).getD (n + 9) 0 + sig0 ((sched ws n).getD (n + 1) 0) + sig1 ((sched ws n).getD (n + 14) 0)) % 4294967296 := by
  unfold ext
  rw [sched_len, h, show 16 + n - 16 = n by omega, show 16 + n - 7 = n + 9 by omega, show 16 + n - 15 = n + 1 by omega, show 16 + n - 2 = n + 14 by omega]
theorem getD_lt32 (l : List Nat) (h : ∀ x ∈ l, x < 4294967296) (j : Nat) : l.getD j 0 < 4294967296 := by
  rw [List.getD_eq_getElem?_getD]
  cases e : l[j]? with
  | none => simp
  | some x => exact h x (List.mem_of_getElem? e)
theorem laid_lt (b : List Nat) (hb : ∀ x ∈ b, x < 256) (n : Nat) : ∀ x ∈ laid b n, x < 4294967296 := by
  intro x hx
  rcases List.mem_append.1 hx with hx | hx
  · refine sched_lt _ ?_ n x hx
    intro y hy
    simp only [firstWords, List.mem_map] at hy
    obtain ⟨j, _, rfl⟩ := hy
    exact pw_lt4 b 64 j hb
  · simp at hx; omega

/-- The eight words. -/
structure St where
  (a b c d e f g h : Nat)
def St.list (s : St) : List Nat := [s.a, s.b, s.c, s.d, s.e, s.f, s.g, s.h]
structure St.Ok (s : St) : Prop where
  a : s.a < 4294967296
  b : s.b < 4294967296
  c : s.c < 4294967296
  d : s.d < 4294967296
  e : s.e < 4294967296
  f : s.f < 4294967296
  g : s.g < 4294967296
  h : s.h < 4294967296
def big1 (e : Nat) : Nat := rotr e 6 ^^^ rotr e 11 ^^^ rotr e 25
def big0 (a : Nat) : Nat := rotr a 2 ^^^ rotr a 13 ^^^ rotr a 22
def choice (e f g : Nat) : Nat := (e &&& f) ^^^ ((4294967295 - e) &&& g)
def majority (a b c : Nat) : Nat := (a &&& b) ^^^ (a &&& c) ^^^ (b &&& c)
def tOne (s : St) (k w : Nat) : Nat := s.h + big1 s.e + choice s.e s.f s.g + k + w
def tTwo (s : St) : Nat := big0 s.a + majority s.a s.b s.c
def St.round (s : St) (k w : Nat) : St := ⟨(tOne s k w + tTwo s) % 4294967296, s.a, s.b, s.c, (s.d + tOne s k w) % 4294967296, s.e, s.f, s.g⟩
def St.run (K ws : List Nat) (s : St) : Nat → St
  | 0 => s
  | n + 1 => (St.run K ws s n).round (K.getD n 0) (ws.getD n 0)
theorem big1_lt (x : Nat) : big1 x < 4294967296 := xor_lt _ _ (xor_lt _ _ (rotr_lt _ _) (rotr_lt _ _)) (rotr_lt _ _)
theorem big0_lt (x : Nat) : big0 x < 4294967296 := xor_lt _ _ (xor_lt _ _ (rotr_lt _ _) (rotr_lt _ _)) (rotr_lt _ _)
theorem choice_lt (e f g : Nat) (hf : f < 4294967296) (hg : g < 4294967296) : choice e f g < 4294967296 := xor_lt _ _ (and_lt _ _ hf) (and_lt _ _ hg)
theorem majority_lt (a b c : Nat) (hb : b < 4294967296) (hc : c < 4294967296) : majority a b c < 4294967296 := xor_lt _ _ (xor_lt _ _ (and_lt _ _ hb) (and_lt _ _ hc)) (and_lt _ _ hc)
theorem St.Ok.round {s : St} (h : s.Ok) (k w : Nat) : (s.round k w).Ok := ⟨Nat.mod_lt _ (by decide), h.a, h.b, h.c, Nat.mod_lt _ (by decide), h.e, h.f, h.g⟩
theorem St.Ok.run {s : St} (h : s.Ok) (K ws : List Nat) : ∀ n, (St.run K ws s n).Ok
  | 0 => h
  | n + 1 => (St.Ok.run h K ws n).round _ _
/-- Two lists of words, added. -/
def addW (l m : List Nat) : List Nat := List.zipWith (fun x y => (x + y) % 4294967296) l m
/-- The eight words behind one more block of 64 bytes. -/
def mix (K : List Nat) (s : St) (b : List Nat) : List Nat := addW s.list (St.run K (laid b 48) s 64).list
end Go.Proofs.YtdidjdoifpfmmaaGreatDoor
