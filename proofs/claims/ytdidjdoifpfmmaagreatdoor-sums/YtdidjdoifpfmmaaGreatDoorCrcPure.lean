import Derived.Test.YtdidjdoifpfmmaaGreatDoorCrcRef
/- CRC-32 by halves of bytes: plain mathematics. -/
namespace Go.Proofs.YtdidjdoifpfmmaaGreatDoor

theorem crcBit_xor (a b : Nat) : crcBit (a ^^^ b) = crcBit a ^^^ crcBit b := by
  have h1 : (a ^^^ b) / 2 = a / 2 ^^^ b / 2 := Nat.xor_div_two
  have h2 : (a ^^^ b) % 2 = (a % 2) ^^^ (b % 2) := Nat.xor_mod_two_pow (n := 1)
  unfold crcBit
  rw [h1, h2]
  rcases Nat.mod_two_eq_zero_or_one a with ha | ha <;> rcases Nat.mod_two_eq_zero_or_one b with hb | hb <;> rw [ha, hb]
  · rw [if_neg (by decide), if_neg (by decide), if_neg (by decide)]
  · rw [if_pos (by decide), if_neg (by decide), if_pos (by decide), Nat.xor_assoc]
  · rw [if_pos (by decide), if_pos (by decide), if_neg (by decide), Nat.xor_assoc, Nat.xor_assoc, Nat.xor_comm (b / 2)]
  · rw [if_neg (by decide), if_pos (by decide), if_pos (by decide), Nat.xor_assoc, Nat.xor_comm (b / 2), ← Nat.xor_assoc 3988292384, Nat.xor_self, Nat.zero_xor]
theorem crcBits_xor (n a b : Nat) : crcBits n (a ^^^ b) = crcBits n a ^^^ crcBits n b := by
  induction n with
  | zero => rfl
  | succ n ih => simp only [crcBits, ih, crcBit_xor]
theorem crcBits_shift (n q : Nat) : crcBits n (2 ^ n * q) = q := by
  induction n generalizing q with
  | zero => simp [crcBits]
  | succ n ih =>
    rw [crcBits, show 2 ^ (n + 1) * q = 2 ^ n * (2 * q) by rw [Nat.pow_succ, Nat.mul_assoc], ih]
    unfold crcBit
    rw [if_neg (by omega)]
    omega
theorem split16 (r : Nat) : r = (2 ^ 4 * (r / 2 ^ 4)) ^^^ (r % 2 ^ 4) := by
  apply Nat.eq_of_testBit_eq
  intro i
  rw [Nat.testBit_xor, Nat.testBit_two_pow_mul, Nat.testBit_div_two_pow, Nat.testBit_mod_two_pow]
  by_cases h : 4 ≤ i
  · have e : i - 4 + 4 = i := by omega
    have e2 : ¬ i < 4 := by omega
    simp [h, e, e2]
  · have e2 : i < 4 := by omega
    simp [e2, h]
/-- Half a byte at once. -/
theorem crcBits_half (r : Nat) : crcBits 4 r = (r / 16) ^^^ crcBits 4 (r % 16) := by
  conv => lhs; rw [split16 r, crcBits_xor, crcBits_shift]
theorem crcBits_eight (r : Nat) : crcBits 8 r = crcBits 4 (crcBits 4 r) := rfl
/-- The table: what half a byte leaves behind. -/
def halfTab : List Nat := (List.range 16).map (crcBits 4)
theorem halfTab_get (j : Nat) (h : j < 16) : halfTab.getD j 0 = crcBits 4 j := by
  simp [halfTab, List.getD_eq_getElem?_getD, h]
end Go.Proofs.YtdidjdoifpfmmaaGreatDoor
