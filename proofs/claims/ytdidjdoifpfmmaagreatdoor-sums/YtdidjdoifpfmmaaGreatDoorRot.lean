import Derived.Test.YtdidjdoifpfmmaaGreatDoorMem
import Derived.Laws.BitsAllLaws
/- Words of 32 bits, turned. -/
namespace Go.Proofs.YtdidjdoifpfmmaaGreatDoor
open Go.RowKit

def W32 : Nat := 4294967296
/-- A word's bits, turned right. -/
def rotr (x n : Nat) : Nat := (x / 2 ^ n ||| x * 2 ^ (32 - n)) % 4294967296
theorem rotr_lt (x n : Nat) : rotr x n < 4294967296 := Nat.mod_lt _ (by decide)

theorem rot_amt (n : Nat) (h0 : 1 ≤ n) (h1 : n ≤ 31) : bits .and .u64 (IntKind.u64.wrap (-(n : Int))) 31 = ((32 - n : Nat) : Int) := by
  have e : IntKind.u64.wrap (-(n : Int)) = ((18446744073709551616 - n : Nat) : Int) := by rw [IntKind.wrap_u64]; omega
  rw [e]
  have h := u64_and_nat (18446744073709551616 - n) 31 (by omega) (by decide)
  have e2 : ((31 : Nat) : Int) = 31 := rfl
  rw [e2] at h
  rw [h, nat_mask5]
  omega

theorem rotr_eq (x n : Nat) (hx : x < 4294967296) : rotr x n = (x * 2 ^ (32 - n) % 4294967296) ||| x / 2 ^ n := by
  unfold rotr
  have e : (4294967296 : Nat) = 2 ^ 32 := by decide
  rw [e, Nat.or_mod_two_pow, Nat.or_comm]
  congr 1
  exact Nat.mod_eq_of_lt (Nat.lt_of_le_of_lt (Nat.div_le_self _ _) (by rw [← e]; exact hx))

theorem ofInt_i64 (a : Nat) (ha : a < 9223372036854775808) : (BitVec.ofInt 64 (a : Int)).toNat = a := by
  rw [BitVec.ofInt_natCast, BitVec.toNat_ofNat]; exact Nat.mod_eq_of_lt (by omega)
theorem i64_and_nat (a b : Nat) (ha : a < 9223372036854775808) (hb : b < 9223372036854775808) : bits .and .i64 (a : Int) (b : Int) = ((a &&& b : Nat) : Int) := by
  have hx : a &&& b < 2 ^ 63 := Nat.and_lt_two_pow _ (by omega)
  show IntKind.i64.wrap ((BitVec.ofInt 64 (a : Int) &&& BitVec.ofInt 64 (b : Int)).toNat : Int) = _
  rw [BitVec.toNat_and, ofInt_i64 a ha, ofInt_i64 b hb, IntKind.wrap_i64]
  omega
theorem i64_or_nat (a b : Nat) (ha : a < 9223372036854775808) (hb : b < 9223372036854775808) : bits .or .i64 (a : Int) (b : Int) = ((a ||| b : Nat) : Int) := by
  have hx : a ||| b < 2 ^ 63 := Nat.or_lt_two_pow (by omega) (by omega)
  show IntKind.i64.wrap ((BitVec.ofInt 64 (a : Int) ||| BitVec.ofInt 64 (b : Int)).toNat : Int) = _
  rw [BitVec.toNat_or, ofInt_i64 a ha, ofInt_i64 b hb, IntKind.wrap_i64]
  omega
theorem i64_xor_nat (a b : Nat) (ha : a < 9223372036854775808) (hb : b < 9223372036854775808) : bits .xor .i64 (a : Int) (b : Int) = ((a ^^^ b : Nat) : Int) := by
  have hx : a ^^^ b < 2 ^ 63 := Nat.xor_lt_two_pow (by omega) (by omega)
  show IntKind.i64.wrap ((BitVec.ofInt 64 (a : Int) ^^^ BitVec.ofInt 64 (b : Int)).toNat : Int) = _
  rw [BitVec.toNat_xor, ofInt_i64 a ha, ofInt_i64 b hb, IntKind.wrap_i64]
  omega

theorem rot_val (x n : Nat) (hx : x < 4294967296) (hn : n ≤ 31) : bits .or .u32 ((x : Int) * 2 ^ (32 - n) % 4294967296) ((x : Int) / 2 ^ (32 - (32 - n))) = ((rotr x n : Nat) : Int) := by
  rw [show 32 - (32 - n) = n by omega, rotr_eq x n hx]
  have h1 : (x : Int) * 2 ^ (32 - n) % 4294967296 = ((x * 2 ^ (32 - n) % 4294967296 : Nat) : Int) := by simp
  have h2 : (x : Int) / 2 ^ n = ((x / 2 ^ n : Nat) : Int) := by simp
  rw [h1, h2]
  exact u32_or_nat _ _ (Nat.mod_lt _ (by decide)) (Nat.lt_of_le_of_lt (Nat.div_le_self _ _) hx)

theorem turn_val (x n : Nat) (hx : x < 4294967296) (hn0 : 1 ≤ n) (hn : n ≤ 31) : (bits .or .i64 ((x : Int) / 2 ^ n) (wrap64 ((x : Int) * 2 ^ (32 - n)))).tmod 4294967296 = ((rotr x n : Nat) : Int) := by
  have h1 : (x : Int) * 2 ^ (32 - n) = ((x * 2 ^ (32 - n) : Nat) : Int) := by simp
  have h2 : (x : Int) / 2 ^ n = ((x / 2 ^ n : Nat) : Int) := by simp
  have h3 : x * 2 ^ (32 - n) < 4294967296 * 2 ^ 31 := by
    have a : 2 ^ (32 - n) ≤ 2 ^ 31 := Nat.pow_le_pow_right (by decide) (by omega)
    have b : x * 2 ^ (32 - n) ≤ x * 2 ^ 31 := Nat.mul_le_mul_left _ a
    have c : x * 2 ^ 31 < 4294967296 * 2 ^ 31 := Nat.mul_lt_mul_of_pos_right hx (by decide)
    omega
  have h4 : x / 2 ^ n ≤ x := Nat.div_le_self _ _
  rw [h1, h2]
  unfold rotr
  generalize x * 2 ^ (32 - n) = y at *
  generalize x / 2 ^ n = z at *
  have h5 : wrap64 (y : Int) = (y : Int) := by unfold wrap64; omega
  rw [h5, i64_or_nat _ _ (by omega) (by omega)]
  rw [Int.tmod_eq_emod_of_nonneg (by omega)]
  simp

set_option maxHeartbeats 1000000 in
theorem right_any (x n : Nat) (hx : x < 4294967296) (hn0 : 1 ≤ n) (hn : n ≤ 31) (w : World) :
    Calls Tryz.prog 275 #[.int .u32 x, .int .i64 n] w fun e w' => e = .returned (.int .u32 (rotr x n)) ∧ w = w' := by
  have hs := rot_amt n hn0 hn
  have hv := rot_val x n hx hn
  go_enter Tryz.func275, Tryz.ntmps275
  go_wp2
  go_ret
  exact ⟨rfl, rfl⟩

theorem turn_any (x n : Nat) (hx : x < 4294967296) (hn0 : 1 ≤ n) (hn : n ≤ 31) (w : World) :
    Calls Tryz.prog 186 #[.int .i64 x, .int .i64 n] w fun e w' => e = .returned (.int .i64 (rotr x n)) ∧ w = w' := by
  have hv := turn_val x n hx hn0 hn
  go_enter Tryz.func186, Tryz.ntmps186
  go_wp2
  go_ret
  exact ⟨rfl, rfl⟩

set_option maxHeartbeats 1000000 in
theorem turned_any (x i j k : Nat) (hx : x < 4294967296) (hi0 : 1 ≤ i) (hi : i ≤ 31) (hj0 : 1 ≤ j) (hj : j ≤ 31) (hk0 : 1 ≤ k) (hk : k ≤ 31) (w : World) :
    Calls Tryz.prog 249 #[.int .u32 x, .int .i64 i, .int .i64 j, .int .i64 k] w fun e w' => e = .returned (.int .u32 (rotr x i ^^^ rotr x j ^^^ rotr x k : Nat)) ∧ w = w' := by
  have r1 := right_any x i hx hi0 hi w
  have r2 := right_any x j hx hj0 hj w
  have r3 := right_any x k hx hk0 hk w
  have h1 := u32_xor_nat (rotr x i) (rotr x j) (rotr_lt _ _) (rotr_lt _ _)
  have h2 := u32_xor_nat (rotr x i ^^^ rotr x j) (rotr x k) (Nat.xor_lt_two_pow (n := 32) (rotr_lt _ _) (rotr_lt _ _)) (rotr_lt _ _)
  go_enter Tryz.func249, Tryz.ntmps249
  go_wp2_with (first | (go_at_call 275; refine r1.mono ?_; rintro e w' ⟨rfl, rfl⟩; clear r1) | (go_at_call 275; refine r2.mono ?_; rintro e w' ⟨rfl, rfl⟩; clear r2) | (go_at_call 275; refine r3.mono ?_; rintro e w' ⟨rfl, rfl⟩))
  go_ret
  exact ⟨rfl, rfl⟩
end Go.Proofs.YtdidjdoifpfmmaaGreatDoor
