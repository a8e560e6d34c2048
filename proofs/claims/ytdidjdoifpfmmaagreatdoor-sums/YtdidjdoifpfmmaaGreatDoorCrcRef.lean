import Derived.Test.YtdidjdoifpfmmaaGreatDoorSha
/- CRC-32, bit by bit: the document's answer. -/
namespace Go.Proofs.YtdidjdoifpfmmaaGreatDoor
open Go.RowKit

def crcBit (r : Nat) : Nat := if r % 2 = 1 then (r / 2) ^^^ 3988292384 else r / 2
def crcBits : Nat → Nat → Nat
  | 0, r => r
  | n + 1, r => crcBit (crcBits n r)
def crcOver (l : List Nat) (r : Nat) : Nat := l.foldl (fun r b => crcBits 8 (r ^^^ b)) r
def crc (l : List Nat) : Nat := 4294967295 - crcOver l 4294967295
theorem crcBit_lt (r : Nat) (h : r < 4294967296) : crcBit r < 4294967296 := by
  unfold crcBit
  split
  · exact xor_lt _ _ (by omega) (by decide)
  · omega
theorem crcBits_lt (n r : Nat) (h : r < 4294967296) : crcBits n r < 4294967296 := by
  induction n with
  | zero => exact h
  | succ n ih => exact crcBit_lt _ ih
theorem crcOver_snoc (l : List Nat) (b r : Nat) : crcOver (l ++ [b]) r = crcBits 8 (crcOver l r ^^^ b) := by simp [crcOver]
theorem crcOver_lt : ∀ (l : List Nat) (r : Nat), (∀ x ∈ l, x < 256) → r < 4294967296 → crcOver l r < 4294967296
  | [], r, _, h => h
  | b :: l, r, hb, h => crcOver_lt l _ (fun x hx => hb x (List.mem_cons_of_mem _ hx)) (crcBits_lt 8 _ (xor_lt _ _ h (Nat.lt_trans (hb b List.mem_cons_self) (by decide))))

/-- A text's bytes. -/
def textOf (s : ByteArray) : List Nat := s.data.toList.map UInt8.toNat
theorem textOf_lt (s : ByteArray) : ∀ x ∈ textOf s, x < 256 := by
  intro x hx
  simp only [textOf, List.mem_map] at hx
  obtain ⟨u, _, rfl⟩ := hx
  exact u.toNat_lt
theorem textOf_len (s : ByteArray) : (textOf s).length = s.size := by simp [textOf]
theorem textOf_take (s : ByteArray) (k : Nat) (h : k < s.size) : (textOf s).take (k + 1) = (textOf s).take k ++ [(s[k]).toNat] := by
  rw [List.take_succ_eq_append_getElem (by rw [textOf_len]; exact h)]
  simp [textOf]
  rfl

set_option maxHeartbeats 1000000 in
set_option maxRecDepth 3000 in
theorem crcRef_any (s : ByteArray) (w : World) (hs : s.size ≤ 1000000) :
    Calls Tryz.prog 68 #[.string s] w fun e w' => e = .returned (.int .i64 (crc (textOf s) : Nat)) ∧ w = w' := by
  go_enter Tryz.func68, Tryz.ntmps68
  go_wp2
  go_loop [3, 4] (fun r i => ∃ k : Nat, k ≤ s.size ∧ i = .int .i64 k ∧ r = .int .i64 (crcOver ((textOf s).take k) 4294967295 : Nat)) (fun _ i => s.size - (intOf i).toNat)
  case atStart => exact ⟨0, Nat.zero_le _, rfl, rfl⟩
  case round =>
    obtain ⟨k, hk, rfl, rfl⟩ := hrel
    have hlt := crcOver_lt ((textOf s).take k) 4294967295 (fun x hx => textOf_lt s x (List.mem_of_mem_take hx)) (by decide)
    by_cases hks : k < s.size
    · have hsn : Hid _ := textOf_take s k hks
      have hst : Hid _ := crcOver_snoc ((textOf s).take k) (s[k]).toNat 4294967295
      have hb : (s[k]).toNat < 256 := (s[k]).toNat_lt
      have hx := i64_xor_nat (crcOver ((textOf s).take k) 4294967295) (s[k]).toNat (by omega) (by omega)
      have hxl := xor_lt (crcOver ((textOf s).take k) 4294967295) (s[k]).toNat hlt (by omega)
      have hfin : Hid (crcOver ((textOf s).take (k + 1)) 4294967295 = crcBits 8 (crcOver ((textOf s).take k) 4294967295 ^^^ (s[k]).toNat)) := by rw [hsn.out]; exact hst.out
      clear hsn hst
      generalize crcOver ((textOf s).take k) 4294967295 = r at hlt hx hxl hfin ⊢
      go_wp2
      generalize r ^^^ (s[k]).toNat = r0 at hxl hfin ⊢
      go_loop [3, 5] (fun r i => ∃ m : Nat, m ≤ 8 ∧ i = .int .i64 m ∧ r = .int .i64 (crcBits m r0 : Nat)) (fun _ i => 8 - (intOf i).toNat)
      case atStart => exact ⟨0, by omega, rfl, rfl⟩
      case round =>
        obtain ⟨m, hm, rfl, rfl⟩ := hrel
        by_cases hm8 : m < 8
        · have hl := crcBits_lt m r0 hxl
          have hnx : Hid (crcBits (m + 1) r0 = crcBit (crcBits m r0)) := rfl
          generalize crcBits m r0 = q at hl hnx ⊢
          by_cases hodd : q % 2 = 1
          · have ho : (q : Int) % 2 = 1 := by omega
            have hxo := i64_xor_nat (q / 2) 3988292384 (by omega) (by decide)
            have hq : Hid (crcBits (m + 1) r0 = (q / 2) ^^^ 3988292384) := by rw [hnx.out]; unfold crcBit; rw [if_pos hodd]; rfl
            go_wp2
            go_round
            case rel => exact ⟨m + 1, by omega, by go_num, by rw [hq.out]; exact congrArg (Value.int .i64) hxo⟩
            case measure => simp [intOf]; omega
          · have ho : (q : Int) % 2 = 0 := by omega
            have hq : Hid (crcBits (m + 1) r0 = q / 2) := by rw [hnx.out]; unfold crcBit; rw [if_neg hodd]; rfl
            go_wp2
            go_round
            case rel => exact ⟨m + 1, by omega, by go_num, by rw [hq.out]; rfl⟩
            case measure => simp [intOf]; omega
        · have em : 8 = m := by omega
          have hq : Hid (crcOver ((textOf s).take (k + 1)) 4294967295 = crcBits m r0) := by rw [← em]; exact hfin.out
          go_wp2
          go_round
          case rel => exact ⟨k + 1, by omega, by go_num, by rw [hq.out]⟩
          case measure => simp [intOf]; omega
    · have hfull : Hid (crc (textOf s) = 4294967295 - crcOver ((textOf s).take k) 4294967295) := by
        show crc (textOf s) = _
        rw [List.take_of_length_le (by rw [textOf_len]; omega)]; rfl
      generalize crcOver ((textOf s).take k) 4294967295 = r at hlt hfull ⊢
      go_wp2
      go_ret
      exact ⟨by rw [hfull.out]; exact ret_eq (congrArg (Value.int .i64) (by omega)), rfl⟩
end Go.Proofs.YtdidjdoifpfmmaaGreatDoor
