import Derived.Test.YtdidjdoifpfmmaaGreatDoorOnce
namespace Go.Proofs.YtdidjdoifpfmmaaGreatDoor
open Go.RowKit

set_option maxRecDepth 100000 in
set_option maxHeartbeats 1600000 in
/-- Not yet done. -/
theorem do_first (b B : Nat) (hB : B ≤ b) (c2 : Value) (w : World) (h : RowIs w b 389 (.int .u32 0 :: .int .i32 0 :: c2 :: u32s (tabTo 0))) :
    Calls Tryz.prog 276 #[.pointer (some ⟨b, 0, none⟩), .func (.func 277) #[.pointer (some ⟨b, 0, none⟩)] #[]] w fun e w' => e = .returned (.tuple #[]) ∧ RowIs w' b 389 (.int .u32 1 :: .int .i32 0 :: c2 :: u32s (tabTo 16)) ∧ Below B w w' := by
  have h0 : w.cell? ⟨b, 0, none⟩ = some (.int .u32 0) := h.cell 0
  have hl := run_call_load (P := Tryz.prog) Tryz.func307 (by kernel_rfl) (by kernel_rfl) (by kernel_rfl) .u32 (by kernel_rfl) h0
  have hS := slow_any b B hB c2 w h
  have hnot : ∀ (x : Bool) (w : World), (Op.unary .not (.bool x)).run Tryz.prog w = .ok (.bool (!x)) w := fun _ _ => rfl
  go_enter Tryz.func276, Tryz.ntmps276
  go_wp2_with (first | (go_at_call 290; refine hS.mono ?_; rintro e w' ⟨rfl, hr, hb⟩) | (go_at_call 289; go_in))
  go_end0
  exact ⟨rfl, hr, hb⟩
set_option maxRecDepth 100000 in
set_option maxHeartbeats 1600000 in
/-- Done already. -/
theorem do_done (b : Nat) (fv : Value) (w : World) (h0 : w.cell? ⟨b, 0, none⟩ = some (.int .u32 1)) :
    Calls Tryz.prog 276 #[.pointer (some ⟨b, 0, none⟩), fv] w fun e w' => e = .returned (.tuple #[]) ∧ w = w' := by
  have hl := run_call_load (P := Tryz.prog) Tryz.func307 (by kernel_rfl) (by kernel_rfl) (by kernel_rfl) .u32 (by kernel_rfl) h0
  have hnot : ∀ (x : Bool) (w : World), (Op.unary .not (.bool x)).run Tryz.prog w = .ok (.bool (!x)) w := fun _ _ => rfl
  go_enter Tryz.func276, Tryz.ntmps276
  go_wp2
  go_end0
  exact ⟨rfl, rfl⟩

/-- The table is made, or it is not yet. -/
def TabAt (w : World) (b : Nat) : Prop := RowIs w b 389 (.int .u32 0 :: .int .i32 0 :: .int .u32 0 :: u32s (tabTo 0)) ∨ RowIs w b 389 (.int .u32 1 :: .int .i32 0 :: .int .u32 0 :: u32s (tabTo 16))
theorem TabAt.drew {w : World} {b : Nat} (h : TabAt w b) : TabAt w.drew b := h.imp (·.drew) (·.drew)
theorem tab_full : tabTo 16 = halfTab := by decide +kernel

set_option maxRecDepth 100000 in
set_option maxHeartbeats 1600000 in
theorem row_any (b B : Nat) (hB : B ≤ b) (j : Nat) (hj : j < 16) (w : World) (h : TabAt w b) :
    Calls Tryz.prog 250 #[.pointer (some ⟨b, 0, none⟩), .int .u32 (j : Nat)] w fun e w' => e = .returned (.int .u32 (crcBits 4 j : Nat)) ∧ TabAt w' b ∧ Below B w w' := by
  have hmf : ∀ (fn : Fn) (first cap : Array Value) (w : World), (Instr.makeFunc fn first cap).run Tryz.prog w = .ok (.func fn first cap) w := fun _ _ _ _ => rfl
  have hget : Hid ((tabTo 16).getD j 0 = crcBits 4 j) := by rw [tab_full]; exact halfTab_get j hj
  have hD : Calls Tryz.prog 276 #[.pointer (some ⟨b, 0, none⟩), .func (.func 277) #[.pointer (some ⟨b, 0, none⟩)] #[]] w fun e w' => e = .returned (.tuple #[]) ∧ RowIs w' b 389 (.int .u32 1 :: .int .i32 0 :: .int .u32 0 :: u32s (tabTo 16)) ∧ Below B w w' := by
    rcases h with h | h
    · exact do_first b B hB _ w h
    · refine (do_done b _ w (h.cell 0)).mono ?_
      rintro e w' ⟨rfl, rfl⟩
      exact ⟨rfl, h, Below.refl _ _⟩
  clear h
  generalize crcBits 4 j = y at hget ⊢
  go_enter Tryz.func250, Tryz.ntmps250
  go_wp2_with (go_at_call 276; refine hD.mono ?_; rintro e w' ⟨rfl, hr, hb⟩; have hc := hr.cell (j + 3); simp only [List.getElem?_cons_succ] at hc; rw [u32s_get _ _ (by rw [tabTo_len 16 (Nat.le_refl _)]; exact hj), hget.out, Nat.add_comm j 3] at hc)
  go_ret
  exact ⟨rfl, .inr hr, hb⟩

theorem half_facts (x : Nat) (hx : x < 4294967296) : ∃ j z : Nat, j < 16 ∧ bits .and .u32 (x : Int) 15 = (j : Int) ∧ crcBits 4 j = z ∧ bits .xor .u32 ((x : Int) / 16) (z : Int) = (crcBits 4 x : Nat) := by
  refine ⟨x % 16, crcBits 4 (x % 16), Nat.mod_lt _ (by decide), ?_, rfl, ?_⟩
  · have h := u32_and_nat x 15 hx (by decide)
    rw [show (15 : Nat) = 2 ^ 4 - 1 from rfl, Nat.and_two_pow_sub_one_eq_mod] at h
    exact h
  · have h := u32_xor_nat (x / 16) (crcBits 4 (x % 16)) (by omega) (crcBits_lt 4 _ (by omega))
    rw [← crcBits_half] at h
    exact h

set_option maxRecDepth 100000 in
set_option maxHeartbeats 1600000 in
theorem crcDev_any (s : ByteArray) (w : World) (hs : s.size ≤ 1000000) :
    Calls Tryz.prog 187 #[.string s] w fun e w' => e = .returned (.int .u32 (crc (textOf s) : Nat)) ∧ Below w.heap.size w w' := by
  go_enter Tryz.func187, Tryz.ntmps187
  go_wp2
  go_loopw [4, 8] (fun r i wr => ∃ k : Nat, k ≤ s.size ∧ i = .int .i64 k ∧ r = .int .u32 (crcOver ((textOf s).take k) 4294967295 : Nat) ∧ TabAt wr w.heap.size ∧ Below w.heap.size w wr) (fun _ i _ => s.size - (intOf i).toNat)
  case atStart => exact ⟨0, Nat.zero_le _, rfl, rfl, .inl (RowIs.new w 389 (.int .u32 0 :: .int .i32 0 :: .int .u32 0 :: u32s (tabTo 0))), (Below.refl _ _).alloc (Nat.le_refl _) _⟩
  case round =>
    obtain ⟨k, hk, rfl, rfl, hT, hb⟩ := hrel
    have hlt := crcOver_lt ((textOf s).take k) 4294967295 (fun x hx => textOf_lt s x (List.mem_of_mem_take hx)) (by decide)
    by_cases hks : k < s.size
    · have hsn : Hid _ := textOf_take s k hks
      have hst : Hid _ := crcOver_snoc ((textOf s).take k) (s[k]).toNat 4294967295
      have hbt : (s[k]).toNat < 256 := (s[k]).toNat_lt
      have hx := u32_xor_nat (crcOver ((textOf s).take k) 4294967295) (s[k]).toNat (by omega) (by omega)
      have hxl := xor_lt (crcOver ((textOf s).take k) 4294967295) (s[k]).toNat hlt (by omega)
      have hfin : Hid (crcOver ((textOf s).take (k + 1)) 4294967295 = crcBits 4 (crcBits 4 (crcOver ((textOf s).take k) 4294967295 ^^^ (s[k]).toNat))) := by rw [hsn.out]; exact hst.out
      clear hsn hst
      generalize crcOver ((textOf s).take k) 4294967295 = r at hlt hx hfin hxl ⊢
      generalize r ^^^ (s[k]).toNat = x at hxl hfin hx
      obtain ⟨j1, z1, hj1, a1, e1, q1⟩ := half_facts x hxl
      have hyl := crcBits_lt 4 x hxl
      generalize crcBits 4 x = y at hyl hfin q1
      obtain ⟨j2, z2, hj2, a2, e2, q2⟩ := half_facts y hyl
      have hvl := crcBits_lt 4 y hyl
      generalize crcBits 4 y = v at hvl hfin q2
      have l1 : z1 < 4294967296 := by rw [← e1]; exact crcBits_lt 4 _ (by omega)
      have l2 : z2 < 4294967296 := by rw [← e2]; exact crcBits_lt 4 _ (by omega)
      have r1 := row_any w.heap.size w.heap.size (Nat.le_refl _) j1 hj1 wr hT
      rw [e1] at r1
      have r2 : Hid (∀ w1, TabAt w1 w.heap.size → Calls Tryz.prog 250 #[.pointer (some ⟨w.heap.size, 0, none⟩), .int .u32 (j2 : Nat)] w1 fun e w' => e = .returned (.int .u32 (z2 : Nat)) ∧ TabAt w' w.heap.size ∧ Below w.heap.size w1 w') := fun w1 h1 => by
        have := row_any w.heap.size w.heap.size (Nat.le_refl _) j2 hj2 w1 h1
        rw [e2] at this
        exact this
      clear e1 e2
      go_wp2_with (first | (go_at_call 250; refine r1.mono ?_; rintro e w1 ⟨rfl, hT1, hb1⟩; clear r1) | (go_at_call 250; refine (r2.out w1 hT1).mono ?_; rintro e w2 ⟨rfl, hT2, hb2⟩))
      exact ⟨⟨k + 1, by omega, by go_num, by rw [hfin.out], hT2, hb.trans (hb1.trans hb2)⟩, by simp [intOf]; omega⟩
    · have hfull : Hid (crc (textOf s) = 4294967295 - crcOver ((textOf s).take k) 4294967295) := by
        show crc (textOf s) = _
        rw [List.take_of_length_le (by rw [textOf_len]; omega)]; rfl
      generalize crcOver ((textOf s).take k) 4294967295 = r at hlt hfull ⊢
      have hn := not_u32 r hlt
      go_wp2
      go_ret
      exact ⟨by rw [hfull.out]; exact ret_eq (congrArg (Value.int .u32) (by omega)), hb⟩

theorem archiveCRC_any (s : ByteArray) (w : World) (hs : s.size ≤ 1000000) :
    Calls Tryz.prog 112 #[.string s] w fun e w' => e = .returned (.int .u32 (crc (textOf s) : Nat)) ∧ Below w.heap.size w w' := by
  have h := crcDev_any s w hs
  go_enter Tryz.func112, Tryz.ntmps112
  go_wp2_with (go_at_call 187; refine h.mono ?_; rintro e w' ⟨rfl, hb⟩)
  go_ret
  exact ⟨rfl, hb⟩
theorem crc_lt (l : List Nat) : crc l < 4294967296 := by unfold crc; omega
theorem plainCRC_any (s : ByteArray) (w : World) (hs : s.size ≤ 1000000) :
    Calls Tryz.prog 67 #[.string s] w fun e w' => e = .returned (.int .i64 (crc (textOf s) : Nat)) ∧ Below w.heap.size w w' := by
  have h := archiveCRC_any s w hs
  have hl := crc_lt (textOf s)
  generalize crc (textOf s) = x at h hl ⊢
  go_enter Tryz.func67, Tryz.ntmps67
  go_wp2_with (go_at_call 112; refine h.mono ?_; rintro e w' ⟨rfl, hb⟩)
  go_ret
  exact ⟨rfl, hb⟩
end Go.Proofs.YtdidjdoifpfmmaaGreatDoor
