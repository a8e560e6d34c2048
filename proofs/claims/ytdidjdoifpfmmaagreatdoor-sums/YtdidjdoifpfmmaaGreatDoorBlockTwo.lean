import Derived.Test.YtdidjdoifpfmmaaGreatDoorBlockOne
namespace Go.Proofs.YtdidjdoifpfmmaaGreatDoor
open Go.RowKit Digits

set_option maxHeartbeats 4000000 in
set_option maxRecDepth 1000000 in
theorem two_any {x0 x1 x2 x3 x4 x5 x7 x8 x9 x10 x11 x12 x13 x14 x15 x16 x17 x18 x19 x20 x21 x22 x23 x24 x25 x26 x27 x28 x29 x30 x31 x32 x33 x34 x35 x36 x37 x38 x39 x40 x41 x42 x43 x44 x45 x46 x47 x48 x49 x50 x51 x52 x53 x54 x55 x56 x57 x58 x59 x60 x61 x62 x63 x64 x65 x66 x67 x68 x69 x70 x71 x72 x73 x74 x75 x76 x77 x78 x79 x80 x81 x82 x83 x84 x85 x86 x87 x88 x89 x90 x91 x92 x93 x94 x95 x96 x97 x98 x99 x100 x101 x102 x103 x104 x105 x106 x107 x108 x109 x110 x111 x112 x113 x114 x115 x116 x117 x118 x119 x120 x121 x122 x123 x124 x125 x126 x127 x128 x129 x130 x131 x132 x133 x134 x135 x136 x137 x138 x139 x140 x141 x142 x143 x144 x145 x146 x147 x148 x149 x150 x151 x152 x153 x154 x155 x156 x157 x158 x159 x160 x161 x162 x163 x164 x165 x166 x167 x168 x169 x170 x171 x172 x173 x174 x175 x176 x177 x178 x179 x180 x181 x182 x183 x184 x185 x186 x187 x188 x189 x190 x191 x192 x193 x194 x195 x196 x197 x198 x199 x200 x201 x202 x203 x204 x205 x206 x207 x208 x209 x210 x211 x212 x213 x214 x215 x216 x217 x218 x219 x220 x221 x222 x223 x224 x225 x226 x227 x228 x229 x230 x231 x232 x233 x234 x235 x236 x237 x238 x239 x240 x241 x242 x243 x244 x245 x246 x247 x248 : Value} (gw : Nat) (b : List Nat) (B : Nat) (w : World) (R : Act → World → Prop)
    (hB : B ≤ gw) (hd : ∀ x ∈ b, x < 256) (h0 : RowIs w gw 3 (ints (laid b 0)))
    (hQ : Hid (∀ (y8 y9 y10 y11 y12 y13 y14 y70 y71 y72 y73 y74 y75 y76 y77 y78 y79 y80 y81 y82 y83 y84 y85 y86 y87 y88 y89 y90 y91 y92 y93 y94 y95 y96 y97 y98 y99 y100 y101 y102 y103 y104 y105 y106 y107 y108 y109 y110 y111 y112 y113 y114 y115 y116 y117 y118 y119 y120 : Value) (w' : World), RowIs w' gw 3 (ints (laid b 48)) → Below B w w' → R ⟨#[x0, x1, x2, x3, x4, x5, .slice (some ⟨gw, 0, none⟩) 64 64, x7, y8, y9, y10, y11, y12, y13, y14, x15, x16, x17, x18, x19, x20, x21, x22, x23, x24, x25, x26, x27, x28, x29, x30, x31, x32, x33, x34, x35, x36, x37, x38, x39, x40, x41, x42, x43, x44, x45, x46, x47, x48, x49, x50, x51, x52, x53, x54, x55, x56, x57, x58, x59, x60, x61, x62, x63, x64, x65, x66, x67, x68, x69, y70, y71, y72, y73, y74, y75, y76, y77, y78, y79, y80, y81, y82, y83, y84, y85, y86, y87, y88, y89, y90, y91, y92, y93, y94, y95, y96, y97, y98, y99, y100, y101, y102, y103, y104, y105, y106, y107, y108, y109, y110, y111, y112, y113, y114, y115, y116, y117, y118, y119, y120, x121, x122, x123, x124, x125, x126, x127, x128, x129, x130, x131, x132, x133, x134, x135, x136, x137, x138, x139, x140, x141, x142, x143, x144, x145, x146, x147, x148, x149, x150, x151, x152, x153, x154, x155, x156, x157, x158, x159, x160, x161, x162, x163, x164, x165, x166, x167, x168, x169, x170, x171, x172, x173, x174, x175, x176, x177, x178, x179, x180, x181, x182, x183, x184, x185, x186, x187, x188, x189, x190, x191, x192, x193, x194, x195, x196, x197, x198, x199, x200, x201, x202, x203, x204, x205, x206, x207, x208, x209, x210, x211, x212, x213, x214, x215, x216, x217, x218, x219, x220, x221, x222, x223, x224, x225, x226, x227, x228, x229, x230, x231, x232, x233, x234, x235, x236, x237, x238, x239, x240, x241, x242, x243, x244, x245, x246, x247, x248], []⟩ w')) :
    Code.wp Tryz.prog partTwo (At R) ⟨#[x0, x1, x2, x3, x4, x5, .slice (some ⟨gw, 0, none⟩) 64 64, x7, x8, x9, x10, x11, x12, x13, x14, x15, x16, x17, x18, x19, x20, x21, x22, x23, x24, x25, x26, x27, x28, x29, x30, x31, x32, x33, x34, x35, x36, x37, x38, x39, x40, x41, x42, x43, x44, x45, x46, x47, x48, x49, x50, x51, x52, x53, x54, x55, x56, x57, x58, x59, x60, x61, x62, x63, x64, x65, x66, x67, x68, x69, x70, x71, x72, x73, x74, x75, x76, x77, x78, x79, x80, x81, x82, x83, x84, x85, x86, x87, x88, x89, x90, x91, x92, x93, x94, x95, x96, x97, x98, x99, x100, x101, x102, x103, x104, x105, x106, x107, x108, x109, x110, x111, x112, x113, x114, x115, x116, x117, x118, x119, x120, x121, x122, x123, x124, x125, x126, x127, x128, x129, x130, x131, x132, x133, x134, x135, x136, x137, x138, x139, x140, x141, x142, x143, x144, x145, x146, x147, x148, x149, x150, x151, x152, x153, x154, x155, x156, x157, x158, x159, x160, x161, x162, x163, x164, x165, x166, x167, x168, x169, x170, x171, x172, x173, x174, x175, x176, x177, x178, x179, x180, x181, x182, x183, x184, x185, x186, x187, x188, x189, x190, x191, x192, x193, x194, x195, x196, x197, x198, x199, x200, x201, x202, x203, x204, x205, x206, x207, x208, x209, x210, x211, x212, x213, x214, x215, x216, x217, x218, x219, x220, x221, x222, x223, x224, x225, x226, x227, x228, x229, x230, x231, x232, x233, x234, x235, x236, x237, x238, x239, x240, x241, x242, x243, x244, x245, x246, x247, x248], []⟩ w := by
  conv => arg 2; whnf
  go_wp2
  go_loopw [8] (fun i wr => ∃ n : Nat, n ≤ 48 ∧ i = .int .i64 ((n : Int) + 16) ∧ RowIs wr gw 3 (ints (laid b n)) ∧ Below B w wr) (fun i _ => 64 - (intOf i).toNat)
  case atStart => exact ⟨0, by omega, rfl, h0, Below.refl _ _⟩
  case round =>
    clear h0
    obtain ⟨n, hn, rfl, hR, hbw⟩ := hrel
    have hln := laid_len b n hn
    by_cases hlt : n < 48
    · have c1 := hR.cell (n + 1)
      have c14 := hR.cell (n + 14)
      have c0 := hR.cell n
      have c9 := hR.cell (n + 9)
      have f16 := hR.frozen (n + 16)
      have c16 := hR.cell (n + 16)
      rw [ints_get _ _ (by omega), laid_get _ _ _ (by omega)] at c1 c14 c0 c9
      rw [ints_get _ _ (by omega)] at c16
      have hst : Hid _ := laid_step b n hlt
      have hs := sched_lt (firstWords b) (fun y hy => first_lt b hd y hy) n
      have hext : Hid _ := ext_at (firstWords b) n (firstWords_len b)
      have l0 := getD_lt32 _ hs n
      have l1 := getD_lt32 _ hs (n + 1)
      have l9 := getD_lt32 _ hs (n + 9)
      have l14 := getD_lt32 _ hs (n + 14)
      generalize ext (sched (firstWords b) n) = ex at hst hext
      generalize (sched (firstWords b) n).getD n 0 = x0 at c0 l0 hext
      generalize (sched (firstWords b) n).getD (n + 1) 0 = x1 at c1 l1 hext
      generalize (sched (firstWords b) n).getD (n + 9) 0 = x9 at c9 l9 hext
      generalize (sched (firstWords b) n).getD (n + 14) 0 = x14 at c14 l14 hext
      clear hs
      have r7 : ∀ w, Calls Tryz.prog 186 #[.int .i64 (x1 : Int), .int .i64 7] w fun e w' => e = .returned (.int .i64 (rotr x1 7 : Nat)) ∧ w = w' := fun w => turn_any x1 7 l1 (by decide) (by decide) w
      have r18 : ∀ w, Calls Tryz.prog 186 #[.int .i64 (x1 : Int), .int .i64 18] w fun e w' => e = .returned (.int .i64 (rotr x1 18 : Nat)) ∧ w = w' := fun w => turn_any x1 18 l1 (by decide) (by decide) w
      have r17 : ∀ w, Calls Tryz.prog 186 #[.int .i64 (x14 : Int), .int .i64 17] w fun e w' => e = .returned (.int .i64 (rotr x14 17 : Nat)) ∧ w = w' := fun w => turn_any x14 17 l14 (by decide) (by decide) w
      have r19 : ∀ w, Calls Tryz.prog 186 #[.int .i64 (x14 : Int), .int .i64 19] w fun e w' => e = .returned (.int .i64 (rotr x14 19 : Nat)) ∧ w = w' := fun w => turn_any x14 19 l14 (by decide) (by decide) w
      have e1 := i64_xor_nat (rotr x1 7) (rotr x1 18) (Nat.lt_trans (rotr_lt _ _) (by decide)) (Nat.lt_trans (rotr_lt _ _) (by decide))
      have e2 : bits .xor .i64 ((rotr x1 7 ^^^ rotr x1 18 : Nat) : Int) ((x1 : Int) / 8) = ((sig0 x1 : Nat) : Int) := i64_xor_nat (rotr x1 7 ^^^ rotr x1 18) (x1 / 8) (Nat.lt_trans (xor_lt _ _ (rotr_lt _ _) (rotr_lt _ _)) (by decide)) (by omega)
      have e3 := i64_xor_nat (rotr x14 17) (rotr x14 19) (Nat.lt_trans (rotr_lt _ _) (by decide)) (Nat.lt_trans (rotr_lt _ _) (by decide))
      have e4 : bits .xor .i64 ((rotr x14 17 ^^^ rotr x14 19 : Nat) : Int) ((x14 : Int) / 1024) = ((sig1 x14 : Nat) : Int) := i64_xor_nat (rotr x14 17 ^^^ rotr x14 19) (x14 / 1024) (Nat.lt_trans (xor_lt _ _ (rotr_lt _ _) (rotr_lt _ _)) (by decide)) (by omega)
      have g0 := sig0_lt x1 l1
      have g1 := sig1_lt x14 l14
      go_wp2_with (first | (go_at_call 186; refine (r7 _).mono ?_; rintro e w' ⟨rfl, rfl⟩; clear r7) | (go_at_call 186; refine (r18 _).mono ?_; rintro e w' ⟨rfl, rfl⟩; clear r18) | (go_at_call 186; refine (r17 _).mono ?_; rintro e w' ⟨rfl, rfl⟩; clear r17) | (go_at_call 186; refine (r19 _).mono ?_; rintro e w' ⟨rfl, rfl⟩; clear r19))
      clear c1 c14
      go_region
      clear e1 e2 e3 e4
      generalize sig0 x1 = s0 at g0 hext ⊢
      generalize sig1 x14 = s1 at g1 hext ⊢
      have hv : ((x0 : Int) + (x9 : Int) + (s0 : Int) + (s1 : Int)) % 4294967296 = (ex : Int) := by
        rw [hext.out]
        omega
      rw [hv]
      clear hv hext
      have hR2 := (hR.set (n + 16) (.int .i64 (ex : Int))).drew
      rw [ints_set, hst.out] at hR2
      have hb2 := (hbw.setCell (p := ⟨gw, n + 16, none⟩) hB (.int .i64 (ex : Int))).drew
      clear c0 c9 c16 f16 hR hbw
      go_wp2
      exact ⟨⟨n + 1, by omega, by go_num, hR2, hb2⟩, by simp [intOf]; omega⟩
    · have en : n = 48 := by omega
      subst en
      go_wp2
      exact hQ.out _ _ _ _ _ _ _ _ _ _ _ _ _ _ _ _ _ _ _ _ _ _ _ _ _ _ _ _ _ _ _ _ _ _ _ _ _ _ _ _ _ _ _ _ _ _ _ _ _ _ _ _ _ _ _ _ _ _ _ hR hbw
end Go.Proofs.YtdidjdoifpfmmaaGreatDoor
