import Derived.Test.YtdidjdoifpfmmaaGreatDoorBlockOne
namespace Go.Proofs.YtdidjdoifpfmmaaGreatDoor
open Go.RowKit Digits

set_option maxHeartbeats 4000000 in
set_option maxRecDepth 1000000 in
theorem round_three {x1 x2 x7 x8 x9 x10 x11 x12 x13 x14 x17 x18 x19 x20 x21 x22 x23 x24 x25 x26 x27 x28 x29 x30 x31 x32 x33 x34 x35 x36 x37 x38 x39 x40 x41 x42 x43 x44 x45 x46 x47 x48 x49 x50 x51 x52 x53 x54 x55 x56 x57 x58 x59 x60 x61 x62 x63 x64 x65 x66 x67 x68 x69 x70 x71 x72 x73 x74 x75 x76 x77 x78 x79 x80 x81 x82 x83 x84 x85 x86 x87 x88 x89 x90 x91 x92 x93 x94 x95 x96 x97 x98 x99 x100 x101 x102 x103 x104 x105 x106 x107 x108 x109 x110 x111 x112 x113 x114 x115 x116 x117 x118 x119 x120 x121 x122 x123 x124 x125 x126 x127 x128 x129 x130 x131 x132 x133 x134 x135 x136 x137 x138 x139 x140 x141 x142 x143 x144 x145 x146 x147 x148 x149 x150 x151 x152 x153 x154 x155 x156 x157 x158 x159 x160 x161 x162 x163 x164 x165 x166 x167 x168 x169 x170 x171 x172 x173 x174 x175 x176 x177 x178 x179 x180 x181 x182 x183 x184 x185 x186 x187 x188 x189 x190 x191 x192 x193 x194 x195 x196 x197 x198 x199 x200 x201 x202 x203 x204 x205 x206 x207 x208 x209 x210 x211 x212 x213 x214 x215 x216 x217 x218 x219 x220 x221 x222 x223 x224 x225 x226 x227 x228 x229 x230 x231 x232 x233 x234 x235 x236 x237 x238 x239 x240 x241 x242 x243 x244 x245 x246 x247 x248 : Value} (pm gk ck gw gv cc n k wn va vb vc vd ve vf vg vh : Nat) (z : List Value) (B : Nat) (w : World) (Q : Exit → Act → World → Prop)
    (hB : B ≤ gv) (hlt : n < 64) (la : va < 4294967296) (lb : vb < 4294967296) (lc : vc < 4294967296) (ld : vd < 4294967296) (le : ve < 4294967296) (lf : vf < 4294967296) (lg : vg < 4294967296) (lh : vh < 4294967296) (lk : k < 4294967296) (lw : wn < 4294967296) (mk : w.cell? ⟨pm, 0, none⟩ = some (.slice (some ⟨gk, 0, none⟩) 64 ck)) (kn : w.cell? ⟨gk, n, none⟩ = some (.int .i64 (k : Int))) (hw : w.cell? ⟨gw, n, none⟩ = some (.int .i64 (wn : Int))) (hV : RowIs w gv 3 (ints [va, vb, vc, vd, ve, vf, vg, vh] ++ z))
    (hQ : Hid (∀ (y17 y18 y19 y20 y21 y22 y23 y24 y25 y26 y27 y128 y129 y130 y131 y132 y133 y134 y135 y136 y137 y138 y139 y140 y141 y142 y143 y144 y145 y146 y147 y148 y149 y150 y151 y152 y153 y154 y155 y156 y157 y158 y159 y160 y161 y162 y163 y164 y165 y166 y167 y168 y169 y170 y171 y172 y173 y174 y175 y176 y177 y178 y179 y180 y181 y182 y183 y184 y185 y186 y187 y188 y189 y190 y191 y192 y193 y194 y195 y196 y197 y198 y199 y200 y201 y202 y203 y204 y205 y206 y207 y208 y209 y210 y211 y212 y213 y214 y215 y216 y217 y218 y219 y220 y221 y222 y223 y224 y225 y226 y227 y228 y229 y230 y231 : Value) (w' : World), RowIs w' gv 3 (ints ((⟨va, vb, vc, vd, ve, vf, vg, vh⟩ : St).round k wn).list ++ z) → Below B w w' → Q .normal ⟨#[.pointer (some ⟨pm, 0, none⟩), x1, x2, undef, undef, undef, .slice (some ⟨gw, 0, none⟩) 64 64, x7, x8, x9, x10, x11, x12, x13, x14, .slice (some ⟨gv, 0, none⟩) 8 cc, .int .i64 (n : Int), y17, y18, y19, y20, y21, y22, y23, y24, y25, y26, y27, x28, x29, x30, x31, x32, x33, x34, x35, x36, x37, x38, x39, x40, x41, x42, x43, x44, x45, x46, x47, x48, x49, x50, x51, x52, x53, x54, x55, x56, x57, x58, x59, x60, x61, x62, x63, x64, x65, x66, x67, x68, x69, x70, x71, x72, x73, x74, x75, x76, x77, x78, x79, x80, x81, x82, x83, x84, x85, x86, x87, x88, x89, x90, x91, x92, x93, x94, x95, x96, x97, x98, x99, x100, x101, x102, x103, x104, x105, x106, x107, x108, x109, x110, x111, x112, x113, x114, x115, x116, x117, x118, x119, x120, x121, x122, x123, x124, x125, x126, x127, y128, y129, y130, y131, y132, y133, y134, y135, y136, y137, y138, y139, y140, y141, y142, y143, y144, y145, y146, y147, y148, y149, y150, y151, y152, y153, y154, y155, y156, y157, y158, y159, y160, y161, y162, y163, y164, y165, y166, y167, y168, y169, y170, y171, y172, y173, y174, y175, y176, y177, y178, y179, y180, y181, y182, y183, y184, y185, y186, y187, y188, y189, y190, y191, y192, y193, y194, y195, y196, y197, y198, y199, y200, y201, y202, y203, y204, y205, y206, y207, y208, y209, y210, y211, y212, y213, y214, y215, y216, y217, y218, y219, y220, y221, y222, y223, y224, y225, y226, y227, y228, y229, y230, y231, x232, x233, x234, x235, x236, x237, x238, x239, x240, x241, x242, x243, x244, x245, x246, x247, x248], []⟩ w')) :
    Code.wp Tryz.prog roundThree Q ⟨#[.pointer (some ⟨pm, 0, none⟩), x1, x2, undef, undef, undef, .slice (some ⟨gw, 0, none⟩) 64 64, x7, x8, x9, x10, x11, x12, x13, x14, .slice (some ⟨gv, 0, none⟩) 8 cc, .int .i64 (n : Int), x17, x18, x19, x20, x21, x22, x23, x24, x25, x26, x27, x28, x29, x30, x31, x32, x33, x34, x35, x36, x37, x38, x39, x40, x41, x42, x43, x44, x45, x46, x47, x48, x49, x50, x51, x52, x53, x54, x55, x56, x57, x58, x59, x60, x61, x62, x63, x64, x65, x66, x67, x68, x69, x70, x71, x72, x73, x74, x75, x76, x77, x78, x79, x80, x81, x82, x83, x84, x85, x86, x87, x88, x89, x90, x91, x92, x93, x94, x95, x96, x97, x98, x99, x100, x101, x102, x103, x104, x105, x106, x107, x108, x109, x110, x111, x112, x113, x114, x115, x116, x117, x118, x119, x120, x121, x122, x123, x124, x125, x126, x127, x128, x129, x130, x131, x132, x133, x134, x135, x136, x137, x138, x139, x140, x141, x142, x143, x144, x145, x146, x147, x148, x149, x150, x151, x152, x153, x154, x155, x156, x157, x158, x159, x160, x161, x162, x163, x164, x165, x166, x167, x168, x169, x170, x171, x172, x173, x174, x175, x176, x177, x178, x179, x180, x181, x182, x183, x184, x185, x186, x187, x188, x189, x190, x191, x192, x193, x194, x195, x196, x197, x198, x199, x200, x201, x202, x203, x204, x205, x206, x207, x208, x209, x210, x211, x212, x213, x214, x215, x216, x217, x218, x219, x220, x221, x222, x223, x224, x225, x226, x227, x228, x229, x230, x231, x232, x233, x234, x235, x236, x237, x238, x239, x240, x241, x242, x243, x244, x245, x246, x247, x248], []⟩ w := by
  conv => arg 2; whnf
  have HQ : Hid _ := hQ
  clear hQ
  have c0 : _ = some (Value.int .i64 (va : Int)) := hV.cell 0
  have c1 : _ = some (Value.int .i64 (vb : Int)) := hV.cell 1
  have c2 : _ = some (Value.int .i64 (vc : Int)) := hV.cell 2
  have c3 : _ = some (Value.int .i64 (vd : Int)) := hV.cell 3
  have c4 : _ = some (Value.int .i64 (ve : Int)) := hV.cell 4
  have c5 : _ = some (Value.int .i64 (vf : Int)) := hV.cell 5
  have c6 : _ = some (Value.int .i64 (vg : Int)) := hV.cell 6
  have c7 : _ = some (Value.int .i64 (vh : Int)) := hV.cell 7
  have r6 : ∀ w, Calls Tryz.prog 186 #[.int .i64 (ve : Int), .int .i64 6] w fun e w' => e = .returned (.int .i64 (rotr ve 6 : Nat)) ∧ w = w' := fun w => turn_any ve 6 le (by decide) (by decide) w
  have r11 : ∀ w, Calls Tryz.prog 186 #[.int .i64 (ve : Int), .int .i64 11] w fun e w' => e = .returned (.int .i64 (rotr ve 11 : Nat)) ∧ w = w' := fun w => turn_any ve 11 le (by decide) (by decide) w
  have r25 : ∀ w, Calls Tryz.prog 186 #[.int .i64 (ve : Int), .int .i64 25] w fun e w' => e = .returned (.int .i64 (rotr ve 25 : Nat)) ∧ w = w' := fun w => turn_any ve 25 le (by decide) (by decide) w
  have r2 : ∀ w, Calls Tryz.prog 186 #[.int .i64 (va : Int), .int .i64 2] w fun e w' => e = .returned (.int .i64 (rotr va 2 : Nat)) ∧ w = w' := fun w => turn_any va 2 la (by decide) (by decide) w
  have r13 : ∀ w, Calls Tryz.prog 186 #[.int .i64 (va : Int), .int .i64 13] w fun e w' => e = .returned (.int .i64 (rotr va 13 : Nat)) ∧ w = w' := fun w => turn_any va 13 la (by decide) (by decide) w
  have r22 : ∀ w, Calls Tryz.prog 186 #[.int .i64 (va : Int), .int .i64 22] w fun e w' => e = .returned (.int .i64 (rotr va 22 : Nat)) ∧ w = w' := fun w => turn_any va 22 la (by decide) (by decide) w
  refine seq_at ?_
  go_wp2
  show Code.wp _ _ _ _ _
  refine seq_at ?_
  go_wp2
  show Code.wp _ _ _ _ _
  refine seq_at ?_
  go_wp2_with (go_at_call 186; refine (r6 _).mono ?_; rintro e w' ⟨rfl, rfl⟩)
  show Code.wp _ _ _ _ _
  refine seq_at ?_
  go_wp2_with (go_at_call 186; refine (r11 _).mono ?_; rintro e w' ⟨rfl, rfl⟩)
  show Code.wp _ _ _ _ _
  refine seq_at ?_
  go_wp2_with (go_at_call 186; refine (r25 _).mono ?_; rintro e w' ⟨rfl, rfl⟩)
  show Code.wp _ _ _ _ _
  refine seq_at ?_
  go_wp2_with (go_at_call 186; refine (r2 _).mono ?_; rintro e w' ⟨rfl, rfl⟩)
  show Code.wp _ _ _ _ _
  refine seq_at ?_
  go_wp2_with (go_at_call 186; refine (r13 _).mono ?_; rintro e w' ⟨rfl, rfl⟩)
  show Code.wp _ _ _ _ _
  refine seq_at ?_
  go_wp2_with (go_at_call 186; refine (r22 _).mono ?_; rintro e w' ⟨rfl, rfl⟩)
  clear r6 r11 r25 r2 r13 r22
  show Code.wp _ _ _ _ _
  have E1 := i64_xor_nat (rotr ve 6) (rotr ve 11) (Nat.lt_trans (rotr_lt _ _) (by decide)) (Nat.lt_trans (rotr_lt _ _) (by decide))
  have E2 : bits .xor .i64 ((rotr ve 6 ^^^ rotr ve 11 : Nat) : Int) (rotr ve 25 : Nat) = ((big1 ve : Nat) : Int) := i64_xor_nat _ _ (Nat.lt_trans (xor_lt _ _ (rotr_lt _ _) (rotr_lt _ _)) (by decide)) (Nat.lt_trans (rotr_lt _ _) (by decide))
  have E3 := i64_xor_nat (rotr va 2) (rotr va 13) (Nat.lt_trans (rotr_lt _ _) (by decide)) (Nat.lt_trans (rotr_lt _ _) (by decide))
  have E4 : bits .xor .i64 ((rotr va 2 ^^^ rotr va 13 : Nat) : Int) (rotr va 22 : Nat) = ((big0 va : Nat) : Int) := i64_xor_nat _ _ (Nat.lt_trans (xor_lt _ _ (rotr_lt _ _) (rotr_lt _ _)) (by decide)) (Nat.lt_trans (rotr_lt _ _) (by decide))
  have N1 := i64_and_nat ve vf (by omega) (by omega)
  have N2 : bits .and .i64 (4294967295 - (ve : Int)) (vg : Int) = (((4294967295 - ve) &&& vg : Nat) : Int) := by
    rw [← i64_and_nat (4294967295 - ve) vg (by omega) (by omega), show ((4294967295 - ve : Nat) : Int) = 4294967295 - (ve : Int) by omega]
  have X1 : bits .xor .i64 ((ve &&& vf : Nat) : Int) (((4294967295 - ve) &&& vg : Nat) : Int) = ((choice ve vf vg : Nat) : Int) := i64_xor_nat _ _ (Nat.lt_trans (and_lt _ _ lf) (by decide)) (Nat.lt_trans (and_lt _ _ lg) (by decide))
  have M1 := i64_and_nat va vb (by omega) (by omega)
  have M2 := i64_and_nat va vc (by omega) (by omega)
  have M3 := i64_and_nat vb vc (by omega) (by omega)
  have Y1 := i64_xor_nat (va &&& vb) (va &&& vc) (Nat.lt_trans (and_lt _ _ lb) (by decide)) (Nat.lt_trans (and_lt _ _ lc) (by decide))
  have Y2 : bits .xor .i64 (((va &&& vb) ^^^ (va &&& vc) : Nat) : Int) ((vb &&& vc : Nat) : Int) = ((majority va vb vc : Nat) : Int) := i64_xor_nat _ _ (Nat.lt_trans (xor_lt _ _ (and_lt _ _ lb) (and_lt _ _ lc)) (by decide)) (Nat.lt_trans (and_lt _ _ lc) (by decide))
  have b1 := big1_lt ve
  have b0 := big0_lt va
  have bc := choice_lt ve vf vg lf lg
  have bm := majority_lt va vb vc lb lc
  refine seq_at ?_
  go_wp2
  go_region
  show Code.wp _ _ _ _ _
  refine seq_at ?_
  go_wp2
  go_region
  show Code.wp _ _ _ _ _
  clear E1 E2 E3 E4 N1 N2 X1 M1 M2 M3 Y1 Y2 c0 c1 c2 c3 c4 c5 c6 c7 mk hw kn
  have hT : Hid ((⟨va, vb, vc, vd, ve, vf, vg, vh⟩ : St).round k wn = ⟨(vh + big1 ve + choice ve vf vg + k + wn + (big0 va + majority va vb vc)) % 4294967296, va, vb, vc, (vd + (vh + big1 ve + choice ve vf vg + k + wn)) % 4294967296, ve, vf, vg⟩) := rfl
  generalize (⟨va, vb, vc, vd, ve, vf, vg, vh⟩ : St).round k wn = S2 at hT HQ
  generalize big1 ve = B1 at b1 hT ⊢
  generalize big0 va = B0 at b0 hT ⊢
  generalize choice ve vf vg = C1 at bc hT ⊢
  generalize majority va vb vc = C2 at bm hT ⊢
  have hS : RowIs w.drew.drew gv 3 (ints [va, vb, vc, vd, ve, vf, vg, vh] ++ z) := hV.drew.drew
  clear hV
  refine tail_any gv cc va vb vc vd ve vf vg vh _ _ z B _ _ hB ld (by omega) (by omega) (by omega) (by omega) hS ?_
  refine fun y27 y206 y207 y208 y209 y210 y211 y212 y213 y214 y215 y216 y217 y218 y219 y220 y221 y222 y223 y224 y225 y226 y227 y228 y229 y230 y231 w' hR' hb' => ?_
  refine HQ.out _ _ _ _ _ _ _ _ _ _ _ _ _ _ _ _ _ _ _ _ _ _ _ _ _ _ _ _ _ _ _ _ _ _ _ _ _ _ _ _ _ _ _ _ _ _ _ _ _ _ _ _ _ _ _ _ _ _ _ _ _ _ _ _ _ _ _ _ _ _ _ _ _ _ _ _ _ _ _ _ _ _ _ _ _ _ _ _ _ _ _ _ _ _ _ _ _ _ _ _ _ _ _ _ _ _ _ _ _ _ _ _ _ _ _ _ ?_ (((Below.refl _ _).drew.drew).trans hb')
  have e0 : ((vh : Int) + (B1 : Int) + (C1 : Int) + (k : Int) + (wn : Int) + ((B0 : Int) + (C2 : Int))) % 4294967296 = (((vh + B1 + C1 + k + wn + (B0 + C2)) % 4294967296 : Nat) : Int) := by omega
  have e4 : ((vd : Int) + ((vh : Int) + (B1 : Int) + (C1 : Int) + (k : Int) + (wn : Int))) % 4294967296 = (((vd + (vh + B1 + C1 + k + wn)) % 4294967296 : Nat) : Int) := by omega
  rw [e0, e4] at hR'
  rw [hT.out]
  exact hR'
end Go.Proofs.YtdidjdoifpfmmaaGreatDoor
