import Derived.Test.YtdidjdoifpfmmaaGreatDoorBlockRound
namespace Go.Proofs.YtdidjdoifpfmmaaGreatDoor
open Go.RowKit Digits

noncomputable def partThree : Code := fstC partFour
set_option maxHeartbeats 4000000 in
set_option maxRecDepth 1000000 in
theorem three_any {x1 x2 x7 x8 x9 x10 x11 x12 x13 x14 x16 x17 x18 x19 x20 x21 x22 x23 x24 x25 x26 x27 x28 x29 x30 x31 x32 x33 x34 x35 x36 x37 x38 x39 x40 x41 x42 x43 x44 x45 x46 x47 x48 x49 x50 x51 x52 x53 x54 x55 x56 x57 x58 x59 x60 x61 x62 x63 x64 x65 x66 x67 x68 x69 x70 x71 x72 x73 x74 x75 x76 x77 x78 x79 x80 x81 x82 x83 x84 x85 x86 x87 x88 x89 x90 x91 x92 x93 x94 x95 x96 x97 x98 x99 x100 x101 x102 x103 x104 x105 x106 x107 x108 x109 x110 x111 x112 x113 x114 x115 x116 x117 x118 x119 x120 x121 x122 x123 x124 x125 x126 x127 x128 x129 x130 x131 x132 x133 x134 x135 x136 x137 x138 x139 x140 x141 x142 x143 x144 x145 x146 x147 x148 x149 x150 x151 x152 x153 x154 x155 x156 x157 x158 x159 x160 x161 x162 x163 x164 x165 x166 x167 x168 x169 x170 x171 x172 x173 x174 x175 x176 x177 x178 x179 x180 x181 x182 x183 x184 x185 x186 x187 x188 x189 x190 x191 x192 x193 x194 x195 x196 x197 x198 x199 x200 x201 x202 x203 x204 x205 x206 x207 x208 x209 x210 x211 x212 x213 x214 x215 x216 x217 x218 x219 x220 x221 x222 x223 x224 x225 x226 x227 x228 x229 x230 x231 x232 x233 x234 x235 x236 x237 x238 x239 x240 x241 x242 x243 x244 x245 x246 x247 x248 : Value} (pm gk ck gw gv cc : Nat) (K L : List Nat) (s : St) (z : List Value) (B : Nat) (w : World) (Q : Exit → Act → World → Prop)
    (hB : B ≤ gv) (hpm : pm < B) (hgk : gk < B) (hgw : gw < B) (mk0 : w.cell? ⟨pm, 0, none⟩ = some (.slice (some ⟨gk, 0, none⟩) 64 ck)) (ks : ∀ j, j < 64 → w.cell? ⟨gk, j, none⟩ = some (.int .i64 (K.getD j 0 : Nat))) (hK : ∀ x ∈ K, x < 4294967296) (hL : L.length = 64) (lL : ∀ x ∈ L, x < 4294967296) (hR : RowIs w gw 3 (ints L)) (hV0 : RowIs w gv 3 (ints s.list ++ z)) (ok : s.Ok)
    (hQ : Hid (∀ (y16 y17 y18 y19 y20 y21 y22 y23 y24 y25 y26 y27 y124 y125 y126 y127 y128 y129 y130 y131 y132 y133 y134 y135 y136 y137 y138 y139 y140 y141 y142 y143 y144 y145 y146 y147 y148 y149 y150 y151 y152 y153 y154 y155 y156 y157 y158 y159 y160 y161 y162 y163 y164 y165 y166 y167 y168 y169 y170 y171 y172 y173 y174 y175 y176 y177 y178 y179 y180 y181 y182 y183 y184 y185 y186 y187 y188 y189 y190 y191 y192 y193 y194 y195 y196 y197 y198 y199 y200 y201 y202 y203 y204 y205 y206 y207 y208 y209 y210 y211 y212 y213 y214 y215 y216 y217 y218 y219 y220 y221 y222 y223 y224 y225 y226 y227 y228 y229 y230 y231 : Value) (w' : World), RowIs w' gv 3 (ints (St.run K L s 64).list ++ z) → Below B w w' → Q .normal ⟨#[.pointer (some ⟨pm, 0, none⟩), x1, x2, undef, undef, undef, .slice (some ⟨gw, 0, none⟩) 64 64, x7, x8, x9, x10, x11, x12, x13, x14, .slice (some ⟨gv, 0, none⟩) 8 cc, y16, y17, y18, y19, y20, y21, y22, y23, y24, y25, y26, y27, x28, x29, x30, x31, x32, x33, x34, x35, x36, x37, x38, x39, x40, x41, x42, x43, x44, x45, x46, x47, x48, x49, x50, x51, x52, x53, x54, x55, x56, x57, x58, x59, x60, x61, x62, x63, x64, x65, x66, x67, x68, x69, x70, x71, x72, x73, x74, x75, x76, x77, x78, x79, x80, x81, x82, x83, x84, x85, x86, x87, x88, x89, x90, x91, x92, x93, x94, x95, x96, x97, x98, x99, x100, x101, x102, x103, x104, x105, x106, x107, x108, x109, x110, x111, x112, x113, x114, x115, x116, x117, x118, x119, x120, x121, x122, x123, y124, y125, y126, y127, y128, y129, y130, y131, y132, y133, y134, y135, y136, y137, y138, y139, y140, y141, y142, y143, y144, y145, y146, y147, y148, y149, y150, y151, y152, y153, y154, y155, y156, y157, y158, y159, y160, y161, y162, y163, y164, y165, y166, y167, y168, y169, y170, y171, y172, y173, y174, y175, y176, y177, y178, y179, y180, y181, y182, y183, y184, y185, y186, y187, y188, y189, y190, y191, y192, y193, y194, y195, y196, y197, y198, y199, y200, y201, y202, y203, y204, y205, y206, y207, y208, y209, y210, y211, y212, y213, y214, y215, y216, y217, y218, y219, y220, y221, y222, y223, y224, y225, y226, y227, y228, y229, y230, y231, x232, x233, x234, x235, x236, x237, x238, x239, x240, x241, x242, x243, x244, x245, x246, x247, x248], []⟩ w')) :
    Code.wp Tryz.prog partThree Q ⟨#[.pointer (some ⟨pm, 0, none⟩), x1, x2, undef, undef, undef, .slice (some ⟨gw, 0, none⟩) 64 64, x7, x8, x9, x10, x11, x12, x13, x14, .slice (some ⟨gv, 0, none⟩) 8 cc, x16, x17, x18, x19, x20, x21, x22, x23, x24, x25, x26, x27, x28, x29, x30, x31, x32, x33, x34, x35, x36, x37, x38, x39, x40, x41, x42, x43, x44, x45, x46, x47, x48, x49, x50, x51, x52, x53, x54, x55, x56, x57, x58, x59, x60, x61, x62, x63, x64, x65, x66, x67, x68, x69, x70, x71, x72, x73, x74, x75, x76, x77, x78, x79, x80, x81, x82, x83, x84, x85, x86, x87, x88, x89, x90, x91, x92, x93, x94, x95, x96, x97, x98, x99, x100, x101, x102, x103, x104, x105, x106, x107, x108, x109, x110, x111, x112, x113, x114, x115, x116, x117, x118, x119, x120, x121, x122, x123, x124, x125, x126, x127, x128, x129, x130, x131, x132, x133, x134, x135, x136, x137, x138, x139, x140, x141, x142, x143, x144, x145, x146, x147, x148, x149, x150, x151, x152, x153, x154, x155, x156, x157, x158, x159, x160, x161, x162, x163, x164, x165, x166, x167, x168, x169, x170, x171, x172, x173, x174, x175, x176, x177, x178, x179, x180, x181, x182, x183, x184, x185, x186, x187, x188, x189, x190, x191, x192, x193, x194, x195, x196, x197, x198, x199, x200, x201, x202, x203, x204, x205, x206, x207, x208, x209, x210, x211, x212, x213, x214, x215, x216, x217, x218, x219, x220, x221, x222, x223, x224, x225, x226, x227, x228, x229, x230, x231, x232, x233, x234, x235, x236, x237, x238, x239, x240, x241, x242, x243, x244, x245, x246, x247, x248], []⟩ w := by
  conv => arg 2; whnf
  have KS : Hid _ := ks
  clear ks
  refine seq_at ?_
  go_wp2
  show Code.wp _ _ _ _ _
  refine wp_block ?_
  go_loopw [16] (fun i wv => ∃ n : Nat, n ≤ 64 ∧ i = .int .i64 n ∧ RowIs wv gv 3 (ints (St.run K L s n).list ++ z) ∧ Below B w wv) (fun i _ => 64 - (intOf i).toNat)
  case atStart => exact ⟨0, by omega, rfl, hV0, Below.refl _ _⟩
  case round =>
    clear hV0
    obtain ⟨n, hn, rfl, hV, hbV⟩ := hrel
    refine wp_seq_k ?_
    intro KK hKK
    have HK : Hid _ := hKK
    clear hKK
    by_cases hlt : n < 64
    · go_wp2
      refine HK.out _ _ ?_
      refine wp_seq_k ?_
      intro K2 hK2
      have HK2 : Hid _ := hK2
      clear hK2 HK
      refine wp_block ?_
      have hO := ok.run K L n
      have hw := (hR.below hbV hgw).cell n
      rw [ints_get _ _ (by omega)] at hw
      have lw := getD_lt32 _ lL n
      have lk := getD_lt32 _ hK n
      have mk := (hbV.cell (p := ⟨pm, 0, none⟩) hpm).trans mk0
      have kn := (hbV.cell (p := ⟨gk, n, none⟩) hgk).trans (KS.out n hlt)
      have hrun : Hid (St.run K L s (n + 1) = (St.run K L s n).round (K.getD n 0) (L.getD n 0)) := rfl
      generalize St.run K L s n = v at hV hO hrun
      obtain ⟨va, vb, vc, vd, ve, vf, vg, vh⟩ := v
      obtain ⟨la, lb, lc, ld, le, lf, lg, lh⟩ := hO
      refine round_three pm gk ck gw gv cc n (K.getD n 0) (L.getD n 0) va vb vc vd ve vf vg vh z B _ _ hB hlt la lb lc ld le lf lg lh lk lw mk kn hw hV ?_
      refine fun y17 y18 y19 y20 y21 y22 y23 y24 y25 y26 y27 y128 y129 y130 y131 y132 y133 y134 y135 y136 y137 y138 y139 y140 y141 y142 y143 y144 y145 y146 y147 y148 y149 y150 y151 y152 y153 y154 y155 y156 y157 y158 y159 y160 y161 y162 y163 y164 y165 y166 y167 y168 y169 y170 y171 y172 y173 y174 y175 y176 y177 y178 y179 y180 y181 y182 y183 y184 y185 y186 y187 y188 y189 y190 y191 y192 y193 y194 y195 y196 y197 y198 y199 y200 y201 y202 y203 y204 y205 y206 y207 y208 y209 y210 y211 y212 y213 y214 y215 y216 y217 y218 y219 y220 y221 y222 y223 y224 y225 y226 y227 y228 y229 y230 y231 w' hR' hb' => ?_
      have hN : Hid (RowIs w' gv 3 (ints (St.run K L s (n + 1)).list ++ z)) := by
        show RowIs _ _ _ _
        rw [hrun.out]
        exact hR'
      clear hR' hrun hR mk0 KS mk kn hw
      refine HK2.out _ _ ?_
      clear HK2
      go_wp2
      exact ⟨⟨n + 1, by omega, by go_num, hN.out, hbV.trans hb'⟩, by simp [intOf]; omega⟩
    · have en : n = 64 := by omega
      subst en
      clear HK
      go_wp2
      exact hQ.out _ _ _ _ _ _ _ _ _ _ _ _ _ _ _ _ _ _ _ _ _ _ _ _ _ _ _ _ _ _ _ _ _ _ _ _ _ _ _ _ _ _ _ _ _ _ _ _ _ _ _ _ _ _ _ _ _ _ _ _ _ _ _ _ _ _ _ _ _ _ _ _ _ _ _ _ _ _ _ _ _ _ _ _ _ _ _ _ _ _ _ _ _ _ _ _ _ _ _ _ _ _ _ _ _ _ _ _ _ _ _ _ _ _ _ _ _ _ _ _ _ hV hbV
end Go.Proofs.YtdidjdoifpfmmaaGreatDoor
