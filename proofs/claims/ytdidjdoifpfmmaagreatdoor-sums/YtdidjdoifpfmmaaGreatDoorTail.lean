import Derived.Test.YtdidjdoifpfmmaaGreatDoorSpread
import Derived.Test.YtdidjdoifpfmmaaGreatDoorTimes
import Derived.BigRegion
namespace Go.Proofs.YtdidjdoifpfmmaaGreatDoor
open Go.RowKit Digits

/-- An end that is no panic: so that what is asked at a panic's exit looks at no slot. -/
def At (R : Act → World → Prop) : Exit → Act → World → Prop
  | .normal, a, w => R a w
  | _, _, _ => False
theorem seq_at {P : Program} {x y : Code} {Q : Exit → Act → World → Prop} {a : Act} {w : World} (h : x.wp P (At (fun a w => y.wp P Q a w)) a w) : (Code.seq x y).wp P Q a w :=
  wp_seq (wp_mono h fun e a w h => by
    cases e <;> first | exact h | exact h.elim)
theorem wp_at {P : Program} {x : Code} {Q : Exit → Act → World → Prop} {a : Act} {w : World} (h : x.wp P (At (fun a w => Q .normal a w)) a w) : x.wp P Q a w :=
  wp_mono h fun e a w h => by
    cases e <;> first | exact h | exact h.elim
def fstC : Code → Code
  | .seq a _ => a
  | c => c
def sndC : Code → Code
  | .seq _ b => b
  | c => c
def inC : Code → Code
  | .block _ c => c
  | .loop c => c
  | c => c
noncomputable def blockCode : Code := Tryz.f110.body.getD .skip
noncomputable def partFour : Code := sndC (sndC (sndC (sndC blockCode)))
noncomputable def loopThree : Code := inC (inC (sndC (fstC partFour)))
noncomputable def roundThree : Code := inC (fstC (sndC loopThree))
noncomputable def roundTail : Code := sndC (sndC (sndC (sndC (sndC (sndC (sndC (sndC (sndC (sndC roundThree)))))))))

/-- Eight words, those behind the place m moved up by one. -/
def shl (l : List Nat) (m : Nat) : List Nat := l.take (m + 1) ++ (l.drop m).take (7 - m)
theorem shl_len (l : List Nat) (m : Nat) (h : l.length = 8) (hm : m ≤ 7) : (shl l m).length = 8 := by simp [shl]; omega
theorem shl_step (a b c d e f g h m : Nat) (hm : m < 7) : (shl [a, b, c, d, e, f, g, h] (m + 1)).set (m + 1) ([a, b, c, d, e, f, g, h].getD m 0) = shl [a, b, c, d, e, f, g, h] m := by
  obtain rfl | rfl | rfl | rfl | rfl | rfl | rfl : m = 0 ∨ m = 1 ∨ m = 2 ∨ m = 3 ∨ m = 4 ∨ m = 5 ∨ m = 6 := by omega
  all_goals rfl
theorem shl_get (a b c d e f g h m : Nat) (hm : m < 7) : (shl [a, b, c, d, e, f, g, h] (m + 1)).getD m 0 = [a, b, c, d, e, f, g, h].getD m 0 := by
  obtain rfl | rfl | rfl | rfl | rfl | rfl | rfl : m = 0 ∨ m = 1 ∨ m = 2 ∨ m = 3 ∨ m = 4 ∨ m = 5 ∨ m = 6 := by omega
  all_goals rfl

set_option maxHeartbeats 4000000 in
set_option maxRecDepth 1000000 in
theorem tail_any {x0 x1 x2 x3 x4 x5 x6 x7 x8 x9 x10 x11 x12 x13 x14 x16 x17 x18 x19 x20 x21 x22 x23 x24 x27 x28 x29 x30 x31 x32 x33 x34 x35 x36 x37 x38 x39 x40 x41 x42 x43 x44 x45 x46 x47 x48 x49 x50 x51 x52 x53 x54 x55 x56 x57 x58 x59 x60 x61 x62 x63 x64 x65 x66 x67 x68 x69 x70 x71 x72 x73 x74 x75 x76 x77 x78 x79 x80 x81 x82 x83 x84 x85 x86 x87 x88 x89 x90 x91 x92 x93 x94 x95 x96 x97 x98 x99 x100 x101 x102 x103 x104 x105 x106 x107 x108 x109 x110 x111 x112 x113 x114 x115 x116 x117 x118 x119 x120 x121 x122 x123 x124 x125 x126 x127 x128 x129 x130 x131 x132 x133 x134 x135 x136 x137 x138 x139 x140 x141 x142 x143 x144 x145 x146 x147 x148 x149 x150 x151 x152 x153 x154 x155 x156 x157 x158 x159 x160 x161 x162 x163 x164 x165 x166 x167 x168 x169 x170 x171 x172 x173 x174 x175 x176 x177 x178 x179 x180 x181 x182 x183 x184 x185 x186 x187 x188 x189 x190 x191 x192 x193 x194 x195 x196 x197 x198 x199 x200 x201 x202 x203 x204 x205 x206 x207 x208 x209 x210 x211 x212 x213 x214 x215 x216 x217 x218 x219 x220 x221 x222 x223 x224 x225 x226 x227 x228 x229 x230 x231 x232 x233 x234 x235 x236 x237 x238 x239 x240 x241 x242 x243 x244 x245 x246 x247 x248 : Value} (gv cc va vb vc vd ve vf vg vh : Nat) (t u : Int) (z : List Value) (B : Nat) (w : World) (Q : Exit → Act → World → Prop)
    (hB : B ≤ gv) (ld : vd < 4294967296) (ht0 : 0 ≤ t) (ht1 : t ≤ 25769803776) (hu0 : 0 ≤ u) (hu1 : u ≤ 8589934592)
    (hS : RowIs w gv 3 (ints [va, vb, vc, vd, ve, vf, vg, vh] ++ z))
    (hQ : Hid (∀ (y27 y206 y207 y208 y209 y210 y211 y212 y213 y214 y215 y216 y217 y218 y219 y220 y221 y222 y223 y224 y225 y226 y227 y228 y229 y230 y231 : Value) (w' : World), RowIs w' gv 3 ([.int .i64 ((t + u) % 4294967296), I va, I vb, I vc, .int .i64 (((vd : Int) + t) % 4294967296), I ve, I vf, I vg] ++ z) → Below B w w' → Q .normal ⟨#[x0, x1, x2, x3, x4, x5, x6, x7, x8, x9, x10, x11, x12, x13, x14, .slice (some ⟨gv, 0, none⟩) 8 cc, x16, x17, x18, x19, x20, x21, x22, x23, x24, .int .i64 t, .int .i64 u, y27, x28, x29, x30, x31, x32, x33, x34, x35, x36, x37, x38, x39, x40, x41, x42, x43, x44, x45, x46, x47, x48, x49, x50, x51, x52, x53, x54, x55, x56, x57, x58, x59, x60, x61, x62, x63, x64, x65, x66, x67, x68, x69, x70, x71, x72, x73, x74, x75, x76, x77, x78, x79, x80, x81, x82, x83, x84, x85, x86, x87, x88, x89, x90, x91, x92, x93, x94, x95, x96, x97, x98, x99, x100, x101, x102, x103, x104, x105, x106, x107, x108, x109, x110, x111, x112, x113, x114, x115, x116, x117, x118, x119, x120, x121, x122, x123, x124, x125, x126, x127, x128, x129, x130, x131, x132, x133, x134, x135, x136, x137, x138, x139, x140, x141, x142, x143, x144, x145, x146, x147, x148, x149, x150, x151, x152, x153, x154, x155, x156, x157, x158, x159, x160, x161, x162, x163, x164, x165, x166, x167, x168, x169, x170, x171, x172, x173, x174, x175, x176, x177, x178, x179, x180, x181, x182, x183, x184, x185, x186, x187, x188, x189, x190, x191, x192, x193, x194, x195, x196, x197, x198, x199, x200, x201, x202, x203, x204, x205, y206, y207, y208, y209, y210, y211, y212, y213, y214, y215, y216, y217, y218, y219, y220, y221, y222, y223, y224, y225, y226, y227, y228, y229, y230, y231, x232, x233, x234, x235, x236, x237, x238, x239, x240, x241, x242, x243, x244, x245, x246, x247, x248], []⟩ w')) :
    Code.wp Tryz.prog roundTail Q ⟨#[x0, x1, x2, x3, x4, x5, x6, x7, x8, x9, x10, x11, x12, x13, x14, .slice (some ⟨gv, 0, none⟩) 8 cc, x16, x17, x18, x19, x20, x21, x22, x23, x24, .int .i64 t, .int .i64 u, x27, x28, x29, x30, x31, x32, x33, x34, x35, x36, x37, x38, x39, x40, x41, x42, x43, x44, x45, x46, x47, x48, x49, x50, x51, x52, x53, x54, x55, x56, x57, x58, x59, x60, x61, x62, x63, x64, x65, x66, x67, x68, x69, x70, x71, x72, x73, x74, x75, x76, x77, x78, x79, x80, x81, x82, x83, x84, x85, x86, x87, x88, x89, x90, x91, x92, x93, x94, x95, x96, x97, x98, x99, x100, x101, x102, x103, x104, x105, x106, x107, x108, x109, x110, x111, x112, x113, x114, x115, x116, x117, x118, x119, x120, x121, x122, x123, x124, x125, x126, x127, x128, x129, x130, x131, x132, x133, x134, x135, x136, x137, x138, x139, x140, x141, x142, x143, x144, x145, x146, x147, x148, x149, x150, x151, x152, x153, x154, x155, x156, x157, x158, x159, x160, x161, x162, x163, x164, x165, x166, x167, x168, x169, x170, x171, x172, x173, x174, x175, x176, x177, x178, x179, x180, x181, x182, x183, x184, x185, x186, x187, x188, x189, x190, x191, x192, x193, x194, x195, x196, x197, x198, x199, x200, x201, x202, x203, x204, x205, x206, x207, x208, x209, x210, x211, x212, x213, x214, x215, x216, x217, x218, x219, x220, x221, x222, x223, x224, x225, x226, x227, x228, x229, x230, x231, x232, x233, x234, x235, x236, x237, x238, x239, x240, x241, x242, x243, x244, x245, x246, x247, x248], []⟩ w := by
  conv => arg 2; whnf
  have hS7 : RowIs w gv 3 (ints (shl [va, vb, vc, vd, ve, vf, vg, vh] 7) ++ z) := hS
  clear hS
  go_wp2
  go_loopw [27] (fun kk wv => ∃ m : Nat, m ≤ 7 ∧ kk = .int .i64 m ∧ RowIs wv gv 3 (ints (shl [va, vb, vc, vd, ve, vf, vg, vh] m) ++ z) ∧ Below B w wv) (fun kk _ => (intOf kk).toNat)
  case atStart => exact ⟨7, by omega, rfl, hS7, Below.refl _ _⟩
  case round =>
    clear hS7
    obtain ⟨m, hm, rfl, hS, hb⟩ := hrel
    cases m with
    | zero =>
      have c4 : wr.cell? ⟨gv, 4, none⟩ = some (.int .i64 (vd : Int)) := hS.cell 4
      have c0 : wr.cell? ⟨gv, 0, none⟩ = some (.int .i64 (va : Int)) := hS.cell 0
      have f4 := hS.frozen 4
      have f0 := hS.frozen 0
      rw [show ((0 : Nat) : Int) = 0 from rfl]
      have hR := (hS.set 4 (.int .i64 (((vd : Int) + t) % 4294967296))).set 0 (.int .i64 ((t + u) % 4294967296))
      have hb2 := (hb.setCell (p := ⟨gv, 4, none⟩) hB (.int .i64 (((vd : Int) + t) % 4294967296))).setCell (p := ⟨gv, 0, none⟩) hB (.int .i64 ((t + u) % 4294967296))
      clear hS hb
      go_wp2
      exact hQ.out _ _ _ _ _ _ _ _ _ _ _ _ _ _ _ _ _ _ _ _ _ _ _ _ _ _ _ _ hR hb2
    | succ m =>
      have hcl : (shl [va, vb, vc, vd, ve, vf, vg, vh] (m + 1)).length = 8 := shl_len _ _ rfl hm
      have hst : Hid _ := shl_step va vb vc vd ve vf vg vh m (by omega)
      have d0 := hS.cell m
      have f1 := hS.frozen (m + 1)
      have d1 := hS.cell (m + 1)
      rw [List.getElem?_append_left (by rw [ints_length]; omega), ints_get _ _ (by omega)] at d0 d1
      rw [shl_get _ _ _ _ _ _ _ _ _ (by omega)] at d0
      generalize [va, vb, vc, vd, ve, vf, vg, vh].getD m 0 = y at d0 hst
      rw [show ((m + 1 : Nat) : Int) = (m : Int) + 1 by omega]
      have hR := hS.set (m + 1) (.int .i64 (y : Int))
      rw [List.set_append_left _ _ (by rw [ints_length]; omega), ints_set, hst.out] at hR
      have hb2 := hb.setCell (p := ⟨gv, m + 1, none⟩) hB (.int .i64 (y : Int))
      clear hS hb
      go_wp2
      exact ⟨⟨m, by omega, rfl, hR, hb2⟩, by simp [intOf]⟩
end Go.Proofs.YtdidjdoifpfmmaaGreatDoor
