import Derived.Test.YtdidjdoifpfmmaaGreatDoorBlockOne
import Derived.Test.YtdidjdoifpfmmaaGreatDoorMixed
namespace Go.Proofs.YtdidjdoifpfmmaaGreatDoor
open Go.RowKit Digits

noncomputable def partFive : Code := sndC partFour
set_option maxHeartbeats 4000000 in
set_option maxRecDepth 1000000 in
theorem five_any {x0 x2 x6 x7 x8 x9 x10 x11 x12 x13 x14 x16 x17 x18 x19 x20 x21 x22 x23 x24 x25 x26 x27 x29 x30 x31 x32 x33 x34 x35 x36 x37 x38 x39 x40 x41 x42 x43 x44 x45 x46 x47 x48 x49 x50 x51 x52 x53 x54 x55 x56 x57 x58 x59 x60 x61 x62 x63 x64 x65 x66 x67 x68 x69 x70 x71 x72 x73 x74 x75 x76 x77 x78 x79 x80 x81 x82 x83 x84 x85 x86 x87 x88 x89 x90 x91 x92 x93 x94 x95 x96 x97 x98 x99 x100 x101 x102 x103 x104 x105 x106 x107 x108 x109 x110 x111 x112 x113 x114 x115 x116 x117 x118 x119 x120 x121 x122 x123 x124 x125 x126 x127 x128 x129 x130 x131 x132 x133 x134 x135 x136 x137 x138 x139 x140 x141 x142 x143 x144 x145 x146 x147 x148 x149 x150 x151 x152 x153 x154 x155 x156 x157 x158 x159 x160 x161 x162 x163 x164 x165 x166 x167 x168 x169 x170 x171 x172 x173 x174 x175 x176 x177 x178 x179 x180 x181 x182 x183 x184 x185 x186 x187 x188 x189 x190 x191 x192 x193 x194 x195 x196 x197 x198 x199 x200 x201 x202 x203 x204 x205 x206 x207 x208 x209 x210 x211 x212 x213 x214 x215 x216 x217 x218 x219 x220 x221 x222 x223 x224 x225 x226 x227 x228 x229 x230 x231 : Value} (gs cs gv cc : Nat) (s t : St) (rest z : List Value) (w : World) (R : Act → World → Prop)
    (hne : gs ≠ gv) (ok : s.Ok) (ok2 : t.Ok) (hH : RowIs w gs 3 (ints s.list ++ rest)) (hV : RowIs w gv 3 (ints t.list ++ z))
    (hQ : Hid (∀ (y28 y232 y233 y234 y235 y236 y237 y238 y239 y240 y241 y242 y243 y244 y245 y246 y247 y248 : Value) (w' : World), RowIs w' gs 3 (ints (addW s.list t.list) ++ rest) → w.grownBy w' (some gs) → R ⟨#[x0, .slice (some ⟨gs, 0, none⟩) 8 cs, x2, undef, undef, undef, x6, x7, x8, x9, x10, x11, x12, x13, x14, .slice (some ⟨gv, 0, none⟩) 8 cc, x16, x17, x18, x19, x20, x21, x22, x23, x24, x25, x26, x27, y28, x29, x30, x31, x32, x33, x34, x35, x36, x37, x38, x39, x40, x41, x42, x43, x44, x45, x46, x47, x48, x49, x50, x51, x52, x53, x54, x55, x56, x57, x58, x59, x60, x61, x62, x63, x64, x65, x66, x67, x68, x69, x70, x71, x72, x73, x74, x75, x76, x77, x78, x79, x80, x81, x82, x83, x84, x85, x86, x87, x88, x89, x90, x91, x92, x93, x94, x95, x96, x97, x98, x99, x100, x101, x102, x103, x104, x105, x106, x107, x108, x109, x110, x111, x112, x113, x114, x115, x116, x117, x118, x119, x120, x121, x122, x123, x124, x125, x126, x127, x128, x129, x130, x131, x132, x133, x134, x135, x136, x137, x138, x139, x140, x141, x142, x143, x144, x145, x146, x147, x148, x149, x150, x151, x152, x153, x154, x155, x156, x157, x158, x159, x160, x161, x162, x163, x164, x165, x166, x167, x168, x169, x170, x171, x172, x173, x174, x175, x176, x177, x178, x179, x180, x181, x182, x183, x184, x185, x186, x187, x188, x189, x190, x191, x192, x193, x194, x195, x196, x197, x198, x199, x200, x201, x202, x203, x204, x205, x206, x207, x208, x209, x210, x211, x212, x213, x214, x215, x216, x217, x218, x219, x220, x221, x222, x223, x224, x225, x226, x227, x228, x229, x230, x231, y232, y233, y234, y235, y236, y237, y238, y239, y240, y241, y242, y243, y244, y245, y246, y247, y248], []⟩ w')) :
    Code.wp Tryz.prog partFive (At R) ⟨#[x0, .slice (some ⟨gs, 0, none⟩) 8 cs, x2, undef, undef, undef, x6, x7, x8, x9, x10, x11, x12, x13, x14, .slice (some ⟨gv, 0, none⟩) 8 cc, x16, x17, x18, x19, x20, x21, x22, x23, x24, x25, x26, x27, undef, x29, x30, x31, x32, x33, x34, x35, x36, x37, x38, x39, x40, x41, x42, x43, x44, x45, x46, x47, x48, x49, x50, x51, x52, x53, x54, x55, x56, x57, x58, x59, x60, x61, x62, x63, x64, x65, x66, x67, x68, x69, x70, x71, x72, x73, x74, x75, x76, x77, x78, x79, x80, x81, x82, x83, x84, x85, x86, x87, x88, x89, x90, x91, x92, x93, x94, x95, x96, x97, x98, x99, x100, x101, x102, x103, x104, x105, x106, x107, x108, x109, x110, x111, x112, x113, x114, x115, x116, x117, x118, x119, x120, x121, x122, x123, x124, x125, x126, x127, x128, x129, x130, x131, x132, x133, x134, x135, x136, x137, x138, x139, x140, x141, x142, x143, x144, x145, x146, x147, x148, x149, x150, x151, x152, x153, x154, x155, x156, x157, x158, x159, x160, x161, x162, x163, x164, x165, x166, x167, x168, x169, x170, x171, x172, x173, x174, x175, x176, x177, x178, x179, x180, x181, x182, x183, x184, x185, x186, x187, x188, x189, x190, x191, x192, x193, x194, x195, x196, x197, x198, x199, x200, x201, x202, x203, x204, x205, x206, x207, x208, x209, x210, x211, x212, x213, x214, x215, x216, x217, x218, x219, x220, x221, x222, x223, x224, x225, x226, x227, x228, x229, x230, x231, undef, undef, undef, undef, undef, undef, undef, undef, undef, undef, undef, undef, undef, undef, undef, undef, undef], []⟩ w := by
  conv => arg 2; whnf
  have hg0 : w.grownBy w (some gs) := ⟨rfl, rfl, rfl, Nat.le_refl _, fun _ _ _ => rfl⟩
  go_wp2
  go_loopw [28] (fun i wr => ∃ n : Nat, n ≤ 8 ∧ i = .int .i64 n ∧ RowIs wr gs 3 (ints (addTo s.list t.list n) ++ rest) ∧ w.grownBy wr (some gs)) (fun i _ => 8 - (intOf i).toNat)
  case atStart => exact ⟨0, by omega, rfl, hH, hg0⟩
  case round =>
    clear hH hg0
    obtain ⟨n, hn, rfl, hH, hg⟩ := hrel
    by_cases hlt : n < 8
    · have cv : wr.cell? ⟨gv, n, none⟩ = some (.int .i64 (t.list.getD n 0 : Nat)) := by
        rw [World.cell?_of_block (hg.block gv hV.lt (by simp; omega)), hV.cell n, List.getElem?_append_left (by rw [ints_length]; exact hlt), ints_get _ _ hlt]
      have ch := hH.cell n
      rw [List.getElem?_append_left (by rw [ints_length, addTo_len s t n hn]; exact hlt), ints_get _ _ (by rw [addTo_len s t n hn]; exact hlt), addTo_get s t n hlt] at ch
      have fh := hH.frozen n
      have hst : Hid _ := addTo_step s t n hlt
      have l1 := ok2.get n
      have l2 := ok.get n
      generalize t.list.getD n 0 = y at cv hst l1
      generalize s.list.getD n 0 = x at ch hst l2
      have hR3 := (hH.set n (.int .i64 (((x : Int) + (y : Int)) % 4294967296))).drew
      rw [List.set_append_left _ _ (by rw [ints_length, addTo_len s t n hn]; exact hlt), show (ints (addTo s.list t.list n)).set n (.int .i64 (((x : Int) + (y : Int)) % 4294967296)) = ints (addTo s.list t.list (n + 1)) by rw [show ((x : Int) + (y : Int)) % 4294967296 = (((x + y) % 4294967296 : Nat) : Int) by omega, ints_set, hst.out]] at hR3
      have hg3 : Hid (w.grownBy (wr.setCell ⟨gs, n, none⟩ (.int .i64 (((x : Int) + (y : Int)) % 4294967296))).drew (some gs)) := ⟨hg.os, hg.tape, hg.output, by
        have := hg.size
        simp [World.setCell]; exact this, fun k hk hk2 => by
        rw [← hg.block k hk hk2]
        exact Below.heap_setCell _ _ _ _ (fun e => hk2 (by simp [e]))⟩
      have HR : Hid _ := hR3
      clear hR3 hH hg hV
      go_wp2
      go_region
      clear cv ch fh
      go_wp2
      exact ⟨⟨n + 1, by omega, by go_num, HR.out, hg3.out⟩, by simp [intOf]; omega⟩
    · have en : n = 8 := by omega
      subst en
      go_wp2
      exact hQ.out _ _ _ _ _ _ _ _ _ _ _ _ _ _ _ _ _ _ _ hH hg
end Go.Proofs.YtdidjdoifpfmmaaGreatDoor
