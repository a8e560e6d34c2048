import Derived.Test.YtdidjdoifpfmmaaGreatDoorTail
import Derived.Test.YtdidjdoifpfmmaaGreatDoorMaker
namespace Go.Proofs.YtdidjdoifpfmmaaGreatDoor
open Go.RowKit Digits

noncomputable def partOne : Code := fstC (sndC blockCode)
noncomputable def partTwo : Code := fstC (sndC (sndC blockCode))

/-- The word that four bytes say. -/
theorem pw_four (b : List Nat) (j : Nat) (hb : b.length = 64) (hj : j < 16) : pw b 64 j = b.getD (4 * j) 0 * 16777216 + b.getD (4 * j + 1) 0 * 65536 + b.getD (4 * j + 2) 0 * 256 + b.getD (4 * j + 3) 0 := by
  unfold pw
  rw [List.take_of_length_le (l := b) (by omega)]
  have h : (b.drop (4 * j)).take 4 = [b.getD (4 * j) 0, b.getD (4 * j + 1) 0, b.getD (4 * j + 2) 0, b.getD (4 * j + 3) 0] := by
    rw [List.drop_eq_getElem_cons (by omega), List.take_succ_cons, List.drop_eq_getElem_cons (by omega), List.take_succ_cons, List.drop_eq_getElem_cons (by omega), List.take_succ_cons, List.drop_eq_getElem_cons (by omega), List.take_succ_cons, List.take_zero]
    simp [List.getD_eq_getElem?_getD, show 4 * j < b.length by omega, show 4 * j + 1 < b.length by omega, show 4 * j + 2 < b.length by omega, show 4 * j + 3 < b.length by omega]
  rw [h]
  simp only [List.foldl_cons, List.foldl_nil]
  omega

/-- The words that are laid, and zeros. -/
def wl (b : List Nat) (n : Nat) : List Nat := (firstWords b).take n ++ List.replicate (64 - n) 0
theorem wl_len (b : List Nat) (n : Nat) (h : n ≤ 16) : (wl b n).length = 64 := by simp [wl, firstWords_len]; omega
theorem wl_step (b : List Nat) (n : Nat) (h : n < 16) : (wl b n).set n (pw b 64 n) = wl b (n + 1) := by
  have hl : ((firstWords b).take n).length = n := by simp [firstWords_len]; omega
  have hg : (firstWords b).take (n + 1) = (firstWords b).take n ++ [pw b 64 n] := by
    rw [List.take_succ_eq_append_getElem (by rw [firstWords_len]; exact h)]
    simp [firstWords]
  unfold wl
  rw [List.set_append_right _ _ (by omega), hl, Nat.sub_self, show 64 - n = (64 - (n + 1)) + 1 by omega, List.replicate_succ, List.set_cons_zero, hg]
  simp
theorem wl_end (b : List Nat) : wl b 16 = laid b 0 := by
  unfold wl laid sched
  rw [List.take_of_length_le (by rw [firstWords_len]; exact Nat.le_refl _)]
theorem wl_zero (b : List Nat) : wl b 0 = List.replicate 64 0 := by simp [wl]

/-- A slice's bytes. -/
def BytesAt (w : World) (g off : Nat) (b : List Nat) : Prop := ∀ j, j < b.length → w.cell? ⟨g, off + j, none⟩ = some (.int .u8 (b.getD j 0 : Nat))

set_option maxHeartbeats 4000000 in
set_option maxRecDepth 1000000 in
theorem one_any {x0 x1 x3 x4 x5 x7 x8 x9 x10 x11 x12 x13 x14 x15 x16 x17 x18 x19 x20 x21 x22 x23 x24 x25 x26 x27 x28 x29 x30 x31 x32 x33 x34 x35 x36 x37 x38 x39 x40 x41 x42 x43 x44 x45 x46 x47 x48 x49 x50 x51 x52 x53 x54 x55 x56 x57 x58 x59 x60 x61 x62 x63 x64 x65 x66 x67 x68 x69 x70 x71 x72 x73 x74 x75 x76 x77 x78 x79 x80 x81 x82 x83 x84 x85 x86 x87 x88 x89 x90 x91 x92 x93 x94 x95 x96 x97 x98 x99 x100 x101 x102 x103 x104 x105 x106 x107 x108 x109 x110 x111 x112 x113 x114 x115 x116 x117 x118 x119 x120 x121 x122 x123 x124 x125 x126 x127 x128 x129 x130 x131 x132 x133 x134 x135 x136 x137 x138 x139 x140 x141 x142 x143 x144 x145 x146 x147 x148 x149 x150 x151 x152 x153 x154 x155 x156 x157 x158 x159 x160 x161 x162 x163 x164 x165 x166 x167 x168 x169 x170 x171 x172 x173 x174 x175 x176 x177 x178 x179 x180 x181 x182 x183 x184 x185 x186 x187 x188 x189 x190 x191 x192 x193 x194 x195 x196 x197 x198 x199 x200 x201 x202 x203 x204 x205 x206 x207 x208 x209 x210 x211 x212 x213 x214 x215 x216 x217 x218 x219 x220 x221 x222 x223 x224 x225 x226 x227 x228 x229 x230 x231 x232 x233 x234 x235 x236 x237 x238 x239 x240 x241 x242 x243 x244 x245 x246 x247 x248 : Value} (gp off cp gw : Nat) (b : List Nat) (B : Nat) (w : World) (R : Act → World → Prop)
    (hB : B ≤ gw) (hgp : gp < B) (hb : b.length = 64) (hd : ∀ x ∈ b, x < 256) (hp : BytesAt w gp off b) (h0 : RowIs w gw 3 (ints (List.replicate 64 0)))
    (hQ : Hid (∀ (y7 y30 y31 y32 y33 y34 y35 y36 y37 y38 y39 y40 y41 y42 y43 y44 y45 y46 y47 y48 y49 y50 y51 y52 y53 y54 y55 y56 y57 y58 y59 y60 y61 y62 y63 y64 y65 y66 y67 y68 y69 : Value) (w' : World), RowIs w' gw 3 (ints (laid b 0)) → Below B w w' → R ⟨#[x0, x1, .slice (some ⟨gp, off, none⟩) 64 cp, x3, x4, x5, .slice (some ⟨gw, 0, none⟩) 64 64, y7, x8, x9, x10, x11, x12, x13, x14, x15, x16, x17, x18, x19, x20, x21, x22, x23, x24, x25, x26, x27, x28, x29, y30, y31, y32, y33, y34, y35, y36, y37, y38, y39, y40, y41, y42, y43, y44, y45, y46, y47, y48, y49, y50, y51, y52, y53, y54, y55, y56, y57, y58, y59, y60, y61, y62, y63, y64, y65, y66, y67, y68, y69, x70, x71, x72, x73, x74, x75, x76, x77, x78, x79, x80, x81, x82, x83, x84, x85, x86, x87, x88, x89, x90, x91, x92, x93, x94, x95, x96, x97, x98, x99, x100, x101, x102, x103, x104, x105, x106, x107, x108, x109, x110, x111, x112, x113, x114, x115, x116, x117, x118, x119, x120, x121, x122, x123, x124, x125, x126, x127, x128, x129, x130, x131, x132, x133, x134, x135, x136, x137, x138, x139, x140, x141, x142, x143, x144, x145, x146, x147, x148, x149, x150, x151, x152, x153, x154, x155, x156, x157, x158, x159, x160, x161, x162, x163, x164, x165, x166, x167, x168, x169, x170, x171, x172, x173, x174, x175, x176, x177, x178, x179, x180, x181, x182, x183, x184, x185, x186, x187, x188, x189, x190, x191, x192, x193, x194, x195, x196, x197, x198, x199, x200, x201, x202, x203, x204, x205, x206, x207, x208, x209, x210, x211, x212, x213, x214, x215, x216, x217, x218, x219, x220, x221, x222, x223, x224, x225, x226, x227, x228, x229, x230, x231, x232, x233, x234, x235, x236, x237, x238, x239, x240, x241, x242, x243, x244, x245, x246, x247, x248], []⟩ w')) :
    Code.wp Tryz.prog partOne (At R) ⟨#[x0, x1, .slice (some ⟨gp, off, none⟩) 64 cp, x3, x4, x5, .slice (some ⟨gw, 0, none⟩) 64 64, x7, x8, x9, x10, x11, x12, x13, x14, x15, x16, x17, x18, x19, x20, x21, x22, x23, x24, x25, x26, x27, x28, x29, x30, x31, x32, x33, x34, x35, x36, x37, x38, x39, x40, x41, x42, x43, x44, x45, x46, x47, x48, x49, x50, x51, x52, x53, x54, x55, x56, x57, x58, x59, x60, x61, x62, x63, x64, x65, x66, x67, x68, x69, x70, x71, x72, x73, x74, x75, x76, x77, x78, x79, x80, x81, x82, x83, x84, x85, x86, x87, x88, x89, x90, x91, x92, x93, x94, x95, x96, x97, x98, x99, x100, x101, x102, x103, x104, x105, x106, x107, x108, x109, x110, x111, x112, x113, x114, x115, x116, x117, x118, x119, x120, x121, x122, x123, x124, x125, x126, x127, x128, x129, x130, x131, x132, x133, x134, x135, x136, x137, x138, x139, x140, x141, x142, x143, x144, x145, x146, x147, x148, x149, x150, x151, x152, x153, x154, x155, x156, x157, x158, x159, x160, x161, x162, x163, x164, x165, x166, x167, x168, x169, x170, x171, x172, x173, x174, x175, x176, x177, x178, x179, x180, x181, x182, x183, x184, x185, x186, x187, x188, x189, x190, x191, x192, x193, x194, x195, x196, x197, x198, x199, x200, x201, x202, x203, x204, x205, x206, x207, x208, x209, x210, x211, x212, x213, x214, x215, x216, x217, x218, x219, x220, x221, x222, x223, x224, x225, x226, x227, x228, x229, x230, x231, x232, x233, x234, x235, x236, x237, x238, x239, x240, x241, x242, x243, x244, x245, x246, x247, x248], []⟩ w := by
  conv => arg 2; whnf
  rw [← wl_zero b] at h0
  go_wp2
  go_loopw [7] (fun i wr => ∃ n : Nat, n ≤ 16 ∧ i = .int .i64 n ∧ RowIs wr gw 3 (ints (wl b n)) ∧ Below B w wr) (fun i _ => 16 - (intOf i).toNat)
  case atStart => exact ⟨0, by omega, rfl, h0, Below.refl _ _⟩
  case round =>
    clear h0
    obtain ⟨n, hn, rfl, hR, hbw⟩ := hrel
    by_cases hlt : n < 16
    · have hpw := fun j (hj : j < 64) => (hbw.cell (p := ⟨gp, off + j, none⟩) hgp).trans (hp j (by omega))
      have p0 := hpw (4 * n) (by omega)
      have p1 := hpw (4 * n + 1) (by omega)
      have p2 := hpw (4 * n + 2) (by omega)
      have p3 := hpw (4 * n + 3) (by omega)
      have hst : Hid _ := wl_step b n hlt
      have h4 : Hid _ := pw_four b n hb hlt
      have d0 := hd _ (getD_mem b (4 * n) (by omega))
      have d1 := hd _ (getD_mem b (4 * n + 1) (by omega))
      have d2 := hd _ (getD_mem b (4 * n + 2) (by omega))
      have d3 := hd _ (getD_mem b (4 * n + 3) (by omega))
      have hf := hR.frozen n
      have hc := hR.cell n
      rw [ints_get _ _ (by rw [wl_len b n hn]; omega)] at hc
      generalize b.getD (4 * n) 0 = z0 at p0 d0 h4
      generalize b.getD (4 * n + 1) 0 = z1 at p1 d1 h4
      generalize b.getD (4 * n + 2) 0 = z2 at p2 d2 h4
      generalize b.getD (4 * n + 3) 0 = z3 at p3 d3 h4
      generalize pw b 64 n = x at h4 hst
      generalize (wl b n).getD n 0 = old at hc
      have hv : (z0 : Int) * 16777216 + (z1 : Int) * 65536 + (z2 : Int) * 256 + (z3 : Int) = (x : Int) := by rw [h4.out]; omega
      have hR2 := (hR.set n (.int .i64 ((z0 : Int) * 16777216 + (z1 : Int) * 65536 + (z2 : Int) * 256 + (z3 : Int)))).drew
      rw [show (ints (wl b n)).set n (.int .i64 ((z0 : Int) * 16777216 + (z1 : Int) * 65536 + (z2 : Int) * 256 + (z3 : Int))) = ints (wl b (n + 1)) by rw [hv, ints_set, hst.out]] at hR2
      have hb2 := (hbw.setCell (p := ⟨gw, n, none⟩) hB (.int .i64 ((z0 : Int) * 16777216 + (z1 : Int) * 65536 + (z2 : Int) * 256 + (z3 : Int)))).drew
      have HR : Hid _ := hR2
      have HB : Hid _ := hb2
      clear hpw hp hd hR hbw hv hR2 hb2
      go_wp2
      go_region
      clear p0 p1 p2 p3 hf hc
      go_wp2
      exact ⟨⟨n + 1, by omega, by go_num, HR.out, HB.out⟩, by simp [intOf]; omega⟩
    · have en : n = 16 := by omega
      subst en
      rw [wl_end] at hR
      go_wp2
      exact hQ.out _ _ _ _ _ _ _ _ _ _ _ _ _ _ _ _ _ _ _ _ _ _ _ _ _ _ _ _ _ _ _ _ _ _ _ _ _ _ _ _ _ _ hR hbw

end Go.Proofs.YtdidjdoifpfmmaaGreatDoor
