import Derived.Test.YtdidjdoifpfmmaaGreatDoorMixRound
namespace Go.Proofs.YtdidjdoifpfmmaaGreatDoor
open Go.RowKit

set_option maxHeartbeats 4000000 in
set_option maxRecDepth 1000000 in
theorem mixLoop_any {x0 x1 x2 x3 x4 x14 x15 x16 x17 x18 x19 x20 x21 x22 x23 x24 x25 x26 x27 x28 x29 x30 x31 x32 x33 x34 x35 x36 x37 x38 x39 x40 x41 x42 x43 x44 x45 x46 x47 x48 x49 x50 x51 x52 x53 x54 x55 x56 x57 x58 x59 x60 x61 x62 x63 x64 x65 x66 x67 x68 x69 x70 x71 x72 x73 x74 x75 x76 x77 x78 x79 x80 x81 x82 x83 x84 x85 x86 x87 x88 x89 x90 x91 x92 x93 x94 x95 x96 x97 x98 x99 x100 x101 x102 x103 x104 x105 x106 x107 x108 x109 x110 x111 x112 : Value} (g3 : Nat) (K L : List Nat) (s : St) (w : World) (Q : Exit → Act → World → Prop)
    (ok : s.Ok) (dK : ∀ x ∈ K, x < 4294967296) (dL : ∀ x ∈ L, x < 4294967296) (hK : K.length = 64) (hT : TabU w 14 K) (hL : L.length = 64) (hW : RowIs w g3 379 (u32s L))
    (hQ : Hid (∀ (y14 y15 y16 y17 y18 y39 y40 y41 y42 y43 y44 y45 y46 y47 y48 y49 y50 y51 y52 y53 y54 y55 y56 y57 y58 y59 y60 y61 y62 y63 y64 y65 y66 y67 y68 y69 y70 y71 y72 y73 y74 y75 y76 y77 y78 y79 y80 y81 y82 y83 y84 y85 y86 y87 y88 y89 y90 y91 : Value) (w' : World), w'.heap = w.heap → Below w.heap.size w w' → Q .normal ⟨#[x0, x1, x2, x3, x4, .pointer (some ⟨g3, 0, none⟩), .int .u32 ((St.run K L s 64).a : Nat), .int .u32 ((St.run K L s 64).b : Nat), .int .u32 ((St.run K L s 64).c : Nat), .int .u32 ((St.run K L s 64).d : Nat), .int .u32 ((St.run K L s 64).e : Nat), .int .u32 ((St.run K L s 64).f : Nat), .int .u32 ((St.run K L s 64).g : Nat), .int .u32 ((St.run K L s 64).h : Nat), y14, y15, y16, y17, y18, x19, x20, x21, x22, x23, x24, x25, x26, x27, x28, x29, x30, x31, x32, x33, x34, x35, x36, x37, x38, y39, y40, y41, y42, y43, y44, y45, y46, y47, y48, y49, y50, y51, y52, y53, y54, y55, y56, y57, y58, y59, y60, y61, y62, y63, y64, y65, y66, y67, y68, y69, y70, y71, y72, y73, y74, y75, y76, y77, y78, y79, y80, y81, y82, y83, y84, y85, y86, y87, y88, y89, y90, y91, x92, x93, x94, x95, x96, x97, x98, x99, x100, x101, x102, x103, x104, x105, x106, x107, x108, x109, x110, x111, x112], []⟩ w')) :
    Code.wp Tryz.prog mixLoop Q ⟨#[x0, x1, x2, x3, x4, .pointer (some ⟨g3, 0, none⟩), .int .u32 (s.a : Nat), .int .u32 (s.b : Nat), .int .u32 (s.c : Nat), .int .u32 (s.d : Nat), .int .u32 (s.e : Nat), .int .u32 (s.f : Nat), .int .u32 (s.g : Nat), .int .u32 (s.h : Nat), x14, x15, x16, x17, x18, x19, x20, x21, x22, x23, x24, x25, x26, x27, x28, x29, x30, x31, x32, x33, x34, x35, x36, x37, x38, x39, x40, x41, x42, x43, x44, x45, x46, x47, x48, x49, x50, x51, x52, x53, x54, x55, x56, x57, x58, x59, x60, x61, x62, x63, x64, x65, x66, x67, x68, x69, x70, x71, x72, x73, x74, x75, x76, x77, x78, x79, x80, x81, x82, x83, x84, x85, x86, x87, x88, x89, x90, x91, x92, x93, x94, x95, x96, x97, x98, x99, x100, x101, x102, x103, x104, x105, x106, x107, x108, x109, x110, x111, x112], []⟩ w := by
  conv => arg 2; whnf
  have HT : Hid _ := hT
  clear hT
  refine seq_at ?_
  go_wp2
  show Code.wp _ _ _ _ _
  refine wp_block ?_
  go_loopw [6, 7, 8, 9, 10, 11, 12, 13, 39] (fun a b c d e f g h i wr => ∃ n : Nat, n ≤ 64 ∧ i = .int .i64 n ∧ a = .int .u32 ((St.run K L s n).a : Nat) ∧ b = .int .u32 ((St.run K L s n).b : Nat) ∧ c = .int .u32 ((St.run K L s n).c : Nat) ∧ d = .int .u32 ((St.run K L s n).d : Nat) ∧ e = .int .u32 ((St.run K L s n).e : Nat) ∧ f = .int .u32 ((St.run K L s n).f : Nat) ∧ g = .int .u32 ((St.run K L s n).g : Nat) ∧ h = .int .u32 ((St.run K L s n).h : Nat) ∧ Hid (wr.heap = w.heap) ∧ Below w.heap.size w wr) (fun _ _ _ _ _ _ _ _ i _ => 64 - (intOf i).toNat)
  case atStart => exact ⟨0, by omega, rfl, rfl, rfl, rfl, rfl, rfl, rfl, rfl, rfl, rfl, Below.refl _ _⟩
  case round =>
    obtain ⟨n, hn, rfl, rfl, rfl, rfl, rfl, rfl, rfl, rfl, rfl, hhp, hb⟩ := hrel
    by_cases hn64 : n < 64
    · have hck : wr.cell? ⟨14, n, none⟩ = some (.int .u32 (K.getD n 0 : Nat)) := by rw [← HT.out n (by omega)]; simp only [World.cell?, hhp.out]
      have hcw : wr.cell? ⟨g3, n, none⟩ = some (.int .u32 (L.getD n 0 : Nat)) := by rw [← u32s_get L n (by omega), ← hW.cell n]; simp only [World.cell?, hhp.out]
      have lk := getD_lt32 K dK n
      have lw := getD_lt32 L dL n
      have hok := ok.run K L n
      have hrn : Hid (St.run K L s (n + 1) = (St.run K L s n).round (K.getD n 0) (L.getD n 0)) := rfl
      generalize K.getD n 0 = kn at hck lk hrn
      generalize L.getD n 0 = wn at hcw lw hrn
      generalize St.run K L s n = t at hok hrn ⊢
      refine seq_at ?_
      go_wp2
      show Code.wp _ _ _ _ _
      refine wp_seq_k ?_
      intro K2 hK2
      have HK2 : Hid _ := hK2
      clear hK2
      go_wp2
      refine HK2.out _ _ ?_
      clear HK2
      refine wp_seq_k ?_
      intro K3 hK3
      have HK3 : Hid _ := hK3
      clear hK3
      refine wp_block ?_
      refine round_mixed g3 n kn wn t wr _ hn64 hok lk lw hck hcw ?_
      refine fun y14 y15 y16 y17 y18 y41 y42 y43 y44 y45 y46 y47 y48 y49 y50 y51 y52 y53 y54 y55 y56 y57 y58 y59 y60 y61 y62 y63 y64 y65 y66 y67 y68 y69 y70 y71 y72 y73 y74 y75 y76 y77 y78 y79 y80 y81 y82 y83 y84 y85 y86 y87 y88 y89 y90 q => ?_
      refine HK3.out _ _ ?_
      clear HK3 hck hcw
      rw [← hrn.out]
      go_wp2
      exact ⟨⟨n + 1, by omega, by go_num, rfl, rfl, rfl, rfl, rfl, rfl, rfl, rfl, hhp, below_drewN hb q⟩, by simp [intOf]; omega⟩
    · have en : n = 64 := by omega
      subst en
      obtain ⟨t, ht⟩ : ∃ t, Hid (St.run K L s 64 = t) := ⟨_, rfl⟩
      rw [ht.out] at hQ ⊢
      go_wp2
      exact hQ.out _ _ _ _ _ _ _ _ _ _ _ _ _ _ _ _ _ _ _ _ _ _ _ _ _ _ _ _ _ _ _ _ _ _ _ _ _ _ _ _ _ _ _ _ _ _ _ _ _ _ _ _ _ _ _ _ _ _ _ hhp.out hb
end Go.Proofs.YtdidjdoifpfmmaaGreatDoor
