import Derived.Test.YtdidjdoifpfmmaaGreatDoorNotU
import Derived.Deep.QuietTactic
import Derived.BigQuiet
import Derived.Test.YtdidjdoifpfmmaaGreatDoorTail
namespace Go.Proofs.YtdidjdoifpfmmaaGreatDoor
open Go.RowKit

/-- What is added so far. -/
def addTo (l m : List Nat) (n : Nat) : List Nat := addW (l.take n) (m.take n) ++ l.drop n
theorem addTo_step (s t : St) (n : Nat) (h : n < 8) : (addTo s.list t.list n).set n ((s.list.getD n 0 + t.list.getD n 0) % 4294967296) = addTo s.list t.list (n + 1) := by
  obtain rfl | rfl | rfl | rfl | rfl | rfl | rfl | rfl : n = 0 ∨ n = 1 ∨ n = 2 ∨ n = 3 ∨ n = 4 ∨ n = 5 ∨ n = 6 ∨ n = 7 := by omega
  all_goals rfl
theorem addTo_get (s t : St) (n : Nat) (h : n < 8) : (addTo s.list t.list n).getD n 0 = s.list.getD n 0 := by
  obtain rfl | rfl | rfl | rfl | rfl | rfl | rfl | rfl : n = 0 ∨ n = 1 ∨ n = 2 ∨ n = 3 ∨ n = 4 ∨ n = 5 ∨ n = 6 ∨ n = 7 := by omega
  all_goals rfl
theorem addTo_len (s t : St) (n : Nat) (h : n ≤ 8) : (addTo s.list t.list n).length = 8 := by
  obtain rfl | rfl | rfl | rfl | rfl | rfl | rfl | rfl | rfl : n = 0 ∨ n = 1 ∨ n = 2 ∨ n = 3 ∨ n = 4 ∨ n = 5 ∨ n = 6 ∨ n = 7 ∨ n = 8 := by omega
  all_goals rfl
theorem St.Ok.get {s : St} (h : s.Ok) (n : Nat) : s.list.getD n 0 < 4294967296 := by
  apply getD_lt32
  intro x hx
  simp only [St.list, List.mem_cons, List.not_mem_nil, or_false] at hx
  rcases hx with rfl | rfl | rfl | rfl | rfl | rfl | rfl | rfl
  · exact h.a
  · exact h.b
  · exact h.c
  · exact h.d
  · exact h.e
  · exact h.f
  · exact h.g
  · exact h.h

theorem put_none (a : Act) (v : Value) : a.put none v = a := rfl
/-- The table of the rounds stands in memory. -/
def TabU (w : World) (g : Nat) (K : List Nat) : Prop := ∀ j, j < K.length → w.cell? ⟨g, j, none⟩ = some (.int .u32 (K.getD j 0 : Nat))
theorem TabU.below {w w' : World} {B g : Nat} {K : List Nat} (h : TabU w g K) (hb : Below B w w') (hg : g < B) : TabU w' g K := fun j hj => by
  rw [hb.cell hg]; exact h j hj


noncomputable def mixedCode : Code := Tryz.f183.body.getD .skip
noncomputable def mixLoop : Code := fstC (sndC (sndC (sndC (sndC mixedCode))))
noncomputable def roundMixed : Code := inC (fstC (sndC (sndC (inC (inC (sndC mixLoop))))))

set_option maxHeartbeats 4000000 in
set_option maxRecDepth 1000000 in
theorem round_mixed {x0 x1 x2 x3 x4 x14 x15 x16 x17 x18 x19 x20 x21 x22 x23 x24 x25 x26 x27 x28 x29 x30 x31 x32 x33 x34 x35 x36 x37 x38 x40 x41 x42 x43 x44 x45 x46 x47 x48 x49 x50 x51 x52 x53 x54 x55 x56 x57 x58 x59 x60 x61 x62 x63 x64 x65 x66 x67 x68 x69 x70 x71 x72 x73 x74 x75 x76 x77 x78 x79 x80 x81 x82 x83 x84 x85 x86 x87 x88 x89 x90 x91 x92 x93 x94 x95 x96 x97 x98 x99 x100 x101 x102 x103 x104 x105 x106 x107 x108 x109 x110 x111 x112 : Value} (g3 n kn wn : Nat) (t : St) (w : World) (Q : Exit → Act → World → Prop)
    (hn64 : n < 64) (hok : t.Ok) (_lk : kn < 4294967296) (_lw : wn < 4294967296) (hck : w.cell? ⟨14, n, none⟩ = some (.int .u32 (kn : Int))) (hcw : w.cell? ⟨g3, n, none⟩ = some (.int .u32 (wn : Int)))
    (hQ : Hid (∀ (y14 y15 y16 y17 y18 y41 y42 y43 y44 y45 y46 y47 y48 y49 y50 y51 y52 y53 y54 y55 y56 y57 y58 y59 y60 y61 y62 y63 y64 y65 y66 y67 y68 y69 y70 y71 y72 y73 y74 y75 y76 y77 y78 y79 y80 y81 y82 y83 y84 y85 y86 y87 y88 y89 y90 : Value) (q : Nat), Q .normal ⟨#[x0, x1, x2, x3, x4, .pointer (some ⟨g3, 0, none⟩), .int .u32 ((t.round kn wn).a : Nat), .int .u32 ((t.round kn wn).b : Nat), .int .u32 ((t.round kn wn).c : Nat), .int .u32 ((t.round kn wn).d : Nat), .int .u32 ((t.round kn wn).e : Nat), .int .u32 ((t.round kn wn).f : Nat), .int .u32 ((t.round kn wn).g : Nat), .int .u32 ((t.round kn wn).h : Nat), y14, y15, y16, y17, y18, x19, x20, x21, x22, x23, x24, x25, x26, x27, x28, x29, x30, x31, x32, x33, x34, x35, x36, x37, x38, .int .i64 (n : Int), x40, y41, y42, y43, y44, y45, y46, y47, y48, y49, y50, y51, y52, y53, y54, y55, y56, y57, y58, y59, y60, y61, y62, y63, y64, y65, y66, y67, y68, y69, y70, y71, y72, y73, y74, y75, y76, y77, y78, y79, y80, y81, y82, y83, y84, y85, y86, y87, y88, y89, y90, x91, x92, x93, x94, x95, x96, x97, x98, x99, x100, x101, x102, x103, x104, x105, x106, x107, x108, x109, x110, x111, x112], []⟩ (w.drewN q))) :
    Code.wp Tryz.prog roundMixed Q ⟨#[x0, x1, x2, x3, x4, .pointer (some ⟨g3, 0, none⟩), .int .u32 (t.a : Nat), .int .u32 (t.b : Nat), .int .u32 (t.c : Nat), .int .u32 (t.d : Nat), .int .u32 (t.e : Nat), .int .u32 (t.f : Nat), .int .u32 (t.g : Nat), .int .u32 (t.h : Nat), x14, x15, x16, x17, x18, x19, x20, x21, x22, x23, x24, x25, x26, x27, x28, x29, x30, x31, x32, x33, x34, x35, x36, x37, x38, .int .i64 (n : Int), x40, x41, x42, x43, x44, x45, x46, x47, x48, x49, x50, x51, x52, x53, x54, x55, x56, x57, x58, x59, x60, x61, x62, x63, x64, x65, x66, x67, x68, x69, x70, x71, x72, x73, x74, x75, x76, x77, x78, x79, x80, x81, x82, x83, x84, x85, x86, x87, x88, x89, x90, x91, x92, x93, x94, x95, x96, x97, x98, x99, x100, x101, x102, x103, x104, x105, x106, x107, x108, x109, x110, x111, x112], []⟩ w := by
  conv => arg 2; whnf
  have n1 := not_u32 t.e hok.e
  have b1 := u32_and_nat t.e t.f hok.e hok.f
  have b2 := u32_and_nat (4294967295 - t.e) t.g (by omega) hok.g
  have b3 : bits .xor .u32 ((t.e &&& t.f : Nat) : Int) (((4294967295 - t.e) &&& t.g : Nat) : Int) = ((choice t.e t.f t.g : Nat) : Int) := u32_xor_nat _ _ (and_lt _ _ hok.f) (and_lt _ _ hok.g)
  have m1 := u32_and_nat t.a t.b hok.a hok.b
  have m2 := u32_and_nat t.a t.c hok.a hok.c
  have m3 := u32_and_nat t.b t.c hok.b hok.c
  have m4 := u32_xor_nat (t.a &&& t.b) (t.a &&& t.c) (and_lt _ _ hok.b) (and_lt _ _ hok.c)
  have m5 : bits .xor .u32 (((t.a &&& t.b) ^^^ (t.a &&& t.c) : Nat) : Int) ((t.b &&& t.c : Nat) : Int) = ((majority t.a t.b t.c : Nat) : Int) := u32_xor_nat _ _ (xor_lt _ _ (and_lt _ _ hok.b) (and_lt _ _ hok.c)) (and_lt _ _ hok.c)
  have t1 : ∀ w, Calls Tryz.prog 249 #[.int .u32 (t.e : Int), .int .i64 6, .int .i64 11, .int .i64 25] w fun e w' => e = .returned (.int .u32 (big1 t.e : Nat)) ∧ w' = w := fun w => (turned_any t.e 6 11 25 hok.e (by decide) (by decide) (by decide) (by decide) (by decide) (by decide) w).mono fun e w' h => ⟨h.1, h.2.symm⟩
  have t2 : ∀ w, Calls Tryz.prog 249 #[.int .u32 (t.a : Int), .int .i64 2, .int .i64 13, .int .i64 22] w fun e w' => e = .returned (.int .u32 (big0 t.a : Nat)) ∧ w = w' := fun w => turned_any t.a 2 13 22 hok.a (by decide) (by decide) (by decide) (by decide) (by decide) (by decide) w
  have q1 := big1_lt t.e
  have q2 := big0_lt t.a
  have q3 := choice_lt t.e t.f t.g hok.f hok.g
  have q4 := majority_lt t.a t.b t.c hok.b hok.c
  have ta := hok.a
  have td := hok.d
  have th := hok.h
  have hR : Hid (t.round kn wn = ⟨(t.h + big1 t.e + choice t.e t.f t.g + kn + wn + (big0 t.a + majority t.a t.b t.c)) % 4294967296, t.a, t.b, t.c, (t.d + (t.h + big1 t.e + choice t.e t.f t.g + kn + wn)) % 4294967296, t.e, t.f, t.g⟩) := rfl
  generalize t.round kn wn = S2 at hR hQ
  obtain ⟨ta', tb', tc', td', te', tf', tg', th'⟩ := t
  simp only at *
  refine seq_at ?_
  go_wp2
  show Code.wp _ _ _ _ _
  refine seq_at ?_
  go_wp2
  show Code.wp _ _ _ _ _
  refine seq_at ?_
  go_wp2
  show Code.wp _ _ _ _ _
  refine seq_at ?_
  go_quiet ((go_at_call 249; exact Calls.quiet_of_same (t1 _)))
  show Code.wp _ _ _ _ _
  refine seq_at ?_
  go_wp2_with (go_at_call 249; refine (t2 _).mono ?_; rintro e w' ⟨rfl, rfl⟩)
  show Code.wp _ _ _ _ _
  refine wp_at ?_
  go_wp2
  show Q .normal _ _
  have hS := hR.out
  subst hS
  generalize big1 te' = B1 at q1 hQ ⊢
  generalize big0 ta' = B0 at q2 hQ ⊢
  generalize choice te' tf' tg' = C1 at q3 hQ ⊢
  generalize majority ta' tb' tc' = C2 at q4 hQ ⊢
  have e0 : (((th' : Int) + (B1 : Int) + (C1 : Int) + (kn : Int) + (wn : Int)) % 4294967296 + ((B0 : Int) + (C2 : Int)) % 4294967296) % 4294967296 = (((th' + B1 + C1 + kn + wn + (B0 + C2)) % 4294967296 : Nat) : Int) := by omega
  have e4 : ((td' : Int) + ((th' : Int) + (B1 : Int) + (C1 : Int) + (kn : Int) + (wn : Int)) % 4294967296) % 4294967296 = (((td' + (th' + B1 + C1 + kn + wn)) % 4294967296 : Nat) : Int) := by omega
  rw [e0, e4]
  exact hQ.out _ _ _ _ _ _ _ _ _ _ _ _ _ _ _ _ _ _ _ _ _ _ _ _ _ _ _ _ _ _ _ _ _ _ _ _ _ _ _ _ _ _ _ _ _ _ _ _ _ _ _ _ _ _ _ nq
end Go.Proofs.YtdidjdoifpfmmaaGreatDoor
