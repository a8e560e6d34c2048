import Derived.Shelf.SlGeneric
import Derived.Shelf.SlIter.Nil
import Derived.Shelf.SortM.Plain
import Derived.Shelf.SortM.SortNone
import Derived.Ground.GgzProg
import Derived.Ground.SlgmProg
import Derived.Test.YtdidjdoifpfmmaaGreatDoorProg
import Derived.Test.YtdidjdoifpfmmaaGreatDoorGT24
/- Contracts of the library, laid at this program: made by tools/shelf.py ShelfIter Derived.Shelf.SlGeneric,Derived.Shelf.SlIter.Nil,Derived.Shelf.SortM.Plain,Derived.Shelf.SortM.SortNone,Derived.Ground.GgzProg,Derived.Ground.SlgmProg g:SlLaysZ.n7,Ggz,7,232,keys235 g:SlLaysZ.n6,Ggz,6,231,sorted234 g:SlLaysM.n6,Slgm,6,271,sort271. -/
namespace Go.Proofs
open Go.Shelf
def Tryz.keys235_ren : Go.Shelf.Ren := ⟨fun | 7 => 232 | 10 => 272 | n => n, fun | 23 => 175 | 26 => 9 | 3 => 111 | 28 => 365 | 0 => 0 | 27 => 364 | 33 => 41 | 4 => 4 | n => n, fun | n => n⟩
theorem Tryz.keys235 : Go.Proofs.SlLaysZ.n7 Tryz.prog Tryz.keys235_ren := {
  mixed := by kernel_rfl
  f7 := ⟨Tryz.f232.name, by decide, Tryz.func232.trans (congrArg some (by kernel_rfl))⟩
  f10 := ⟨Tryz.f272.name, by decide, Tryz.func272.trans (congrArg some (by kernel_rfl))⟩
  t0 := Tryz.underlying0
  a0 := Tryz.isAgg0
  z0 := Tryz.sizeOf0
  v0 := Tryz.zeroValue0
  t4 := Tryz.underlying4
  a4 := Tryz.isAgg4
  z4 := Tryz.sizeOf4
  v4 := Tryz.zeroValue4
  t23 := Tryz.underlying175
  a23 := Tryz.isAgg175
  z23 := Tryz.sizeOf175
  v23 := Tryz.zeroValue175
  t26 := Tryz.underlying9
  a26 := Tryz.isAgg9
  z26 := Tryz.sizeOf9
  v26 := Tryz.zeroValue9
  t27 := Tryz.underlying364
  a27 := Tryz.isAgg364
  z27 := Tryz.sizeOf364
  v27 := Tryz.zeroValue364
  t28 := Tryz.underlying365
  a28 := Tryz.isAgg365
  z28 := Tryz.sizeOf365
  v28 := Tryz.zeroValue365
  t33 := Tryz.underlying41
  a33 := Tryz.isAgg41
  z33 := Tryz.sizeOf41
  v33 := Tryz.zeroValue41 }
def Tryz.sorted234_ren : Go.Shelf.Ren := ⟨fun | 6 => 231 | 8 => 270 | 9 => 271 | 11 => 285 | 13 => 287 | 12 => 286 | 23 => 305 | 24 => 306 | 14 => 296 | 15 => 297 | 16 => 298 | 17 => 299 | 18 => 300 | 19 => 301 | 20 => 302 | 21 => 303 | 22 => 304 | 25 => 314 | 26 => 315 | 27 => 316 | 28 => 317 | 29 => 318 | 30 => 319 | 31 => 324 | n => n, fun | 26 => 9 | 28 => 365 | 24 => 35 | 0 => 0 | 3 => 3 | 37 => 133 | 48 => 81 | 50 => 297 | 4 => 4 | 40 => 427 | 39 => 426 | 45 => 193 | 5 => 5 | 9 => 9 | 51 => 437 | 55 => 441 | 57 => 450 | 58 => 89 | 33 => 41 | n => n, fun | n => n⟩
theorem Tryz.sorted234 : Go.Proofs.SlLaysZ.n6 Tryz.prog Tryz.sorted234_ren := {
  mixed := by kernel_rfl
  f6 := ⟨Tryz.f231.name, by decide, Tryz.func231.trans (congrArg some (by kernel_rfl))⟩
  f8 := ⟨Tryz.f270.name, by decide, Tryz.func270.trans (congrArg some (by kernel_rfl))⟩
  f11 := ⟨Tryz.f285.name, by decide, Tryz.func285.trans (congrArg some (by kernel_rfl))⟩
  t0 := Tryz.underlying0
  a0 := Tryz.isAgg0
  z0 := Tryz.sizeOf0
  v0 := Tryz.zeroValue0
  t24 := Tryz.underlying35
  a24 := Tryz.isAgg35
  z24 := Tryz.sizeOf35
  v24 := Tryz.zeroValue35
  t26 := Tryz.underlying9
  a26 := Tryz.isAgg9
  z26 := Tryz.sizeOf9
  v26 := Tryz.zeroValue9
  t28 := Tryz.underlying365
  a28 := Tryz.isAgg365
  z28 := Tryz.sizeOf365
  v28 := Tryz.zeroValue365
  i26 := by kernel_rfl }
def Tryz.sort271_ren : Go.Shelf.Ren := ⟨fun | 6 => 271 | 8 => 287 | 9 => 286 | 19 => 305 | 20 => 306 | 21 => 296 | 22 => 297 | 23 => 298 | 24 => 299 | 25 => 300 | 26 => 301 | 27 => 302 | 28 => 303 | 29 => 304 | 36 => 314 | 31 => 315 | 32 => 316 | 37 => 317 | 38 => 318 | 39 => 319 | 41 => 324 | n => n, fun | 27 => 35 | 29 => 9 | 3 => 3 | 32 => 133 | 26 => 35 | 0 => 0 | 44 => 81 | 46 => 297 | 4 => 4 | 36 => 427 | 35 => 426 | 41 => 193 | 5 => 5 | 9 => 9 | 53 => 437 | 57 => 441 | 63 => 450 | 64 => 89 | n => n, fun | n => n⟩
theorem Tryz.sort271 : Go.Proofs.SlLaysM.n6 Tryz.prog Tryz.sort271_ren := {
  mixed := by kernel_rfl
  f6 := ⟨Tryz.f271.name, by decide, Tryz.func271.trans (congrArg some (by kernel_rfl))⟩
  f8 := Tryz.func287.trans (congrArg some (by kernel_rfl))
  f9 := ⟨Tryz.f286.name, by decide, Tryz.func286.trans (congrArg some (by kernel_rfl))⟩
  f19 := Tryz.func305.trans (congrArg some (by kernel_rfl))
  f20 := Tryz.func306.trans (congrArg some (by kernel_rfl))
  f21 := ⟨Tryz.f296.name, by decide, Tryz.func296.trans (congrArg some (by kernel_rfl))⟩
  f22 := ⟨Tryz.f297.name, by decide, Tryz.func297.trans (congrArg some (by kernel_rfl))⟩
  f23 := ⟨Tryz.f298.name, by decide, Tryz.func298.trans (congrArg some (by kernel_rfl))⟩
  f24 := ⟨Tryz.f299.name, by decide, Tryz.func299.trans (congrArg some (by kernel_rfl))⟩
  f25 := ⟨Tryz.f300.name, by decide, Tryz.func300.trans (congrArg some (by kernel_rfl))⟩
  f26 := ⟨Tryz.f301.name, by decide, Tryz.func301.trans (congrArg some (by kernel_rfl))⟩
  f27 := ⟨Tryz.f302.name, by decide, Tryz.func302.trans (congrArg some (by kernel_rfl))⟩
  f28 := ⟨Tryz.f303.name, by decide, Tryz.func303.trans (congrArg some (by kernel_rfl))⟩
  f29 := ⟨Tryz.f304.name, by decide, Tryz.func304.trans (congrArg some (by kernel_rfl))⟩
  f31 := Tryz.func315.trans (congrArg some (by kernel_rfl))
  f32 := Tryz.func316.trans (congrArg some (by kernel_rfl))
  f36 := ⟨Tryz.f314.name, by decide, Tryz.func314.trans (congrArg some (by kernel_rfl))⟩
  f37 := ⟨Tryz.f317.name, by decide, Tryz.func317.trans (congrArg some (by kernel_rfl))⟩
  f38 := ⟨Tryz.f318.name, by decide, Tryz.func318.trans (congrArg some (by kernel_rfl))⟩
  f39 := ⟨Tryz.f319.name, by decide, Tryz.func319.trans (congrArg some (by kernel_rfl))⟩
  f41 := ⟨Tryz.f324.name, by decide, Tryz.func324.trans (congrArg some (by kernel_rfl))⟩
  t0 := Tryz.underlying0
  a0 := Tryz.isAgg0
  z0 := Tryz.sizeOf0
  v0 := Tryz.zeroValue0
  t3 := Tryz.underlying3
  a3 := Tryz.isAgg3
  z3 := Tryz.sizeOf3
  v3 := Tryz.zeroValue3
  t4 := Tryz.underlying4
  a4 := Tryz.isAgg4
  z4 := Tryz.sizeOf4
  v4 := Tryz.zeroValue4
  t5 := Tryz.underlying5
  a5 := Tryz.isAgg5
  z5 := Tryz.sizeOf5
  v5 := Tryz.zeroValue5
  t9 := Tryz.underlying9
  a9 := Tryz.isAgg9
  z9 := Tryz.sizeOf9
  v9 := Tryz.zeroValue9
  t26 := Tryz.underlying35
  a26 := Tryz.isAgg35
  z26 := Tryz.sizeOf35
  v26 := Tryz.zeroValue35
  t27 := Tryz.underlying35
  a27 := Tryz.isAgg35
  z27 := Tryz.sizeOf35
  v27 := Tryz.zeroValue35
  t29 := Tryz.underlying9
  a29 := Tryz.isAgg9
  z29 := Tryz.sizeOf9
  v29 := Tryz.zeroValue9
  t32 := Tryz.underlying133
  a32 := Tryz.isAgg133
  z32 := Tryz.sizeOf133
  v32 := Tryz.zeroValue133
  t35 := Tryz.underlying426
  a35 := Tryz.isAgg426
  z35 := Tryz.sizeOf426
  v35 := Tryz.zeroValue426
  t36 := Tryz.underlying427
  a36 := Tryz.isAgg427
  z36 := Tryz.sizeOf427
  v36 := Tryz.zeroValue427
  t41 := Tryz.underlying193
  a41 := Tryz.isAgg193
  z41 := Tryz.sizeOf193
  v41 := Tryz.zeroValue193
  t44 := Tryz.underlying81
  a44 := Tryz.isAgg81
  z44 := Tryz.sizeOf81
  v44 := Tryz.zeroValue81
  t46 := Tryz.underlying297
  a46 := Tryz.isAgg297
  z46 := Tryz.sizeOf297
  v46 := Tryz.zeroValue297
  t53 := Tryz.underlying437
  a53 := Tryz.isAgg437
  z53 := Tryz.sizeOf437
  v53 := Tryz.zeroValue437
  t57 := Tryz.underlying441
  a57 := Tryz.isAgg441
  z57 := Tryz.sizeOf441
  v57 := Tryz.zeroValue441
  t63 := Tryz.underlying450
  a63 := Tryz.isAgg450
  z63 := Tryz.sizeOf450
  v63 := Tryz.zeroValue450
  t64 := Tryz.underlying89
  a64 := Tryz.isAgg89
  z64 := Tryz.sizeOf89
  v64 := Tryz.zeroValue89 }
end Go.Proofs
/- The document's List of the tree, where it refuses. -/
namespace Go.Proofs.YtdidjdoifpfmmaaGreatDoor
open Go.RowKit
/-- Why List refuses (0: it does not). -/
def listErr (L : List It) (s : ByteArray) : Nat :=
  if (namesOf s).2 = false then 5
  else if (findF L ⟨#[]⟩ (-1) (namesOf s).1).2 ≠ 0 then (findF L ⟨#[]⟩ (-1) (namesOf s).1).2
  else if 0 ≤ (findF L ⟨#[]⟩ (-1) (namesOf s).1).1 ∧ dirAt L (findF L ⟨#[]⟩ (-1) (namesOf s).1).1 = false then 7
  else 0
set_option maxRecDepth 100000 in
set_option maxHeartbeats 2000000 in
theorem refListT_err (L : List It) (s : ByteArray) (v : Value) (q : Nat) (w : World) (h : TreeOwn w v L) (c7 : w.cell? ⟨q, 7, none⟩ = some v) (hl : L.length ≤ 30000) (hs : s.size ≤ 1000000) (hne : listErr L s ≠ 0) :
    Calls Tryz.prog 133 #[.pointer (some ⟨q, 0, none⟩), .int .i64 0, .string s] w fun e w' => e = .returned (.tuple #[.slice none 0 0, .int .i64 (listErr L s : Nat), .int .i64 (-1)]) ∧ Below w.heap.size w w' := by
  have hN := refNames_any s w hs
  have hI := itsAt_of h
  have hql := World.block_lt_of_cell? w _ c7
  have C7 : Hid (∀ w1, Below w.heap.size w w1 → w1.cell? ⟨q, 7, none⟩ = some v) := fun w1 hb => by rw [hb.cell hql]; exact c7
  obtain ⟨av, cv, hv⟩ : ∃ av cv, v = .slice av L.length cv := slice_formR h
  cases hok : (namesOf s).2
  · have he : Hid (listErr L s = 5) := by show listErr L s = _; unfold listErr; rw [if_pos hok]
    rw [hok] at hN
    clear h hI c7 hne
    subst hv
    go_enter Tryz.func133, Tryz.ntmps133
    go_wp2_with (go_at_call 193; refine hN.mono ?_; rintro e w1 ⟨nv, rfl, ho, hb⟩)
    refine bodyPost_ret (results_tmp3 rfl _ _ _) rfl ?_
    exact ⟨by rw [he.out]; rfl, hb⟩
  · rw [hok] at hN
    have hfew := names_few s hok
    have hns := names_sizes s
    have HF : Hid (∀ w1 nv, Below w.heap.size w w1 → StrsAt w1 nv (namesOf s).1 → Calls Tryz.prog 202 #[v, nv] w1 fun e w' => e = .returned (.tuple #[.int .i64 (findF L ⟨#[]⟩ (-1) (namesOf s).1).1, .int .i64 ((findF L ⟨#[]⟩ (-1) (namesOf s).1).2 : Nat)]) ∧ w1 = w') :=
      fun w1 nv hb hnv => refFindN_any L (namesOf s).1 v nv w1 (hI.below hb (Nat.le_refl _)) hnv (by omega) (by omega) (fun x hx => Nat.le_trans (hns x hx) (by decide))
    have hr : Hid (listErr L s = if (findF L ⟨#[]⟩ (-1) (namesOf s).1).2 ≠ 0 then (findF L ⟨#[]⟩ (-1) (namesOf s).1).2 else if 0 ≤ (findF L ⟨#[]⟩ (-1) (namesOf s).1).1 ∧ dirAt L (findF L ⟨#[]⟩ (-1) (namesOf s).1).1 = false then 7 else 0) := by
      show listErr L s = _
      unfold listErr
      rw [if_neg (by simp [hok])]
    have hrange := findF_range L (namesOf s).1 ⟨#[]⟩ (-1) (.inl rfl)
    have hcode := findF_codes L (namesOf s).1 ⟨#[]⟩ (-1)
    generalize findF L ⟨#[]⟩ (-1) (namesOf s).1 = F at *
    obtain ⟨fa, fe⟩ := F
    simp only at hrange hcode hr HF
    have HT : Hid (TreeOwn w v L) := h
    have HNE : Hid _ := hne
    clear h hI c7 hfew hns hne
    subst hv
    by_cases he0 : fe = 0
    · subst he0
      rw [if_neg (by simp)] at hr
      rcases hrange rfl with rfl | ⟨i, hi, rfl⟩
      · rw [if_neg (by omega)] at hr
        exact absurd hr.out HNE.out
      · have hda : dirAt L (i : Nat) = L[i].dir := by unfold dirAt; rw [Int.toNat_natCast, List.getElem?_eq_getElem hi]; rfl
        have i0' : (0 : Int) ≤ (i : Int) := by omega
        have i1' : (i : Int) < (L.length : Int) := by omega
        rw [hda] at hr
        obtain ⟨g, cap, hvv, _, hgl⟩ := World.ownsRow.form HT.out (by omega)
        simp only [Value.slice.injEq] at hvv
        obtain ⟨rfl, _, rfl⟩ := hvv
        have CI : Hid (∀ w1, Below w.heap.size w w1 → w1.cell? ⟨g, i * 3 + 1, none⟩ = some (.bool L[i].dir)) := fun w1 hb => by
          obtain ⟨hh, _, _⟩ := has_of_owns (TreeOwn.below (L := L) (v := .slice (some ⟨g, 0, none⟩) L.length cv) HT.out hb)
          rw [hh.cell _ (by rw [itCells_length]; omega), itCells_get L i hi 1 (by decide)]; rfl
        cases hdd : L[i].dir
        · rw [hdd] at CI
          rw [if_pos ⟨i0', hdd⟩] at hr
          go_enter Tryz.func133, Tryz.ntmps133
          go_wp2_with (first
            | (go_at_call 193; refine hN.mono ?_; rintro e w1 ⟨nv, rfl, ho, hb⟩; have hF := HF.out w1 nv hb (strsAt_of ho); have cc := C7.out w1 hb; have ci := CI.out w1 hb; clear ho)
            | (go_at_call 202; refine hF.mono ?_; rintro e w2 ⟨rfl, rfl⟩; clear hF))
          refine bodyPost_ret (results_tmp3 rfl _ _ _) rfl ?_
          exact ⟨by rw [hr.out]; rfl, hb⟩
        · rw [if_neg (by simp [hdd])] at hr
          exact absurd hr.out HNE.out
    · rw [if_pos he0] at hr
      have e1 : ((fe : Int) != 0) = true := by simp; omega
      go_enter Tryz.func133, Tryz.ntmps133
      go_wp2_with (first
        | (go_at_call 193; refine hN.mono ?_; rintro e w1 ⟨nv, rfl, ho, hb⟩; have hF := HF.out w1 nv hb (strsAt_of ho); have cc := C7.out w1 hb; clear ho)
        | (go_at_call 202; refine hF.mono ?_; rintro e w2 ⟨rfl, rfl⟩; clear hF))
      refine bodyPost_ret (results_tmp3 rfl _ _ _) rfl ?_
      exact ⟨by rw [hr.out]; rfl, hb⟩
end Go.Proofs.YtdidjdoifpfmmaaGreatDoor
