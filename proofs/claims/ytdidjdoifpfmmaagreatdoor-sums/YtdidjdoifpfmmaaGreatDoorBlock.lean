import Derived.Test.YtdidjdoifpfmmaaGreatDoorBlockTwo
import Derived.Test.YtdidjdoifpfmmaaGreatDoorBlockThree
import Derived.Test.YtdidjdoifpfmmaaGreatDoorBlockFive
namespace Go.Proofs.YtdidjdoifpfmmaaGreatDoor
open Go.RowKit Digits

theorem below_grownB {w w3 w4 : World} {r : Option Nat} (hb : Below w.heap.size w w3) (hg : w3.grownBy w4 r) : w.grownBy w4 r :=
  ⟨hg.os.trans hb.os, hg.tape.trans hb.tape, hg.output.trans hb.output, Nat.le_trans hb.size hg.size, fun k hk hr => (hg.block k (Nat.lt_of_lt_of_le hk hb.size) hr).trans (hb.block k hk)⟩
/-- Under a name, so that no step writes them out. -/
def zeros64 : List Nat := List.replicate 64 0

set_option maxHeartbeats 4000000 in
set_option maxRecDepth 1000000 in
theorem block_any (K H : List Nat) (pm gk gh ck ch gs cs gp off cp : Nat) (s : St) (b : List Nat) (rest : List Value) (w : World) (hM : MakerAt w pm gk gh ck ch K H) (hs : RowIs w gs 3 (ints s.list ++ rest)) (ok : s.Ok) (hb : b.length = 64) (hd : ∀ x ∈ b, x < 256) (hp : BytesAt w gp off b) (hgp : gp < w.heap.size) (hK : ∀ x ∈ K, x < 4294967296) :
    Calls Tryz.prog 110 #[.pointer (some ⟨pm, 0, none⟩), .slice (some ⟨gs, 0, none⟩) 8 cs, .slice (some ⟨gp, off, none⟩) 64 cp] w fun e w' => e = .returned (.tuple #[]) ∧ RowIs w' gs 3 (ints (mix K s b) ++ rest) ∧ w.grownBy w' (some gs) := by
  have hmk : (Instr.makeSlice 34 (.int .i64 64) (.int .i64 64)).run Tryz.prog w = .ok (.slice (some ⟨w.heap.size, 0, none⟩) 64 64) (w.alloc (.cells (ints zeros64).toArray 3)) := makeInts w 64 (by decide)
  go_enter Tryz.func110, Tryz.ntmps110
  refine seq_at ?_
  go_wp2
  show Code.wp _ _ _ _ _
  clear hmk
  have h0 : RowIs (w.alloc (.cells (ints zeros64).toArray 3)) w.heap.size 3 (ints (List.replicate 64 0)) := RowIs.new _ _ _
  have hb0 : Below w.heap.size w (w.alloc (.cells (ints zeros64).toArray 3)) := (Below.refl _ _).alloc (Nat.le_refl _) _
  generalize w.alloc (.cells (ints zeros64).toArray 3) = W at h0 hb0 ⊢
  have hp0 : BytesAt W gp off b := fun j hj => (hb0.cell (p := ⟨gp, off + j, none⟩) hgp).trans (hp j hj)
  refine seq_at (one_any gp off cp w.heap.size b w.heap.size _ _ (Nat.le_refl _) hgp hb hd hp0 h0 ?_)
  refine fun y7 y30 y31 y32 y33 y34 y35 y36 y37 y38 y39 y40 y41 y42 y43 y44 y45 y46 y47 y48 y49 y50 y51 y52 y53 y54 y55 y56 y57 y58 y59 y60 y61 y62 y63 y64 y65 y66 y67 y68 y69 w1 h1 hb1 => ?_
  show Code.wp _ _ _ _ _
  refine seq_at (two_any w.heap.size b w.heap.size _ _ (Nat.le_refl _) hd h1 ?_)
  refine fun z8 z9 z10 z11 z12 z13 z14 z70 z71 z72 z73 z74 z75 z76 z77 z78 z79 z80 z81 z82 z83 z84 z85 z86 z87 z88 z89 z90 z91 z92 z93 z94 z95 z96 z97 z98 z99 z100 z101 z102 z103 z104 z105 z106 z107 z108 z109 z110 z111 z112 z113 z114 z115 z116 z117 z118 z119 z120 w2 h2 hb2 => ?_
  show Code.wp _ _ _ _ _
  have hb02 := hb0.trans (hb1.trans hb2)
  clear h0 h1 hb0 hb1 hb2 hp0 hp
  refine seq_at ?_
  have hA : RowIs (w2.alloc (.cells #[] 3)) gs 3 (ints s.list ++ rest) := hs.below (hb02.alloc (Nat.le_of_lt h2.lt) _) hs.lt
  have c0 : _ = some (Value.int .i64 (s.a : Int)) := hA.cell 0
  have c1 : _ = some (Value.int .i64 (s.b : Int)) := hA.cell 1
  have c2 : _ = some (Value.int .i64 (s.c : Int)) := hA.cell 2
  have c3 : _ = some (Value.int .i64 (s.d : Int)) := hA.cell 3
  have c4 : _ = some (Value.int .i64 (s.e : Int)) := hA.cell 4
  have c5 : _ = some (Value.int .i64 (s.f : Int)) := hA.cell 5
  have c6 : _ = some (Value.int .i64 (s.g : Int)) := hA.cell 6
  have c7 : _ = some (Value.int .i64 (s.h : Int)) := hA.cell 7
  clear hA
  go_wp2
  show Code.wp _ _ _ _ _
  clear c0 c1 c2 c3 c4 c5 c6 c7
  have hv : ∀ A : Array Value, RowIs ((w2.alloc (.cells #[] 3)).alloc (.cells (#[Value.int .i64 (s.a : Int), Value.int .i64 (s.b : Int), Value.int .i64 (s.c : Int), Value.int .i64 (s.d : Int), Value.int .i64 (s.e : Int), Value.int .i64 (s.f : Int), Value.int .i64 (s.g : Int), Value.int .i64 (s.h : Int)] ++ A) 3)).drew (w2.heap.size + 1) 3 (ints s.list ++ A.toList) := by
    intro A
    have h := (RowIs.new (w2.alloc (.cells #[] 3)) 3 (ints s.list ++ A.toList)).drew
    have e1 : (ints s.list ++ A.toList).toArray = #[Value.int .i64 (s.a : Int), Value.int .i64 (s.b : Int), Value.int .i64 (s.c : Int), Value.int .i64 (s.d : Int), Value.int .i64 (s.e : Int), Value.int .i64 (s.f : Int), Value.int .i64 (s.g : Int), Value.int .i64 (s.h : Int)] ++ A := by simp [ints, St.list]
    have e2 : (w2.alloc (.cells #[] 3)).heap.size = w2.heap.size + 1 := by simp
    rw [e1, e2] at h
    exact h
  have hbv : ∀ A : Array Value, Below w2.heap.size w2 ((w2.alloc (.cells #[] 3)).alloc (.cells (#[Value.int .i64 (s.a : Int), Value.int .i64 (s.b : Int), Value.int .i64 (s.c : Int), Value.int .i64 (s.d : Int), Value.int .i64 (s.e : Int), Value.int .i64 (s.f : Int), Value.int .i64 (s.g : Int), Value.int .i64 (s.h : Int)] ++ A) 3)).drew := by
    intro A
    have e2 : (w2.alloc (.cells #[] 3)).heap.size = w2.heap.size + 1 := by simp
    exact (((Below.refl _ _).alloc (Nat.le_refl _) _).alloc (by omega) _).drew
  generalize (Question.appendCap 8 0 3).cut (w2.tape w2.drawn (Question.appendCap 8 0 3)) = cc
  generalize Builtin.zeroCells #[Value.int .i64 0] (cc - 8) = A
  have hv0 := hv A
  have hbv0 := hbv A
  clear hv hbv
  generalize ((w2.alloc (.cells #[] 3)).alloc (.cells (#[Value.int .i64 (s.a : Int), Value.int .i64 (s.b : Int), Value.int .i64 (s.c : Int), Value.int .i64 (s.d : Int), Value.int .i64 (s.e : Int), Value.int .i64 (s.f : Int), Value.int .i64 (s.g : Int), Value.int .i64 (s.h : Int)] ++ A) 3)).drew = W2 at hv0 hbv0 ⊢
  generalize A.toList = z at hv0
  have hgv : w2.heap.size < w2.heap.size + 1 := Nat.lt_succ_self _
  generalize w2.heap.size + 1 = gv at hgv hv0 ⊢
  have hsz := hb02.size
  have hM2 := (hM.below hb02).below hbv0
  have lt1 := lt_of_cell hM.k
  have lt2 := lt_of_cell (hM.ks 0 (by decide))
  have lt3 := h2.lt
  have hR2 := h2.below hbv0 lt3
  refine seq_at (wp_at (three_any pm gk ck w.heap.size gv cc K (laid b 48) s z gv _ _ (Nat.le_refl _) (by simp at lt1; omega) (by simp at lt2; omega) (by omega) hM2.k hM2.ks hK (laid_len b 48 (Nat.le_refl _)) (laid_lt b hd 48) hR2 hv0 ok ?_))
  refine fun v16 v17 v18 v19 v20 v21 v22 v23 v24 v25 v26 v27 v124 v125 v126 v127 v128 v129 v130 v131 v132 v133 v134 v135 v136 v137 v138 v139 v140 v141 v142 v143 v144 v145 v146 v147 v148 v149 v150 v151 v152 v153 v154 v155 v156 v157 v158 v159 v160 v161 v162 v163 v164 v165 v166 v167 v168 v169 v170 v171 v172 v173 v174 v175 v176 v177 v178 v179 v180 v181 v182 v183 v184 v185 v186 v187 v188 v189 v190 v191 v192 v193 v194 v195 v196 v197 v198 v199 v200 v201 v202 v203 v204 v205 v206 v207 v208 v209 v210 v211 v212 v213 v214 v215 v216 v217 v218 v219 v220 v221 v222 v223 v224 v225 v226 v227 v228 v229 v230 v231 w3 h3 hb3 => ?_
  show Code.wp _ _ _ _ _
  have hb23 : Below w.heap.size w w3 := hb02.trans ((hbv0.mono hsz).trans (hb3.mono (by omega)))
  have hmix : Hid (mix K s b = addW s.list (St.run K (laid b 48) s 64).list) := rfl
  have ok2 := ok.run K (laid b 48) 64
  generalize St.run K (laid b 48) s 64 = t at h3 ok2 hmix
  have hH := hs.below hb23 hs.lt
  have lt4 := hs.lt
  refine wp_at (five_any gs cs gv cc s t rest z _ _ (by omega) ok ok2 hH h3 ?_)
  refine fun u28 u232 u233 u234 u235 u236 u237 u238 u239 u240 u241 u242 u243 u244 u245 u246 u247 u248 w4 h4 hg4 => ?_
  show bodyPost _ _ _ _ _ _
  go_end0
  exact ⟨rfl, by rw [hmix.out]; exact h4, below_grownB hb23 hg4⟩
end Go.Proofs.YtdidjdoifpfmmaaGreatDoor
