import Derived.Test.YtdidjdoifpfmmaaGreatDoorRefCD
namespace Go.Proofs.YtdidjdoifpfmmaaGreatDoor
open Go.RowKit

set_option maxHeartbeats 4000000 in
set_option maxRecDepth 100000 in
theorem refSum_any (K H : List Nat) (pm gk gh ck ch : Nat) (t : ByteArray) (ht : t.size ≤ 1000000) (w : World) (hM : MakerAt w pm gk gh ck ch K H) (hK : ∀ x ∈ K, x < 4294967296) (hH : ∀ x ∈ H, x < 4294967296) :
    Calls Tryz.prog 66 #[.pointer (some ⟨pm, 0, none⟩), .string t] w fun e w' => e = .returned (.string (sumOf K (ofList H) (textOf t))) ∧ Below w.heap.size w w' := by
  obtain ⟨i0, hi, hz0, hz1, hz2⟩ := info_parts u8InfoR
  have hlT := textOf_len t
  obtain ⟨W1, c1, hcv, hO, hb1⟩ : ∃ W1 c, (convert 9 124 (.string t)).run Tryz.prog w = .ok (.slice (some ⟨w.heap.size, 0, none⟩) t.size c) W1 ∧ OwnsM W1 w.heap.size 5 (.slice (some ⟨w.heap.size, 0, none⟩) t.size c) (bytes (textOf t)) ∧ Below w.heap.size w W1 :=
    ⟨_, _, run_bytes_of_string (P := Tryz.prog) w 9 124 5 t Tryz.underlying9 Tryz.underlying124 Tryz.underlying5, by rw [← bytes_textOf]; exact ownsM_bytes w w.heap.size 5 t (Nat.le_refl _) (by unfold maxLen; omega), (Below.refl _ _).drew.alloc (Nat.le_refl _) _⟩
  go_enter Tryz.func66, Tryz.ntmps66
  refine seq_at ?_
  go_wp2
  show Code.wp _ _ _ _ _
  refine seq_at ?_
  go_wp2_with (at_builtin; refine wpList_append_ownM _ rfl _ _ 124 rfl w.heap.size 5 i0 (.int .u8 0) 1 Tryz.underlying124 hi hz0 hz1 hz2 rfl _ _ rfl (hO.alloc _) ⟨W1.heap.size, 0, none⟩ 1 (.int .u8 128) rfl (by simp) rfl (by rw [bytes_length]; unfold maxLen; omega) (by rw [bytes_length]; omega) (by have := hb1.size; simp; omega) ?_; intro v2 w2 hO2 hgrow)
  show Code.wp _ _ _ _ _
  have hb2 : Below w.heap.size w w2 := (hb1.alloc hb1.size _).grown hgrow (by have := hb1.size; simp; omega) (fun r hr => ownsM_block hO hr)
  have hA : OwnsM w2 w.heap.size 5 v2 (bytes (padA (textOf t) 0)) := by
    rw [show padA (textOf t) 0 = textOf t ++ [128] by simp [padA], ← bytes_snoc]
    exact hO2
  clear hO hO2 hgrow hcv hb1
  refine wp_seq_k ?_
  intro KA hKA
  have HKA : Hid _ := hKA
  clear hKA
  refine wp_block ?_
  go_loopw [5] (fun p wr => ∃ k : Nat, k ≤ zerosOf t.size ∧ OwnsM wr w.heap.size 5 p (bytes (padA (textOf t) k)) ∧ Below w.heap.size w wr) (fun p _ => match p with | .slice _ l _ => t.size + 66 - l | _ => 0)
  case atStart => exact ⟨0, Nat.zero_le _, hA, hb2⟩
  case round =>
    clear hA hb2
    obtain ⟨k, hk, hA, hb⟩ := hrel
    have hlen : (bytes (padA (textOf t) k)).length = t.size + 1 + k := by rw [bytes_length, padA_len, hlT]
    have hz64 : zerosOf t.size < 64 := Nat.mod_lt _ (by decide)
    obtain ⟨g, cap, rfl, hg1, hg2, hg3, hg4, _⟩ := hA.cell
    have hA2 := hA
    rw [hlen] at hA2 hg3 ⊢
    by_cases hlt : k < zerosOf t.size
    · have hne : ¬ ((t.size + 1 + k : Nat) : Int) % 64 = 56 := by unfold zerosOf at hlt hk; omega
      have hOs : OwnsM wr w.heap.size 5 (.slice (some ⟨g, 0, none⟩) (t.size + 1 + k) cap) (bytes (padA (textOf t) k)) := hA2
      have hst : Hid (bytes (padA (textOf t) k) ++ [.int .u8 0] = bytes (padA (textOf t) (k + 1))) := by
        show _ = _
        rw [← padA_step, ← bytes_snoc]; rfl
      have hlen2 : (bytes (padA (textOf t) (k + 1))).length = t.size + 1 + (k + 1) := by rw [bytes_length, padA_len, hlT]
      clear hA hA2 HKA
      go_wp2_with (at_builtin; refine wpList_append_ownM _ rfl _ _ 124 rfl w.heap.size 5 i0 (.int .u8 0) 1 Tryz.underlying124 hi hz0 hz1 hz2 rfl _ _ rfl (hOs.alloc _) ⟨wr.heap.size, 0, none⟩ 1 (.int .u8 0) rfl (by simp) rfl (by rw [hlen]; unfold maxLen; omega) (by rw [hlen]; omega) (by have := hb.size; simp; omega) ?_; intro v3 w3 hO3 hgrow; have hb3 : Below w.heap.size w w3 := (hb.alloc hb.size _).grown hgrow (by have := hb.size; simp; omega) (fun r hr => ownsM_block hOs hr); rw [hst.out] at hO3)
      obtain ⟨g3, cap3, rfl, _⟩ := hO3.cell
      refine ⟨⟨k + 1, by omega, hO3, hb3⟩, ?_⟩
      show t.size + 66 - (bytes (padA (textOf t) (k + 1))).length < t.size + 66 - (t.size + 1 + k)
      rw [hlen2]
      omega
    · have ek : k = zerosOf t.size := by omega
      have hne : ((t.size + 1 + k : Nat) : Int) % 64 = 56 := by unfold zerosOf at ek; omega
      go_wp2
      refine HKA.out _ _ ?_
      clear HKA
      rw [ek] at hA2 ⊢
      clear ek hne hlt hk hA hlen hg3
      refine seq_at (wp_at (sumB_any t g cap w.heap.size wr _ ht hb.size hA2 ?_))
      refine fun y5 y6 y22 y23 y24 y25 y26 y27 y28 y29 y30 y31 y32 y33 y34 y35 y36 w3 hP hb3 => ?_
      show Code.wp _ _ _ _ _
      have hbw3 := hb.trans hb3
      obtain ⟨g2, cap2, rfl, k1, k2, k3, k4, kc⟩ := hP.cell
      have hlP := pad_len (textOf t)
      rw [hlT] at hlP
      have kp : BytesAt w3 g2 0 (pad (textOf t)) := fun j hj => by
        rw [Nat.zero_add, kc j (by rw [bytes_length]; exact hj), bytes_get _ _ hj]
      rw [bytes_length, hlP] at k3 ⊢
      have hbn : blocksOf t.size ≤ 100000 := by unfold blocksOf; omega
      clear hP kc hA2 hb hb3 hz64 hg1 hg2 hg4
      have hM3 := hM.below hbw3
      have lt1 : pm < w.heap.size := lt_of_cell hM.k
      have lt2 : gk < w.heap.size := lt_of_cell (hM.ks 0 (by decide))
      have lt3 : gh < w.heap.size := lt_of_cell (hM.hs 0 (by decide))
      have hsz3 := hbw3.size
      have dP := pad_lt (textOf t) (textOf_lt t)
      have ok0 := ofList_ok H hH
      have hsum : Hid (sumOf K (ofList H) (textOf t) = text (outs (stAt K (ofList H) (pad (textOf t)) (blocksOf t.size)).list)) := by
        show _ = _
        unfold sumOf
        rw [hlT]
      have hM4 := hM3.below ((Below.refl _ _).alloc (Nat.le_refl _) (.cells #[] 3))
      have mh := hM4.h
      obtain ⟨s0, hs0⟩ : ∃ s0, ofList H = s0 := ⟨_, rfl⟩
      have c0 : (w3.alloc (.cells #[] 3)).cell? ⟨gh, 0, none⟩ = some (Value.int .i64 (s0.a : Int)) := by rw [← hs0]; exact hM4.hs 0 (by decide)
      have c1 : (w3.alloc (.cells #[] 3)).cell? ⟨gh, 1, none⟩ = some (Value.int .i64 (s0.b : Int)) := by rw [← hs0]; exact hM4.hs 1 (by decide)
      have c2 : (w3.alloc (.cells #[] 3)).cell? ⟨gh, 2, none⟩ = some (Value.int .i64 (s0.c : Int)) := by rw [← hs0]; exact hM4.hs 2 (by decide)
      have c3 : (w3.alloc (.cells #[] 3)).cell? ⟨gh, 3, none⟩ = some (Value.int .i64 (s0.d : Int)) := by rw [← hs0]; exact hM4.hs 3 (by decide)
      have c4 : (w3.alloc (.cells #[] 3)).cell? ⟨gh, 4, none⟩ = some (Value.int .i64 (s0.e : Int)) := by rw [← hs0]; exact hM4.hs 4 (by decide)
      have c5 : (w3.alloc (.cells #[] 3)).cell? ⟨gh, 5, none⟩ = some (Value.int .i64 (s0.f : Int)) := by rw [← hs0]; exact hM4.hs 5 (by decide)
      have c6 : (w3.alloc (.cells #[] 3)).cell? ⟨gh, 6, none⟩ = some (Value.int .i64 (s0.g : Int)) := by rw [← hs0]; exact hM4.hs 6 (by decide)
      have c7 : (w3.alloc (.cells #[] 3)).cell? ⟨gh, 7, none⟩ = some (Value.int .i64 (s0.h : Int)) := by rw [← hs0]; exact hM4.hs 7 (by decide)
      rw [hs0] at ok0 hsum
      have HS0 : Hid (ofList H = s0) := hs0
      have HM3 : Hid _ := hM3
      clear hM4 hs0 hM3 hM
      refine seq_at ?_
      go_wp2
      show Code.wp _ _ _ _ _
      clear c0 c1 c2 c3 c4 c5 c6 c7 mh
      have hv : ∀ A : Array Value, RowIs ((w3.alloc (.cells #[] 3)).alloc (.cells (#[Value.int .i64 (s0.a : Int), Value.int .i64 (s0.b : Int), Value.int .i64 (s0.c : Int), Value.int .i64 (s0.d : Int), Value.int .i64 (s0.e : Int), Value.int .i64 (s0.f : Int), Value.int .i64 (s0.g : Int), Value.int .i64 (s0.h : Int)] ++ A) 3)).drew (w3.heap.size + 1) 3 (ints s0.list ++ A.toList) := by
        intro A
        have h := (RowIs.new (w3.alloc (.cells #[] 3)) 3 (ints s0.list ++ A.toList)).drew
        have e1 : (ints s0.list ++ A.toList).toArray = #[Value.int .i64 (s0.a : Int), Value.int .i64 (s0.b : Int), Value.int .i64 (s0.c : Int), Value.int .i64 (s0.d : Int), Value.int .i64 (s0.e : Int), Value.int .i64 (s0.f : Int), Value.int .i64 (s0.g : Int), Value.int .i64 (s0.h : Int)] ++ A := by simp [ints, St.list]
        have e2 : (w3.alloc (.cells #[] 3)).heap.size = w3.heap.size + 1 := by simp
        rw [e1, e2] at h
        exact h
      have hbv : ∀ A : Array Value, Below w3.heap.size w3 ((w3.alloc (.cells #[] 3)).alloc (.cells (#[Value.int .i64 (s0.a : Int), Value.int .i64 (s0.b : Int), Value.int .i64 (s0.c : Int), Value.int .i64 (s0.d : Int), Value.int .i64 (s0.e : Int), Value.int .i64 (s0.f : Int), Value.int .i64 (s0.g : Int), Value.int .i64 (s0.h : Int)] ++ A) 3)).drew := by
        intro A
        have e2 : (w3.alloc (.cells #[] 3)).heap.size = w3.heap.size + 1 := by simp
        exact (((Below.refl _ _).alloc (Nat.le_refl _) _).alloc (by omega) _).drew
      generalize (Question.appendCap 8 0 3).cut (w3.tape w3.drawn (Question.appendCap 8 0 3)) = cc
      generalize Builtin.zeroCells #[Value.int .i64 0] (cc - 8) = A
      have hv0 := hv A
      have hbv0 := hbv A
      clear hv hbv
      generalize ((w3.alloc (.cells #[] 3)).alloc (.cells (#[Value.int .i64 (s0.a : Int), Value.int .i64 (s0.b : Int), Value.int .i64 (s0.c : Int), Value.int .i64 (s0.d : Int), Value.int .i64 (s0.e : Int), Value.int .i64 (s0.f : Int), Value.int .i64 (s0.g : Int), Value.int .i64 (s0.h : Int)] ++ A) 3)).drew = W2 at hv0 hbv0 ⊢
      generalize A.toList = z at hv0
      have hgv : w3.heap.size < w3.heap.size + 1 := Nat.lt_succ_self _
      generalize w3.heap.size + 1 = gv at hgv hv0 ⊢
      have hM5 := HM3.out.below hbv0
      have kp5 : BytesAt W2 g2 0 (pad (textOf t)) := fun j hj => (hbv0.cell (p := ⟨g2, 0 + j, none⟩) k2).trans (kp j hj)
      refine seq_at (wp_at (sumC_any K H pm gk gh ck ch g2 cap2 gv cc (blocksOf t.size) (pad (textOf t)) s0 z W2 _ hM5 hK kp5 hlP dP k3 k4 hbn (Nat.lt_of_lt_of_le k2 hbv0.size) hv0 ok0 (by omega) (by omega) (by omega) (by omega) ?_))
      refine fun z8 z43 z44 z45 z46 z47 z48 z49 z50 z51 z52 z53 z54 z55 z56 w4 hs4 hg4 => ?_
      show Code.wp _ _ _ _ _
      have hbW : Below w.heap.size w W2 := hbw3.trans (hbv0.mono hsz3)
      have hb4 : Below w.heap.size w w4 := hbW.grown hg4 hbW.size (fun r hr => by simp at hr; omega)
      have ok4 := stAt_ok K s0 (pad (textOf t)) ok0 (blocksOf t.size)
      generalize stAt K s0 (pad (textOf t)) (blocksOf t.size) = st at hs4 ok4 hsum
      refine seq_at ?_
      go_wp2
      show Code.wp _ _ _ _ _
      refine seq_at (wp_at (sumD_any gv cc st z w4 _ hs4 ok4 ?_))
      refine fun u1 u9 u10 u57 u58 u59 u60 u61 u62 u63 u64 u65 u66 u67 u68 w5 hy hb5 => ?_
      subst hy
      show Code.wp _ _ _ _ _
      obtain ⟨X, hX⟩ : ∃ X, Hid (text (outs st.list) = X) := ⟨_, rfl⟩
      rw [hX.out]
      go_wp2
      go_ret
      exact ⟨by rw [HS0.out, hsum.out, hX.out]; rfl, hb4.trans (hb5.mono hb4.size)⟩
end Go.Proofs.YtdidjdoifpfmmaaGreatDoor
