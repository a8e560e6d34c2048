import Derived.Test.YtdidjdoifpfmmaaGreatDoorOf
namespace Go.Proofs.YtdidjdoifpfmmaaGreatDoor
open Go.RowKit

theorem outs_lt (l : List Nat) : ∀ x ∈ outs l, x < 256 := by
  intro x hx
  simp only [outs, List.mem_flatMap] at hx
  obtain ⟨y, _, hy⟩ := hx
  exact fourOf_lt y x hy

set_option maxHeartbeats 1000000 in
set_option maxRecDepth 100000 in
theorem sumDev_any (K : List Nat) (hK : K.length = 64) (dK : ∀ x ∈ K, x < 4294967296) (s0 : St) (ok0 : s0.Ok) (t : ByteArray) (ht : t.size ≤ 1000000) (w : World) (hR : GlobAt w 14 K) (hS : GlobAt w 13 s0.list) :
    Calls Tryz.prog 65 #[.string t] w fun e w' => e = .returned (.string (sumOf K s0 (textOf t))) ∧ Below w.heap.size w w' := by
  have hO := of_any K hK dK s0 ok0 t ht w hR hS
  have hdef : Hid (sumOf K s0 (textOf t) = text (outs (stAt K s0 (pad (textOf t)) (blocksOf t.size)).list)) := by
    show _ = _
    unfold sumOf
    rw [textOf_len]
  have hlO := outs_len (stAt K s0 (pad (textOf t)) (blocksOf t.size))
  have hlt := outs_lt (stAt K s0 (pad (textOf t)) (blocksOf t.size)).list
  generalize outs (stAt K s0 (pad (textOf t)) (blocksOf t.size)).list = O at hO hdef hlO hlt
  have hszO : (Tryz.prog.info? 121).map (·.size) = some (bytes O).toArray.size := by rw [List.size_toArray, bytes_length, hlO]; kernel_rfl
  have hzO : Hid ((32 : Nat) = (bytes O).toArray.size) := by show _ = _; rw [List.size_toArray, bytes_length, hlO]
  have honeO := bytes_one O
  have HLT : Hid _ := hlt
  have HLO : Hid _ := hlO
  clear hlt hlO
  go_enter Tryz.func65, Tryz.ntmps65
  refine seq_at ?_
  go_wp2
  show Code.wp _ _ _ _ _
  refine seq_at ?_
  go_wp2_with (first | (go_at_call 109; refine hO.mono ?_; rintro e w1 ⟨rfl, hb1⟩) | (refine wpList_store_row rfl 121 _ _ rfl w1.heap.size _ rfl rfl _ _ (heap_alloc_new w1 _) hszO hzO.out honeO ?_))
  show Code.wp _ _ _ _ ((w1.alloc (.cells (bytes (List.replicate 32 0)).toArray 121)).setRow w1.heap.size (bytes O).toArray)
  have r1 : RowIs ((w1.alloc (.cells (bytes (List.replicate 32 0)).toArray 121)).setRow w1.heap.size (bytes O).toArray) w1.heap.size 121 (bytes O ++ []) := by rw [List.append_nil]; exact (RowIs.new w1 121 (bytes (List.replicate 32 0))).setRow _
  have hb2 : Below w1.heap.size w1 ((w1.alloc (.cells (bytes (List.replicate 32 0)).toArray 121)).setRow w1.heap.size (bytes O).toArray) := ((Below.refl _ _).alloc (Nat.le_refl _) _).setRow _ (Nat.le_refl _)
  generalize (w1.alloc (.cells (bytes (List.replicate 32 0)).toArray 121)).setRow w1.heap.size (bytes O).toArray = W1 at r1 hb2 ⊢
  have hcv := back_any (P := Tryz.prog) 124 9 5 Tryz.underlying124 Tryz.underlying5 Tryz.underlying9 W1 w1.heap.size 32 _ O [] r1 HLT.out
  rw [HLO.out] at hcv
  obtain ⟨T, hT⟩ : ∃ T, Hid (text O = T) := ⟨_, rfl⟩
  rw [hT.out] at hcv
  clear r1 hszO honeO
  go_wp2
  go_ret
  exact ⟨by rw [hdef.out, hT.out]; rfl, hb1.trans (hb2.mono hb1.size)⟩
end Go.Proofs.YtdidjdoifpfmmaaGreatDoor
