import Derived.Test.YtdidjdoifpfmmaaGreatDoorGT22
import Derived.Test.YtdidjdoifpfmmaaGreatDoorTailV
import Derived.Test.YtdidjdoifpfmmaaGreatDoorGT17
/- Disks that are blank, and disks with the head alone. -/
namespace Go.Proofs.YtdidjdoifpfmmaaGreatDoor
open Go.RowKit
def blankD (n : Nat) : Dk := ⟨List.replicate n zero64, [], 0, false⟩
def headD (n : Nat) : Dk := ⟨superT n :: List.replicate (n - 1) zero64, [], 0, false⟩
theorem tick_none (S : Dk) (h : S.fuse = 0) : S.tick = S := by unfold Dk.tick; rw [if_pos h]
theorem flushOf_up (S : Dk) (h : S.fuse = 0) (hd : S.down = false) : flushOf S = ({ S with safe := S.seen, wait := [] }, 0) := by
  unfold flushOf
  rw [tick_none S h, if_neg (by simp [hd])]
theorem writeOf_up (S : Dk) (k : Nat) (d : ByteArray) (h : S.fuse = 0) (hd : S.down = false) : writeOf S k d = ({ S with wait := S.wait ++ [(k, d)] }, 0) := by
  unfold writeOf
  rw [tick_none S h, if_neg (by simp [hd])]
theorem wipeF_zeros (S : Dk) : ∀ (f i : Nat), (∀ j, i ≤ j → j < i + f → S.seen.getD j ByteArray.empty = zero64) → wipeF S f i = flushOf S := by
  intro f
  induction f with
  | zero => intro i _; rfl
  | succ f ih =>
    intro i h
    unfold wipeF
    rw [if_pos (h i (Nat.le_refl _) (by omega))]
    exact ih (i + 1) (fun j h1 h2 => h j (by omega) (by omega))
theorem blank_seen (n : Nat) : (blankD n).seen = List.replicate n zero64 := rfl
theorem head_seen (n : Nat) : (headD n).seen = superT n :: List.replicate (n - 1) zero64 := rfl
theorem blank_at (n j : Nat) (h : j < n) : (List.replicate n zero64).getD j ByteArray.empty = zero64 := by
  rw [List.getD_eq_getElem?_getD, List.getElem?_replicate, if_pos h]
  rfl
theorem head_at (n j : Nat) (h1 : 1 ≤ j) (h : j < n) : (headD n).seen.getD j ByteArray.empty = zero64 := by
  rw [head_seen]
  obtain ⟨k, rfl⟩ : ∃ k, j = k + 1 := ⟨j - 1, by omega⟩
  rw [List.getD_cons_succ]
  exact blank_at (n - 1) k (by omega)
theorem blank_ok (n : Nat) (h : 0 < n) (h2 : n ≤ 4096) : (blankD n).Ok := by
  refine ⟨by simpa [blankD] using h, by simpa [blankD] using h2, ?_, ?_, ?_⟩
  · intro x hx; rw [List.eq_of_mem_replicate hx]; exact zero64_size
  · intro x hx; cases hx
  · exact Nat.zero_le _
theorem head_len (n : Nat) (h : 0 < n) : (headD n).safe.length = n := by
  show (superT n :: List.replicate (n - 1) zero64).length = n
  simp
  omega
theorem blank_len (n : Nat) : (blankD n).safe.length = n := by
  show (List.replicate n zero64).length = n
  simp
theorem head_ok (n : Nat) (h : 0 < n) (h2 : n ≤ 4096) : (headD n).Ok := by
  refine ⟨by rw [head_len n h]; exact h, by rw [head_len n h]; exact h2, ?_, ?_, ?_⟩
  · intro x hx
    rcases List.mem_cons.1 hx with rfl | hx
    · exact superT_size n
    · rw [List.eq_of_mem_replicate hx]; exact zero64_size
  · intro x hx; cases hx
  · exact Nat.zero_le _
theorem wipe_head (n : Nat) (h : 0 < n) : wipeOf (headD n) 1 = (headD n, 0) := by
  unfold wipeOf
  rw [head_len n h, wipeF_zeros _ _ _ (fun j h1 h2 => head_at n j h1 (by omega)), flushOf_up _ rfl rfl]
  rfl
theorem wipe_blank (n : Nat) : wipeOf (blankD n) 0 = (blankD n, 0) := by
  unfold wipeOf
  rw [blank_len, wipeF_zeros (blankD n) _ _ (fun j h1 h2 => blank_at n j (by omega)), flushOf_up _ rfl rfl]
  rfl
theorem rep_cons (n : Nat) (h : 0 < n) : List.replicate n zero64 = zero64 :: List.replicate (n - 1) zero64 := by
  obtain ⟨k, rfl⟩ : ∃ k, n = k + 1 := ⟨n - 1, by omega⟩
  rfl
theorem wipe_head_all (n : Nat) (h : 0 < n) : wipeOf (headD n) 0 = (blankD n, 0) := by
  unfold wipeOf
  rw [head_len n h, show n - 0 = (n - 1) + 1 by omega]
  unfold wipeF
  split
  · rename_i he
    have he' : superT n = zero64 := he
    rw [wipeF_zeros _ _ _ (fun j h1 h2 => head_at n j h1 (by omega)), flushOf_up _ rfl rfl]
    show (({ safe := superT n :: List.replicate (n - 1) zero64, wait := [], fuse := 0, down := false } : Dk), 0) = _
    rw [he', ← rep_cons n h]
    rfl
  · rw [writeOf_up _ _ _ rfl rfl, if_neg (by simp)]
    have hs : ({ headD n with wait := (headD n).wait ++ [(0, zero64)] } : Dk).seen = List.replicate n zero64 := by
      show zero64 :: List.replicate (n - 1) zero64 = _
      rw [rep_cons n h]
    rw [wipeF_zeros _ _ _ (fun j h1 h2 => by rw [hs]; exact blank_at n j (by omega)), flushOf_up _ rfl rfl, hs]
    rfl
theorem head_made (n : Nat) (h : 0 < n) : flushOf (writeOf (blankD n) 0 (superT n)).1 = (headD n, 0) := by
  rw [writeOf_up _ _ _ rfl rfl, flushOf_up _ rfl rfl]
  have hs : ({ blankD n with wait := (blankD n).wait ++ [(0, superT n)] } : Dk).seen = superT n :: List.replicate (n - 1) zero64 := by
    show (List.replicate n zero64).set 0 (superT n) = _
    rw [rep_cons n h]
    rfl
  rw [hs]
  rfl
theorem format_blank (n : Nat) (h : 4 ≤ n) : formatOf (blankD n) = (headD n, 0) := by
  unfold formatOf
  rw [blank_len, if_neg (by omega), wipe_blank, if_neg (by simp), writeOf_up (blankD n) _ _ rfl rfl, if_neg (by simp), ← writeOf_up (blankD n) _ _ rfl rfl, head_made n (by omega)]
theorem format_head (n : Nat) (h : 4 ≤ n) : formatOf (headD n) = (headD n, 0) := by
  unfold formatOf
  rw [head_len n (by omega), if_neg (by omega), wipe_head_all n (by omega), if_neg (by simp), writeOf_up (blankD n) _ _ rfl rfl, if_neg (by simp), ← writeOf_up (blankD n) _ _ rfl rfl, head_made n (by omega)]
theorem format_small (S : Dk) (h : S.safe.length < 4) : formatOf S = (S, 1) := by unfold formatOf; rw [if_pos h]
theorem superT_ne (n : Nat) : zero64 ≠ superT n := by
  intro h
  have h1 := congrArg (fun t => t.data.toList.headD 0) h
  have h2 : zero64.data.toList.headD 0 = 0 := by decide +kernel
  have h3 : (superT n).data.toList.headD 0 = 97 := by
    unfold superT paddedOf superHead
    simp only [ByteArray.data_append, Array.toList_append]
    rfl
  simp only [h2, h3] at h1
  exact absurd h1 (by decide)
end Go.Proofs.YtdidjdoifpfmmaaGreatDoor
/- The program's next and records where no record stands. -/
namespace Go.Proofs.YtdidjdoifpfmmaaGreatDoor
open Go.RowKit
def recZero : Value := .agg #[.int .i64 0, .int .u8 0, .string ⟨#[]⟩]
theorem results_cct {fn : Func} {p q u : Tmp} {s t : TypeId} (h : fn.results = #[.cell p s, .cell q t, .tmp u]) (tmps : Array Value) (w : World) {a b : Nat} {x y : Value} (hp : tmps.getD p undef = .pointer (some ⟨a, 0, none⟩)) (hq : tmps.getD q undef = .pointer (some ⟨b, 0, none⟩)) (hx : (loadVar s ⟨a, 0, none⟩).run Tryz.prog w = .ok x w) (hy : (loadVar t ⟨b, 0, none⟩).run Tryz.prog w = .ok y w) :
    (results fn tmps).run Tryz.prog w = .ok (.tuple #[x, y, tmps.getD u undef]) w := by
  have hp' : tmps[p]?.getD undef = .pointer (some ⟨a, 0, none⟩) := by simpa using hp
  have hq' : tmps[q]?.getD undef = .pointer (some ⟨b, 0, none⟩) := by simpa using hq
  simp [results, h, hp', hq', asAddr, hx, hy]
/-- What a record's first sector says: how many bytes, of which kind. -/
def hdrLen (z : ByteArray) : Nat := (z.data.toList.getD 0 0).toNat * 256 + (z.data.toList.getD 1 0).toNat
def hdrKind (z : ByteArray) : Nat := (z.data.toList.getD 2 0).toNat
theorem or_hdr (x y : Nat) (hx : x < 256) (hy : y < 256) : bits .or .i64 (wrap64 (wrap64 (x : Int) * 256)) (wrap64 (y : Int)) = ((x * 256 + y : Nat) : Int) := by
  have e1 : wrap64 (x : Int) = (x : Int) := by unfold wrap64; omega
  have e2 : wrap64 ((x : Int) * 256) = ((x * 256 : Nat) : Int) := by unfold wrap64; omega
  have e3 : wrap64 (y : Int) = (y : Int) := by unfold wrap64; omega
  rw [e1, e2, e3, i64_or_nat _ _ (by omega) (by omega)]
  have := Nat.two_pow_add_eq_or_of_lt (i := 8) (b := y) (by simpa using hy) x
  rw [show x * 256 = 2 ^ 8 * x by omega, ← this]
theorem get_list (z : ByteArray) (k : Nat) (h : k < z.size) : z.data.toList.getD k 0 = z[k] := by
  rw [List.getD_eq_getElem?_getD, List.getElem?_eq_getElem (by rw [size_list]; exact h)]
  rfl
set_option maxRecDepth 100000 in
set_option maxHeartbeats 2000000 in
theorem devNext_bad {w : World} {d : DP} {S : Dk} (h : DevAt w d S) (ok : S.Ok) (at_ num crc : Nat) (ha : at_ < S.safe.length) (z : ByteArray) (hz : S.seen.getD at_ ByteArray.empty = z) (hz2 : z.size = 64) (hbad : 1000 < hdrLen z ∨ hdrKind z < 1 ∨ 4 < hdrKind z) :
    Calls Tryz.prog 151 #[tailV at_ num crc, .pointer (some ⟨d.p, 0, none⟩)] w fun e w' => e = .returned (.tuple #[recZero, tailV at_ num crc, .bool false]) ∧ DevAt w' d S ∧ Fr w w' [d.p] := by
  have hmost := ok.most
  have b0 : Below w.heap.size w (((w.alloc (.cells #[.int .i64 (at_ : Nat), .int .u32 (num : Nat), .int .u32 (crc : Nat)] 117)).alloc (.cells #[.int .i64 0, .int .u8 0, .string ⟨#[]⟩] 257)).alloc (.cells #[.int .i64 0, .int .u32 0, .int .u32 0] 117)) := (((Below.refl _ _).alloc (Nat.le_refl _) _).alloc (by simp) _).alloc (by simp; omega) _
  have c := devRead_any (h.below b0) ok at_ ha
  rw [hz] at c
  have hor : Hid (∀ (h0 : 0 < z.size) (h1 : 1 < z.size), bits BinOp.or IntKind.i64 (wrap64 (wrap64 ((z[0]'h0).toNat : Int) * 256)) (wrap64 ((z[1]'h1).toNat : Int)) = ((hdrLen z : Nat) : Int)) := fun h0 h1 => by
    rw [or_hdr _ _ (UInt8.toNat_lt _) (UInt8.toNat_lt _)]
    unfold hdrLen
    rw [get_list z 0 h0, get_list z 1 h1]
  have hki : Hid (∀ (h2 : 2 < z.size), (z[2]'h2).toNat = hdrKind z) := fun h2 => by unfold hdrKind; rw [get_list z 2 h2]
  have hpl : d.p < w.heap.size := h.row.lt
  have hk8 : hdrKind z < 256 := UInt8.toNat_lt _
  generalize hdrLen z = n at *
  generalize hdrKind z = k at *
  unfold tailV
  go_enter Tryz.func151, Tryz.ntmps151
  go_wp2_with (go_at_call 84; refine c.mono ?_; rintro e w2 ⟨rfl, h2, f2⟩)
  go_region
  rw [hor.out, hki.out]
  have q : RowIs w2 w.heap.size 117 [.int .i64 (at_ : Nat), .int .u32 (num : Nat), .int .u32 (crc : Nat)] ∧ RowIs w2 (w.heap.size + 1) 257 [.int .i64 0, .int .u8 0, .string ⟨#[]⟩] ∧ RowIs w2 (w.heap.size + 1 + 1) 117 [.int .i64 0, .int .u32 0, .int .u32 0] := by
    refine ⟨f2.row ⟨?_⟩ (by simp; omega), f2.row ⟨?_⟩ (by simp; omega), f2.row ⟨?_⟩ (by simp; omega)⟩
    · rw [heap_alloc_old _ _ (by simp; omega), heap_alloc_old _ _ (by simp)]; exact heap_alloc_new _ _
    · have := heap_alloc_new (w.alloc (.cells #[.int .i64 (at_ : Nat), .int .u32 (num : Nat), .int .u32 (crc : Nat)] 117)) (.cells #[.int .i64 0, .int .u8 0, .string ⟨#[]⟩] 257)
      rw [show (w.alloc (.cells #[.int .i64 (at_ : Nat), .int .u32 (num : Nat), .int .u32 (crc : Nat)] 117)).heap.size = w.heap.size + 1 by simp] at this
      rw [heap_alloc_old _ _ (by simp)]; exact this
    · have := heap_alloc_new ((w.alloc (.cells #[.int .i64 (at_ : Nat), .int .u32 (num : Nat), .int .u32 (crc : Nat)] 117)).alloc (.cells #[.int .i64 0, .int .u8 0, .string ⟨#[]⟩] 257)) (.cells #[.int .i64 0, .int .u32 0, .int .u32 0] 117)
      rw [show ((w.alloc (.cells #[.int .i64 (at_ : Nat), .int .u32 (num : Nat), .int .u32 (crc : Nat)] 117)).alloc (.cells #[.int .i64 0, .int .u8 0, .string ⟨#[]⟩] 257)).heap.size = w.heap.size + 1 + 1 by simp] at this
      exact this
  have HF : Hid (Fr w w2 [d.p]) := ((((Fr.refl w [d.p]).alloc _).alloc _).alloc _).trans f2 (fun x hx _ => hx)
  have HD : Hid _ := h2
  have HN : Hid (∀ b ∈ d.blocks, b ∉ [w.heap.size + 1, w.heap.size + 1 + 1]) := fun b hb hm => by
    have := h.lt b hb
    simp at hm
    omega
  clear h2 f2 c h
  have n01 : w.heap.size ≠ w.heap.size + 1 := by omega
  have n02 : w.heap.size ≠ w.heap.size + 1 + 1 := by omega
  have n12 : w.heap.size + 1 ≠ w.heap.size + 1 + 1 := by omega
  have HG : Hid (w.heap.size ≤ w.heap.size + 1 ∧ w.heap.size ≤ w.heap.size + 1 + 1) := ⟨by omega, by omega⟩
  generalize w.heap.size + 1 + 1 = B2 at *
  generalize w.heap.size + 1 = B1 at *
  generalize hB0 : w.heap.size = B0 at *
  obtain ⟨q0, q1, q2⟩ := q
  have a0 : w2.cell? ⟨B0, 0, none⟩ = some (.int .i64 (at_ : Nat)) := q0.cell 0
  have a1 : w2.cell? ⟨B0, 1, none⟩ = some (.int .u32 (num : Nat)) := q0.cell 1
  have a2 : w2.cell? ⟨B0, 2, none⟩ = some (.int .u32 (crc : Nat)) := q0.cell 2
  have c0 : w2.cell? ⟨B1, 0, none⟩ = some (.int .i64 0) := q1.cell 0
  have c1 : w2.cell? ⟨B1, 1, none⟩ = some (.int .u8 0) := q1.cell 1
  have c2 : w2.cell? ⟨B1, 2, none⟩ = some (.string ⟨#[]⟩) := q1.cell 2
  have d0 : w2.cell? ⟨B2, 0, none⟩ = some (.int .i64 0) := q2.cell 0
  have d1 : w2.cell? ⟨B2, 1, none⟩ = some (.int .u32 0) := q2.cell 1
  have d2 : w2.cell? ⟨B2, 2, none⟩ = some (.int .u32 0) := q2.cell 2
  have f10 := q1.frozen 0
  have f11 := q1.frozen 1
  have f12 := q1.frozen 2
  have f20 := q2.frozen 0
  have f21 := q2.frozen 1
  have f22 := q2.frozen 2
  have HQ : Hid _ := q1
  have HQ2 : Hid _ := q2
  clear q1 q2 q0
  have kk : (1000 : Int) < (n : Int) ∨ (¬ (1000 : Int) < (n : Int) ∧ (k : Int) < 1) ∨ (¬ (1000 : Int) < (n : Int) ∧ ¬ (k : Int) < 1 ∧ (4 : Int) < (k : Int)) := by omega
  rcases kk with k1 | ⟨k1, k2⟩ | ⟨k1, k2, k3⟩
  all_goals
    go_wp2
    go_region
    go_wp2
    have r1 := (((HQ.out.set 0 (.int .i64 0)).set 1 (.int .u8 0)).set 2 (.string ⟨#[]⟩))
    have r1' := ((r1.other (a := ⟨B2, 0, none⟩) (.int .i64 (at_ : Nat)) n12).other (a := ⟨B2, 1, none⟩) (.int .u32 (num : Nat)) n12).other (a := ⟨B2, 2, none⟩) (.int .u32 (crc : Nat)) n12
    have r2 := ((((HQ2.out.other (a := ⟨B1, 0, none⟩) (.int .i64 0) n12.symm).other (a := ⟨B1, 1, none⟩) (.int .u8 0) n12.symm).other (a := ⟨B1, 2, none⟩) (.string ⟨#[]⟩) n12.symm).set 0 (.int .i64 (at_ : Nat))).set 1 (.int .u32 (num : Nat))
    have r2' := r2.set 2 (.int .u32 (crc : Nat))
    refine bodyPost_ret (results_cct Tryz.results151 _ _ rfl rfl (run_loadVar_row _ _ _ _ _ _ _ r1'.drew.drew.heap Tryz.underlying257 rfl (by kernel_rfl)) (run_loadVar_row _ _ _ _ _ _ _ r2'.drew.drew.heap Tryz.underlying117 rfl (by kernel_rfl))) rfl ?_
    refine ⟨rfl, ?_, ?_⟩
    · refine HD.out.fr (bs := [B1, B2]) (((((((((Fr.refl _ _).setCell _ _ (.inl (by simp))).setCell _ _ (.inl (by simp))).setCell _ _ (.inl (by simp))).setCell _ _ (.inl (by simp))).setCell _ _ (.inl (by simp))).setCell _ _ (.inl (by simp))).drew).drew) (HN.out)
    · refine (((((((HF.out.setCell _ _ (.inr ?_)).setCell _ _ (.inr ?_)).setCell _ _ (.inr ?_)).setCell _ _ (.inr ?_)).setCell _ _ (.inr ?_)).setCell _ _ (.inr ?_)).drew).drew
      all_goals first | exact hB0 ▸ HG.out.1 | exact hB0 ▸ HG.out.2
theorem hdr_zero : hdrKind zero64 = 0 := by decide +kernel
theorem devNext_zero {w : World} {d : DP} {S : Dk} (h : DevAt w d S) (ok : S.Ok) (at_ num crc : Nat) (ha : at_ < S.safe.length) (hz : S.seen.getD at_ ByteArray.empty = zero64) :
    Calls Tryz.prog 151 #[tailV at_ num crc, .pointer (some ⟨d.p, 0, none⟩)] w fun e w' => e = .returned (.tuple #[recZero, tailV at_ num crc, .bool false]) ∧ DevAt w' d S ∧ Fr w w' [d.p] :=
  devNext_bad h ok at_ num crc ha zero64 hz zero64_size (.inr (.inl (by rw [hdr_zero]; decide)))
end Go.Proofs.YtdidjdoifpfmmaaGreatDoor
/- The program's records where no record stands. -/
namespace Go.Proofs.YtdidjdoifpfmmaaGreatDoor
open Go.RowKit
theorem recInfo : (Tryz.prog.info? 257).map (fun i => (i.zero, i.size)) = some (some recZero, 3) := by kernel_rfl
set_option maxRecDepth 100000 in
set_option maxHeartbeats 2000000 in
theorem devRecords_none {w : World} {d : DP} {S : Dk} (h : DevAt w d S) (ok : S.Ok) (tk : Value) (h1 : 1 < S.safe.length) (hz : S.seen.getD 1 ByteArray.empty = zero64) :
    Calls Tryz.prog 86 #[.pointer (some ⟨d.p, 0, none⟩), tk] w fun e w' => e = .returned (tailV 1 1 (superSum S.safe.length)) ∧ DevAt w' d S ∧ Fr w w' [d.p] := by
  have hmost := ok.most
  have hpl : d.p < w.heap.size := h.row.lt
  have HS : Hid (∀ w1, Below w.heap.size w w1 → Calls Tryz.prog 62 #[.pointer (some ⟨d.p, 0, none⟩)] w1 fun e w' => e = .returned (.int .i64 (S.safe.length : Nat)) ∧ w1 = w') := fun w1 hb => devSectors_any (h.below hb) ok
  have HT : Hid (∀ w1, Calls Tryz.prog 150 #[.int .i64 (S.safe.length : Nat)] w1 fun e w' => e = .returned (tailV 1 1 (superSum S.safe.length)) ∧ Below w1.heap.size w1 w') := fun w1 => devStart S.safe.length hmost w1
  have HN : Hid (∀ w1, Below w.heap.size w w1 → Calls Tryz.prog 151 #[tailV 1 1 (superSum S.safe.length), .pointer (some ⟨d.p, 0, none⟩)] w1 fun e w' => e = .returned (.tuple #[recZero, tailV 1 1 (superSum S.safe.length), .bool false]) ∧ DevAt w' d S ∧ Fr w1 w' [d.p]) := fun w1 hb => devNext_zero (h.below hb) ok 1 1 _ h1 hz
  have HL : Hid _ := h.lt
  generalize superSum S.safe.length = sc at *
  unfold tailV recZero at *
  have r0 := RowIs.new w 117 [.int .i64 0, .int .u32 0, .int .u32 0]
  have b0 : Below w.heap.size w (w.alloc (.cells #[.int .i64 0, .int .u32 0, .int .u32 0] 117)) := (Below.refl _ _).alloc (Nat.le_refl _) _
  have hS := HS.out _ b0
  clear h
  go_enter Tryz.func86, Tryz.ntmps86
  go_wp2_with (first
    | (go_at_call 62; refine hS.mono ?_; rintro e w1 ⟨rfl, rfl⟩)
    | (go_at_call 150; refine (HT.out _).mono ?_; rintro e w2 ⟨rfl, hb2⟩))
  have r1 : RowIs w2 w.heap.size 117 [.int .i64 0, .int .u32 0, .int .u32 0] := r0.below hb2 r0.lt
  have b2 : Below w.heap.size w w2 := b0.trans (hb2.mono b0.size)
  have r2 : RowIs (w2.alloc (.cells #[.int .i64 1, .int .u32 1, .int .u32 (sc : Nat)] 117)) w.heap.size 117 [.int .i64 0, .int .u32 0, .int .u32 0] := ⟨by rw [heap_alloc_old _ _ r1.lt]; exact r1.heap⟩
  have r3 := RowIs.new w2 117 [.int .i64 1, .int .u32 1, .int .u32 (sc : Nat)]
  have b3 : Below w.heap.size w (w2.alloc (.cells #[.int .i64 1, .int .u32 1, .int .u32 (sc : Nat)] 117)) := b2.alloc b2.size _
  have hne : w.heap.size ≠ w2.heap.size := by have := r1.lt; omega
  have hp2 : d.p < w2.heap.size := by have := b2.size; omega
  have hle : w.heap.size ≤ w2.heap.size := b2.size
  have r3' : RowIs (w2.alloc (.cells #[.int .i64 1, .int .u32 1, .int .u32 (sc : Nat)] 117)) w2.heap.size 117 [.int .i64 1, .int .u32 1, .int .u32 (sc : Nat)] := r3
  have hN := HN.out _ b3
  change Code.wp _ _ _ _ (w2.alloc (.cells #[.int .i64 1, .int .u32 1, .int .u32 (sc : Nat)] 117))
  generalize w2.alloc (.cells #[.int .i64 1, .int .u32 1, .int .u32 (sc : Nat)] 117) = WA at r2 r3' b3 hN ⊢
  clear r3 HS HT HN hS r0 b0 r1 hb2 b2
  generalize w2.heap.size = B1 at *
  have HX : Hid (w.heap.size ≤ w.heap.size) := Nat.le_refl _
  have HW : Hid _ := b3
  clear b3
  have t0 : WA.cell? ⟨B1, 0, none⟩ = some (.int .i64 1) := r3'.cell 0
  have t1 : WA.cell? ⟨B1, 1, none⟩ = some (.int .u32 1) := r3'.cell 1
  have t2 : WA.cell? ⟨B1, 2, none⟩ = some (.int .u32 (sc : Nat)) := r3'.cell 2
  go_loopw [6, 7, 8] (fun _ _ _ wr => wr = WA) (fun _ _ _ _ => 0)
  case atStart => rfl
  case round =>
    subst hrel
    have HR2 : Hid _ := r2
    have HR3 : Hid _ := r3'
    clear r2 r3'
    go_wp2_with (go_at_call 151; refine hN.mono ?_; rintro e w3 ⟨rfl, h3, f3⟩; have g0 : Hid (RowIs ((w3.alloc (.cells #[.int .i64 0, .int .u8 0, .string ⟨#[]⟩] 257)).alloc (.cells #[.int .i64 1, .int .u32 1, .int .u32 (sc : Nat)] 117)) w.heap.size 117 [.int .i64 0, .int .u32 0, .int .u32 0]) := (f3.row HR2.out (by simp; omega)).below (((Below.refl _ w3).alloc (Nat.le_refl _) _).alloc (by simp) _) (f3.row HR2.out (by simp; omega)).lt; have g1 : Hid (RowIs ((w3.alloc (.cells #[.int .i64 0, .int .u8 0, .string ⟨#[]⟩] 257)).alloc (.cells #[.int .i64 1, .int .u32 1, .int .u32 (sc : Nat)] 117)) B1 117 [.int .i64 1, .int .u32 1, .int .u32 (sc : Nat)]) := (f3.row HR3.out (by simp; omega)).below (((Below.refl _ w3).alloc (Nat.le_refl _) _).alloc (by simp) _) (f3.row HR3.out (by simp; omega)).lt; have e0 := g1.out.cell 0; have e1 := g1.out.cell 1; have e2 := g1.out.cell 2; have o0 := g0.out.cell 0; have o1 := g0.out.cell 1; have o2 := g0.out.cell 2; have u0 := g0.out.frozen 0; have u1 := g0.out.frozen 1; have u2 := g0.out.frozen 2; dsimp only [List.getElem?_cons_zero, List.getElem?_cons_succ] at e0 e1 e2 o0 o1 o2)
    have r4 := (((g0.out.set 0 (.int .i64 1)).set 1 (.int .u32 1)).set 2 (.int .u32 (sc : Nat)))
    refine bodyPost_ret (results_cell_row (P := Tryz.prog) Tryz.results86 _ _ w.heap.size _ _ _ _ rfl r4.heap Tryz.underlying117 rfl (by kernel_rfl)) rfl ⟨rfl, ?_, ?_⟩
    · refine (h3.below (((Below.refl _ w3).alloc (Nat.le_refl _) _).alloc (by simp) _)).fr (bs := [w.heap.size]) ((((Fr.refl _ _).setCell _ _ (.inl (by simp))).setCell _ _ (.inl (by simp))).setCell _ _ (.inl (by simp))) (fun b hb hm => ?_)
      have := HL.out b hb
      have := List.mem_singleton.1 hm
      omega
    · exact ((((((Fr.of_below HW.out [d.p]).trans f3 (fun x hx _ => hx)).alloc _).alloc _).setCell _ _ (.inr (Nat.le_refl _))).setCell _ _ (.inr (Nat.le_refl _))).setCell _ _ (.inr (Nat.le_refl _))
end Go.Proofs.YtdidjdoifpfmmaaGreatDoor
/- The program's Mount where there is no archive, or the head alone. -/
namespace Go.Proofs.YtdidjdoifpfmmaaGreatDoor
open Go.RowKit
/-- An archive in the program's memory: its tree's root, its disk, the maps of its objects, its snapshots, where its records end, is it down? -/
def arcRow (root : Value) (p : Nat) (ms : List Nat) (sn : Value) (at_ num crc : Nat) (dn : Bool) : List Value := [root, .pointer (some ⟨p, 0, none⟩)] ++ mapsV ms ++ [sn, .int .i64 (at_ : Nat), .int .u32 (num : Nat), .int .u32 (crc : Nat), .bool dn]
set_option maxRecDepth 100000 in
set_option maxHeartbeats 2000000 in
theorem devMount_none {a : Nat → Addr} {w : World} {d : DP} {S : Dk} (G : Glob a w) (h : DevAt w d S) (hF : Far d) (ok : S.Ok) (hno : S.safe.length < 4 ∨ S.seen.getD 0 ByteArray.empty ≠ superT S.safe.length) :
    Calls Tryz.prog 45 #[.pointer (some ⟨d.p, 0, none⟩)] w fun e w' => e = .returned (.tuple #[.pointer none, errV a 2]) ∧ DevAt w' d S ∧ Fr w w' [d.p] := by
  have hmost := ok.most
  have hR := devRead_any h ok 0 ok.pos
  have HS : Hid (∀ w1, DevAt w1 d S → Calls Tryz.prog 62 #[.pointer (some ⟨d.p, 0, none⟩)] w1 fun e w' => e = .returned (.int .i64 (S.safe.length : Nat)) ∧ w1 = w') := fun w1 hd => devSectors_any hd ok
  have HH : Hid (∀ w1, Calls Tryz.prog 82 #[.int .i64 (S.safe.length : Nat)] w1 fun e w' => e = .returned (.string (superT S.safe.length)) ∧ Below w1.heap.size w1 w') := fun w1 => devHead S.safe.length hmost w1
  have HE : Hid (∀ w1, Fr w w1 [d.p] → w1.cell? ⟨2, 0, none⟩ = some (.iface 452 (.pointer (some (a 2))))) := fun w1 f1 => (G.fr f1 (by intro b hb; rw [List.mem_singleton.1 hb]; exact hF.p)).err 2 (by decide)
  unfold errV
  by_cases h4 : S.safe.length < 4
  · have h4' : (S.safe.length : Int) < 4 := by omega
    clear hno HH h
    go_enter Tryz.func45, Tryz.ntmps45
    go_wp2_with (first
      | (go_at_call 84; refine hR.mono ?_; rintro e w1 ⟨rfl, h1, f1⟩; have hS := HS.out w1 h1; have e2 := HE.out w1 f1)
      | (go_at_call 62; refine hS.mono ?_; rintro e w2 ⟨rfl, rfl⟩))
    go_region
    go_wp2
    refine bodyPost_ret (results_tmp2 rfl _ _ _) rfl ?_
    exact ⟨rfl, h1.fr (bs := []) ((Fr.refl _ _).drew) (by simp), f1.drew⟩
  · have h4' : ¬ (S.safe.length : Int) < 4 := by omega
    have hne : S.seen.getD 0 ByteArray.empty ≠ superT S.safe.length := hno.resolve_left h4
    generalize superT S.safe.length = st at *
    generalize S.seen.getD 0 ByteArray.empty = y at *
    have hb : (y.toList == st.toList) = false := by rw [str_beq, decide_eq_false hne]
    clear hno h
    go_enter Tryz.func45, Tryz.ntmps45
    go_wp2_with (first
      | (go_at_call 84; refine hR.mono ?_; rintro e w1 ⟨rfl, h1, f1⟩; have hS := HS.out w1 h1; have e2 := HE.out w1 f1)
      | (go_at_call 62; refine hS.mono ?_; rintro e w2 ⟨rfl, rfl⟩)
      | (go_at_call 82; refine (HH.out _).mono ?_; rintro e w3 ⟨rfl, hb3⟩; have f3 : Hid (Fr w w3 [d.p]) := f1.trans (Fr.of_below hb3 []) (fun x hx => nomatch hx); have e3 := HE.out w3 f3.out))
    go_region
    go_wp2
    refine bodyPost_ret (results_tmp2 rfl _ _ _) rfl ?_
    exact ⟨rfl, (h1.below hb3).fr (bs := []) ((Fr.refl _ _).drew) (by simp), f3.out.drew⟩
set_option maxRecDepth 100000 in
set_option maxHeartbeats 2000000 in
theorem devLastTree_none {w : World} {q : Nat} {x : Option Addr} {c : Nat} (c6 : w.cell? ⟨q, 6, none⟩ = some (.slice x 0 c)) :
    Calls Tryz.prog 88 #[.pointer (some ⟨q, 0, none⟩)] w fun e w' => ∃ v mb, e = .returned (.tuple #[v, .nilIface]) ∧ NewNode w w' v (some mb) ⟨#[]⟩ ∧ w.heap.size ≤ mb ∧ w'.ownsMap (H := Unit) Tryz.prog 9 nodeR mb 0 (.map []) ∧ Below w.heap.size w w' := by
  have cD := devNewDir w
  go_enter Tryz.func88, Tryz.ntmps88
  go_wp2_with (go_at_call 92; refine cD.mono ?_; rintro e w1 ⟨v, mb, rfl, h1, h2, h3, h4⟩)
  refine bodyPost_ret (results_tmp2 rfl _ _ _) rfl ?_
  exact ⟨v, mb, rfl, h1, h2, h3, h4⟩
end Go.Proofs.YtdidjdoifpfmmaaGreatDoor
/- The program's Mount where there is the head alone. -/
namespace Go.Proofs.YtdidjdoifpfmmaaGreatDoor
open Go.RowKit
theorem arcInfo : (Tryz.prog.info? 119).map (fun i => (i.zero, i.size, i.bytes)) = some (some (.agg #[.pointer none, .pointer none, .map none, .map none, .map none, .map none, .slice none 0 0, .int .i64 0, .int .u32 0, .int .u32 0, .bool false]), 11, 96) := by kernel_rfl
/-- A new archive of the program's, with no record. -/
def MountedDev (w w' : World) (d : DP) (S' : Dk) (sc : Nat) (q : Nat) : Prop :=
  ∃ (d' : DP) (ms : List Nat) (nb mb : Nat), ms.length = 4 ∧ DevAt w' d' S' ∧ d'.p = d.p ∧ (∀ b ∈ d'.blocks, b ∈ d.blocks ∨ w.heap.size ≤ b) ∧ Fr w w' d.blocks ∧
    RowIs w' q 119 (arcRow (.pointer (some ⟨nb, 0, none⟩)) d.p ms (.slice none 0 0) 1 1 sc false) ∧ NewMaps w' w.heap.size ms ∧
    w'.cell? ⟨nb, 0, none⟩ = some (.map (some mb)) ∧ w'.cell? ⟨nb, 1, none⟩ = some (.string ⟨#[]⟩) ∧ w'.ownsMap (H := Unit) Tryz.prog 9 nodeR mb 0 (.map []) ∧
    w.heap.size ≤ q ∧ w.heap.size ≤ nb ∧ w.heap.size ≤ mb ∧ q ∉ d'.blocks ∧ nb ∉ d'.blocks ∧ mb ∉ d'.blocks ∧ q ≠ nb ∧ q ≠ mb ∧ nb ≠ mb ∧ (∀ m ∈ ms, m ∉ d'.blocks ∧ m ≠ q ∧ m ≠ nb ∧ m ≠ mb)
theorem map_frS {w w' : World} {bs : List Nat} {b n : Nat} {D : DataW Unit} (h : w.ownsMap Tryz.prog 9 nodeR b n D) (f : Fr w w' bs) (hb : b ∉ bs) : w'.ownsMap Tryz.prog 9 nodeR b n D := by
  obtain ⟨es, clock, h1, h2⟩ := h
  exact ⟨es, clock, (f.block b (Array.getElem?_eq_some_iff.1 h1).1 hb).trans h1, h2⟩
set_option maxRecDepth 100000 in
set_option maxHeartbeats 2000000 in
theorem devMount_head {a : Nat → Addr} {w : World} {d : DP} {S : Dk} (G : Glob a w) (h : DevAt w d S) (hF : Far d) (ok : S.Ok) (hf : S.fuse ≤ 9223372036854775807) (hfew : S.wait.length ≤ 900000) (hG : 18 ≤ w.heap.size) (h4 : 4 ≤ S.safe.length) (h0 : S.seen.getD 0 ByteArray.empty = superT S.safe.length) (h1 : S.seen.getD 1 ByteArray.empty = zero64) (hc : (wipeOf S 1).2 = 0) :
    Calls Tryz.prog 45 #[.pointer (some ⟨d.p, 0, none⟩)] w fun e w' => ∃ q, e = .returned (.tuple #[.pointer (some ⟨q, 0, none⟩), .nilIface]) ∧ MountedDev w w' d (wipeOf S 1).1 (superSum S.safe.length) q := by
  have hmost := ok.most
  have hR := devRead_any h ok 0 ok.pos
  rw [h0] at hR
  have hfp : ∀ b ∈ [d.p], 18 ≤ b := by intro b hb; rw [List.mem_singleton.1 hb]; exact hF.p
  have HS : Hid (∀ w1, DevAt w1 d S → Calls Tryz.prog 62 #[.pointer (some ⟨d.p, 0, none⟩)] w1 fun e w' => e = .returned (.int .i64 (S.safe.length : Nat)) ∧ w1 = w') := fun w1 hd => devSectors_any hd ok
  have HH : Hid (∀ w1, Calls Tryz.prog 82 #[.int .i64 (S.safe.length : Nat)] w1 fun e w' => e = .returned (.string (superT S.safe.length)) ∧ Below w1.heap.size w1 w') := fun w1 => devHead S.safe.length hmost w1
  have HRec : Hid (∀ w1 tk, DevAt w1 d S → Calls Tryz.prog 86 #[.pointer (some ⟨d.p, 0, none⟩), tk] w1 fun e w' => e = .returned (tailV 1 1 (superSum S.safe.length)) ∧ DevAt w' d S ∧ Fr w1 w' [d.p]) := fun w1 tk hd => devRecords_none hd ok tk (by omega) h1
  have HW : Hid (∀ w1, DevAt w1 d S → Fr w w1 [d.p] → Calls Tryz.prog 80 #[.pointer (some ⟨d.p, 0, none⟩), .int .i64 1] w1 fun e w' => e = .returned .nilIface ∧ DevDone w1 w' d (wipeOf S 1).1) := fun w1 hd f1 => by
    have := devWipe_any (G.fr f1 hfp) hd hF ok hf hfew (Nat.le_trans hG f1.size) 1 (by omega)
    rw [hc, errOf_zero] at this
    exact this
  have HL : Hid _ := h.lt
  have hb0 : ((superT S.safe.length).toList == (superT S.safe.length).toList) = true := by simp
  have h4' : ¬ (S.safe.length : Int) < 4 := by omega
  clear h h0 h1 hc G
  generalize superT S.safe.length = st at *
  generalize superSum S.safe.length = sc at *
  generalize (wipeOf S 1).1 = S' at *
  unfold tailV at HRec
  obtain ⟨i0, hi, hz0, hz1, hz2⟩ := info_parts arcInfo
  go_enter Tryz.func45, Tryz.ntmps45
  go_wp2_with (first
    | (go_at_call 84; refine hR.mono ?_; rintro e w1 ⟨rfl, h1, f1⟩; have hS := HS.out w1 h1)
    | (go_at_call 62; refine hS.mono ?_; rintro e w2 ⟨rfl, rfl⟩)
    | (go_at_call 82; refine (HH.out _).mono ?_; rintro e w3 ⟨rfl, hb3⟩; have f3 : Hid (Fr w w3 [d.p]) := f1.trans (Fr.of_below hb3 []) (fun x hx => nomatch hx); have cN := devNewScan w3)
    | (go_at_call 85; refine cN.mono ?_; rintro e w4 ⟨ms, mx, b4, hl, rfl, r4, n4, hmx, hb4⟩; clear cN))
  obtain ⟨m0, m1, m2, m3, rfl⟩ : ∃ m0 m1 m2 m3, ms = [m0, m1, m2, m3] := by
    match ms, hl with
    | [m0, m1, m2, m3], _ => exact ⟨_, _, _, _, rfl⟩
  have f4 : Fr w w4 [d.p] := f3.out.trans (Fr.of_below hb4 []) (fun x hx => nomatch hx)
  have h4d : DevAt w4 d S := (h1.below hb3).below hb4
  have hRec := HRec.out w4 (.func (.func 87) #[.pointer (some ⟨b4, 0, none⟩)] #[]) h4d
  have hlow : Hid (∀ b, w3.heap.size ≤ b → b ∉ d.blocks) := fun b hb hm => by
    have := HL.out b hm
    have := f3.out.size
    omega
  have hw3 : Hid (w.heap.size ≤ w3.heap.size) := f3.out.size
  have hb4' : w3.heap.size ≤ b4 := by have := n4.far mx (by simp); omega
  have R4 : Hid _ := r4
  have N4 : Hid _ := n4
  have F4 : Hid _ := f4
  clear r4 n4 f4 HS HH hR hS h4d HRec f3 hb3 hb4 h1 f1
  go_wp2_with (first
    | (go_at_call 86; refine hRec.mono ?_; rintro e w5 ⟨rfl, h5, f5⟩; clear hRec; have F5 : Hid (Fr w (w5.alloc (.cells #[.int .i64 1, .int .u32 1, .int .u32 (sc : Nat)] 117)) [d.p]) := (F4.out.trans f5 (fun x hx _ => hx)).alloc _; have b5 : Below w5.heap.size w5 (w5.alloc (.cells #[.int .i64 1, .int .u32 1, .int .u32 (sc : Nat)] 117)) := (Below.refl _ _).alloc (Nat.le_refl _) _; have hWi := HW.out (w5.alloc (.cells #[.int .i64 1, .int .u32 1, .int .u32 (sc : Nat)] 117)) (h5.below b5) F5.out)
    | (go_at_call 80; refine hWi.mono ?_; rintro e w6 ⟨rfl, hd6⟩; clear hWi))
  obtain ⟨d6, a1, a2, a3, a4⟩ := hd6
  have s4 := F4.out.size
  have hw34 : w3.heap.size ≤ w4.heap.size := by have := N4.out.lt mx (by simp); have := R4.out.lt; omega
  have hw45 := f5.size
  have hpw : d.p < w.heap.size := HL.out _ (by simp [DP.blocks])
  have np : ∀ b, w3.heap.size ≤ b → b ∉ [d.p] := fun b hb hm => by
    have := List.mem_singleton.1 hm
    have := hw3.out
    omega
  have r5 := f5.row R4.out (np _ hb4')
  have r6 := a4.row (r5.below b5 r5.lt) (hlow.out _ hb4')
  have t6 := a4.row (RowIs.new w5 117 [.int .i64 1, .int .u32 1, .int .u32 (sc : Nat)]) (hlow.out _ (by omega))
  have n6 : NewMaps w6 w3.heap.size [m0, m1, m2, m3] := by
    have n4 : NewMaps w4 w3.heap.size [m0, m1, m2, m3] := ⟨fun m hm => N4.out.empty m (List.mem_append_left _ hm), fun m hm => N4.out.far m (List.mem_append_left _ hm), (List.pairwise_append.1 N4.out.apart).1⟩
    exact ((n4.fr f5 (fun m hm => np m (n4.far m hm))).fr (Fr.of_below b5 []) (by simp)).fr a4 (fun m hm => hlow.out m (n4.far m hm))
  have c0 : w6.cell? ⟨b4, 0, none⟩ = some (.map (some m0)) := r6.cell 0
  have c1 : w6.cell? ⟨b4, 1, none⟩ = some (.map (some m1)) := r6.cell 1
  have c2 : w6.cell? ⟨b4, 2, none⟩ = some (.map (some m2)) := r6.cell 2
  have c3 : w6.cell? ⟨b4, 3, none⟩ = some (.map (some m3)) := r6.cell 3
  have c5 : w6.cell? ⟨b4, 5, none⟩ = some (.slice none 0 0) := r6.cell 5
  have e0 : w6.cell? ⟨w5.heap.size, 0, none⟩ = some (.int .i64 1) := t6.cell 0
  have e1 : w6.cell? ⟨w5.heap.size, 1, none⟩ = some (.int .u32 1) := t6.cell 1
  have e2 : w6.cell? ⟨w5.heap.size, 2, none⟩ = some (.int .u32 (sc : Nat)) := t6.cell 2
  have hfin : Hid (w.heap.size ≤ w6.heap.size ∧ (∀ b ∈ d6.blocks, b ∈ d.blocks ∨ w.heap.size ≤ b) ∧ Fr w w6 d.blocks) := by
    have hs5 := b5.size
    refine ⟨by have := a4.size; have := hw3.out; omega, fun b hb => (a3 b hb).imp id (fun hx => by have := hw3.out; omega), ?_⟩
    exact (F5.out.wider (by simp [DP.blocks])).trans a4 (fun x hx _ => hx)
  have hd6b : Hid (∀ m ∈ [m0, m1, m2, m3], m ∉ d6.blocks) := fun m hm hx => by
    rcases a3 m hx with hq | hq
    · exact hlow.out m (n6.far m hm) hq
    · have := N4.out.lt m (List.mem_append_left _ hm)
      have := b5.size
      omega
  have A1 : Hid _ := a1
  have N6 : Hid _ := n6
  clear r6 t6 n6 a1 a3 a4 r5 f5 F5 b5 h5 R4 N4 F4
  have r7 : RowIs (w6.alloc (.cells #[.pointer none, .pointer (some ⟨d.p, 0, none⟩), .map (some m0), .map (some m1), .map (some m2), .map (some m3), .slice none 0 0, .int .i64 1, .int .u32 1, .int .u32 (sc : Nat), .bool false] 119)).drew w6.heap.size 119 (arcRow (.pointer none) d.p [m0, m1, m2, m3] (.slice none 0 0) 1 1 sc false) := (RowIs.new w6 119 (arcRow (.pointer none) d.p [m0, m1, m2, m3] (.slice none 0 0) 1 1 sc false)).drew
  have cL := devLastTree_none (q := w6.heap.size) (x := none) (c := 0) (w := (w6.alloc (.cells #[.pointer none, .pointer (some ⟨d.p, 0, none⟩), .map (some m0), .map (some m1), .map (some m2), .map (some m3), .slice none 0 0, .int .i64 1, .int .u32 1, .int .u32 (sc : Nat), .bool false] 119)).drew) (r7.cell 6)
  have b7 : Below w6.heap.size w6 (w6.alloc (.cells #[.pointer none, .pointer (some ⟨d.p, 0, none⟩), .map (some m0), .map (some m1), .map (some m2), .map (some m3), .slice none 0 0, .int .i64 1, .int .u32 1, .int .u32 (sc : Nat), .bool false] 119)).drew := ((Below.refl _ _).alloc (Nat.le_refl _) _).drew
  have hs7 : (w6.alloc (.cells #[.pointer none, .pointer (some ⟨d.p, 0, none⟩), .map (some m0), .map (some m1), .map (some m2), .map (some m3), .slice none 0 0, .int .i64 1, .int .u32 1, .int .u32 (sc : Nat), .bool false] 119)).drew.heap.size = w6.heap.size + 1 := by simp
  have R7 : Hid _ := r7
  have B7 : Hid _ := b7
  have S7 : Hid _ := hs7
  clear r7 b7 hs7
  go_region
  go_wp2_with (go_at_call 88; refine cL.mono ?_; rintro e w8 ⟨v, mb, rfl, ⟨nb, rfl, g1, g2, n0, n1⟩, g3, ho8, hb8⟩; clear cL; rw [S7.out] at g1 g3 hb8; have r8 : Hid (RowIs w8 w6.heap.size 119 (arcRow (.pointer none) d.p [m0, m1, m2, m3] (.slice none 0 0) 1 1 sc false)) := R7.out.below hb8 (by omega); have x0 : w8.cell? ⟨w6.heap.size, 0, none⟩ = some (.pointer none) := r8.out.cell 0; have y0 := r8.out.frozen 0)
  have hnm : nb ≠ mb := by
    rintro rfl
    obtain ⟨es, clock, q1, _⟩ := ho8
    simp [World.cell?, q1] at n0
  obtain ⟨k1, k2, k3⟩ := hfin.out
  have lt6 := A1.out.lt
  have ltm := N6.out.lt
  have B8 : Below w6.heap.size w6 w8 := B7.out.trans (hb8.mono (by omega))
  have f8 : Fr w8 (w8.setCell ⟨w6.heap.size, 0, none⟩ (.pointer (some ⟨nb, 0, none⟩))) [w6.heap.size] := (Fr.refl _ _).setCell _ _ (.inl (by simp))
  have ne6 : ∀ b, b < w6.heap.size → b ∉ [w6.heap.size] := fun b hb hm => by have := List.mem_singleton.1 hm; omega
  refine bodyPost_ret (results_tmp2 rfl _ _ _) rfl ⟨w6.heap.size, rfl, d6, [m0, m1, m2, m3], nb, mb, rfl, ?_, a2, k2, ?_, ?_, ?_, ?_, ?_, ?_, k1, by omega, by omega, ?_, ?_, ?_, by omega, by omega, hnm, ?_⟩
  · exact (A1.out.below B8).fr f8 (fun b hb => ne6 b (lt6 b hb))
  · exact (k3.trans (Fr.of_below B8 []) (by simp)).setCell _ _ (.inr k1)
  · exact r8.out.set 0 _
  · refine NewMaps.fr (bs := [w6.heap.size]) (NewMaps.fr (bs := []) ⟨N6.out.empty, fun m hm => Nat.le_trans hw3.out (N6.out.far m hm), N6.out.apart⟩ (Fr.of_below B8 []) (by simp)) f8 (fun m hm => ne6 m (ltm m hm))
  · exact cell_kept n0 (f8.block nb g2 (fun hm => by have := List.mem_singleton.1 hm; omega))
  · exact cell_kept n1 (f8.block nb g2 (fun hm => by have := List.mem_singleton.1 hm; omega))
  · exact map_frS ho8 f8 (fun hm => by have := List.mem_singleton.1 hm; omega)
  · exact fun hm => by have := lt6 _ hm; omega
  · exact fun hm => by have := lt6 _ hm; omega
  · exact fun hm => by have := lt6 _ hm; omega
  · exact fun m hm => ⟨hd6b.out m hm, by have := ltm m hm; omega, by have := ltm m hm; omega, by have := ltm m hm; omega⟩
end Go.Proofs.YtdidjdoifpfmmaaGreatDoor
/- The program's Write of the tree, where it writes. -/
namespace Go.Proofs.YtdidjdoifpfmmaaGreatDoor
open Go.RowKit
section
variable {a : Nat → Addr} {w w4 w5 : World} {q : Nat} {L : List It} {blk mblk : ByteArray → Nat}
theorem not_map {w : World} {p : ByteArray} (h : TreeAt w L blk mblk) (hd : IsDir L p) {b i : Nat} {v : Value} (c : w.cell? ⟨b, i, none⟩ = some v) : b ≠ mblk p := by
  rintro rfl
  obtain ⟨_, _, D', ⟨es, clock, h1, _⟩, _⟩ := h.dir p hd
  simp [World.cell?, h1] at c
theorem arc_set (h4 : ArcAt w4 q L blk mblk) (hB : Below w.heap.size w w4) {p n : ByteArray} (hn : isName (textOf n) = true) (hd : IsDir L p) {i : Nat} (hi : i < L.length) (hip : L[i].path = joinB p n) (hid : L[i].dir = false) {d : ByteArray} (hbig : ¬ 1536 < d.size) (f : Fr w4 w5 [mblk p]) (nb : Nat) (hnb : w.heap.size ≤ nb)
    (D : DataW Unit) (hh : ∀ k : ByteArray, Maps.has D (.string k.data.toList) = true ↔ k ∈ kidsFold p L) (ha : ∀ k ∈ kidsFold p L, ∀ z, D.atKey (.string k.data.toList) z = .lit (.int .i64 (blk (joinB p k) : Nat))) (hm : Maps.IsMap D) (m : Nat)
    (ho : w5.ownsMap Tryz.prog 9 nodeR (mblk p) m (D.put (.string n.data.toList) (.lit (.int .i64 (nb : Nat))))) (n0 : w4.cell? ⟨nb, 0, none⟩ = some (.map none)) (n1 : w4.cell? ⟨nb, 1, none⟩ = some (.string d)) : ArcDone w w5 q L (setDat L i d) blk mblk := by
  have ok' := h4.ok.setDat hi hid (d := d) (by omega)
  have nbm := not_map h4.tree hd n0
  have hb := f.block _ (World.block_lt_of_cell? _ _ n0) (by simpa using nbm)
  have hq := f.block _ (World.block_lt_of_cell? _ _ h4.root) (by simpa using not_map h4.tree hd h4.root)
  refine ⟨upd blk (joinB p n) nb, mblk, ⟨?_, h4.tree.setDat h4.ok hn hd hi hip hid ok' f nb D hh ha hm m ho ⟨cell_kept n0 hb, cell_kept n1 hb⟩, ok'⟩, blocks_setDat hnb, ?_⟩
  · rw [upd_other blk nb (fun e => joinB_ne p n hn e.symm)]
    exact cell_kept h4.root hq
  · exact (Fr.of_below hB _).trans f (fun y hy _ => by rw [List.mem_singleton.1 hy]; exact (mem_blk blk mblk hd).2)
theorem arc_snoc (h4 : ArcAt w4 q L blk mblk) (hB : Below w.heap.size w w4) {p n : ByteArray} (hn : isName (textOf n) = true) (hd : IsDir L p) (hno : n ∉ kidsFold p L) (hsz : (joinB p n).size ≤ 262144) (hl : L.length < 256) {dir : Bool} {d : ByteArray} (hbig : ¬ 1536 < d.size) (hdd : dir = true → d = ⟨#[]⟩) (f : Fr w4 w5 [mblk p]) (nb nm : Nat) (hnb : w.heap.size ≤ nb) (hnm : w.heap.size ≤ nm)
    (hnew : ∀ q, IsDir L q → mblk q ≠ nm)
    (D : DataW Unit) (hh : ∀ k : ByteArray, Maps.has D (.string k.data.toList) = true ↔ k ∈ kidsFold p L) (ha : ∀ k ∈ kidsFold p L, ∀ z, D.atKey (.string k.data.toList) z = .lit (.int .i64 (blk (joinB p k) : Nat))) (hm : Maps.IsMap D) (m : Nat)
    (ho : w5.ownsMap Tryz.prog 9 nodeR (mblk p) m (D.put (.string n.data.toList) (.lit (.int .i64 (nb : Nat)))))
    (hfile : dir = false → w4.cell? ⟨nb, 0, none⟩ = some (.map none) ∧ w4.cell? ⟨nb, 1, none⟩ = some (.string d))
    (hdir : dir = true → w4.cell? ⟨nb, 0, none⟩ = some (.map (some nm)) ∧ w4.cell? ⟨nb, 1, none⟩ = some (.string ⟨#[]⟩) ∧ ∃ m, w4.ownsMap (H := Unit) Tryz.prog 9 nodeR nm m (.map [])) : ArcDone w w5 q L (L ++ [⟨joinB p n, dir, d⟩]) blk mblk := by
  have ok' := h4.ok.snoc hn hd hno hsz hl dir d (by omega) hdd
  have hq := f.block _ (World.block_lt_of_cell? _ _ h4.root) (by simpa using not_map h4.tree hd h4.root)
  refine ⟨upd blk (joinB p n) nb, upd mblk (joinB p n) nm, ⟨?_, h4.tree.snoc h4.ok hn hd hno ok' f nb nm hnew D hh ha hm m ho ?_ ?_, ok'⟩, blocks_snoc hnb hnm, ?_⟩
  · rw [upd_other blk nb (fun e => joinB_ne p n hn e.symm)]
    exact cell_kept h4.root hq
  · intro e
    obtain ⟨n0, n1⟩ := hfile e
    have hb := f.block _ (World.block_lt_of_cell? _ _ n0) (by simpa using not_map h4.tree hd n0)
    exact ⟨cell_kept n0 hb, cell_kept n1 hb⟩
  · intro e
    obtain ⟨n0, n1, m', hm'⟩ := hdir e
    have hb := f.block _ (World.block_lt_of_cell? _ _ n0) (by simpa using not_map h4.tree hd n0)
    refine ⟨cell_kept n0 hb, cell_kept n1 hb, m', ?_⟩
    obtain ⟨es, clock, h1, h2⟩ := hm'
    have hlt : nm < w4.heap.size := (Array.getElem?_eq_some_iff.1 h1).1
    exact ⟨es, clock, (f.block _ hlt (by simp; exact fun e => hnew p hd e.symm)).trans h1, h2⟩
  · exact (Fr.of_below hB _).trans f (fun y hy _ => by rw [List.mem_singleton.1 hy]; exact (mem_blk blk mblk hd).2)
set_option maxRecDepth 100000 in
set_option maxHeartbeats 2000000 in
theorem devWrite_set (G : Glob a w) (h : ArcAt w q L blk mblk) (s d : ByteArray) (hs : s.size ≤ 1000000) (hbig : ¬ 1536 < d.size) (h0 : spotOf L s = 0) (p n : ByteArray) (hp : upJoin (namesOf s).1 = p) (hnn : (namesOf s).1 = (namesOf s).1.take ((namesOf s).1.length - 1) ++ [n]) (hn : isName (textOf n) = true) (hd : IsDir L p) (i : Nat) (hi : i < L.length) (hip : L[i].path = joinB p n) (hid : L[i].dir = false) :
    Calls Tryz.prog 95 #[.pointer (some ⟨q, 0, none⟩), .string s, .string d] w fun e w' => e = .returned .nilIface ∧ ArcDone w w' q L (setDat L i d) blk mblk := by
  have hlow : lowOk s := spot_zero h0
  have c := devBelow_ok G s hs hlow
  have ib : ¬ (1536 : Int) < (d.size : Int) := by omega
  rw [spot_low hlow] at h0
  have hfew := names_few s hlow.1
  have hmem : n ∈ kidsFold p L := (mem_kids h.ok p n).2 ⟨hn, L[i], List.getElem_mem hi, hip⟩
  clear hlow
  have HN : Hid _ := hnn
  have HI : Hid _ := hip
  clear hnn hip
  go_enter Tryz.func95, Tryz.ntmps95
  go_wp2_with (go_at_call 155; refine c.mono ?_; rintro e w1 ⟨v, rfl, h1, hb⟩; have hr' := (h.below hb).root)
  have h' := h.below hb
  have G' := G.up hb
  have cA := devAbove_ok h'.tree h'.ok a (namesOf s).1 n HN.out v h1 (names_are s) (by omega) (G'.err 5 (by decide)) (G'.err 6 (by decide)) h0
  rw [hp] at cA
  have HL : Hid _ := h'.look hn hd
  have HT : Hid (∀ w2, Below w1.heap.size w1 w2 → w2.cell? ⟨blk (joinB p n), 0, none⟩ = some (.map none)) := fun w2 hb2 => by
    have := ((h'.below hb2).tree.file _ (List.getElem_mem hi) hid).1
    rw [HI.out] at this
    exact this
  go_wp2_with (go_at_call 156; refine cA.mono ?_; rintro e w2 ⟨rfl, hb2⟩; obtain ⟨e0, ey, _⟩ := HL.out w2 hb2; have ey := ey hmem; have e1 := HT.out w2 hb2)
  have cD := devIsDir_any _ _ w2 e1
  have cN := devNewFile d w2 (by omega)
  go_wp2_with (first
    | (go_at_call 162; refine cD.mono ?_; rintro e w' ⟨rfl, rfl⟩)
    | (go_at_call 164; refine cN.mono ?_; rintro e w4 ⟨v4, rfl, ⟨nb, rfl, g1, g2, n0, n1⟩, hb4⟩))
  have h4 := (h'.below hb2).below hb4
  obtain ⟨c0, _, D, ho, hh, ha⟩ := h4.tree.dir p hd
  have hsz := dir_size h4.ok ho hh
  have hkf := kids_few h4.ok p
  have cP := devPut_any ho (by omega) c0 n (by have := name_size hn; omega) nb
  have hs1 := hb.size
  have hs2 := hb2.size
  go_wp2_with (go_at_call 91; refine cP.mono ?_; rintro e w5 ⟨rfl, ho5, f5⟩)
  go_ret
  exact ⟨rfl, arc_set h4 (hb.trans ((hb2.trans (hb4.mono hs2)).mono hs1)) hn hd hi HI.out hid hbig f5 nb (by omega) D hh ha ho.isMap _ ho5 n0 n1⟩
end
end Go.Proofs.YtdidjdoifpfmmaaGreatDoor
