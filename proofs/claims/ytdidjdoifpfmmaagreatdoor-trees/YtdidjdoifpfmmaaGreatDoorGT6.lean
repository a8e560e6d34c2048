import Derived.Test.YtdidjdoifpfmmaaGreatDoorGT3
import Derived.Test.YtdidjdoifpfmmaaGreatDoorGT5
import Derived.Laws.IdiomStrings
import Derived.Test.YtdidjdoifpfmmaaGreatDoorGT1
import Derived.BigRegion
/- A text, filled up to whole blocks; the sum over its blocks: plain mathematics. -/
namespace Go.Proofs.YtdidjdoifpfmmaaGreatDoor

def zerosOf (n : Nat) : Nat := (119 - n % 64) % 64
def lenByte (n i : Nat) : Nat := 8 * n / 2 ^ (8 * (7 - i)) % 256
def lenBytes (n k : Nat) : List Nat := (List.range k).map (lenByte n)
theorem lenBytes_len (n k : Nat) : (lenBytes n k).length = k := by simp [lenBytes]
theorem lenBytes_succ (n k : Nat) : lenBytes n (k + 1) = lenBytes n k ++ [lenByte n k] := by simp [lenBytes, List.range_succ]
theorem lenByte_lt (n i : Nat) : lenByte n i < 256 := Nat.mod_lt _ (by decide)
def pad (l : List Nat) : List Nat := l ++ [128] ++ List.replicate (zerosOf l.length) 0 ++ lenBytes l.length 8
def blocksOf (n : Nat) : Nat := (n + 72) / 64
theorem pad_len (l : List Nat) : (pad l).length = 64 * blocksOf l.length := by
  simp only [pad, List.length_append, List.length_replicate, lenBytes_len, List.length_cons, List.length_nil, zerosOf, blocksOf]
  omega
theorem lenBytes_lt (n k : Nat) : ∀ x ∈ lenBytes n k, x < 256 := by
  intro x hx
  simp only [lenBytes, List.mem_map] at hx
  obtain ⟨i, _, rfl⟩ := hx
  exact lenByte_lt n i
theorem pad_lt (l : List Nat) (h : ∀ x ∈ l, x < 256) : ∀ x ∈ pad l, x < 256 := by
  intro x hx
  simp only [pad, List.mem_append, List.mem_replicate, List.mem_singleton] at hx
  rcases hx with ((hx | hx) | hx) | hx
  · exact h x hx
  · omega
  · omega
  · exact lenBytes_lt _ _ x hx

def ofList (l : List Nat) : St := ⟨l.getD 0 0, l.getD 1 0, l.getD 2 0, l.getD 3 0, l.getD 4 0, l.getD 5 0, l.getD 6 0, l.getD 7 0⟩
theorem mix_list (K : List Nat) (s : St) (b : List Nat) : (ofList (mix K s b)).list = mix K s b := rfl
theorem ofList_ok (l : List Nat) (h : ∀ x ∈ l, x < 4294967296) : (ofList l).Ok := ⟨getD_lt32 l h 0, getD_lt32 l h 1, getD_lt32 l h 2, getD_lt32 l h 3, getD_lt32 l h 4, getD_lt32 l h 5, getD_lt32 l h 6, getD_lt32 l h 7⟩
theorem mix_ok (K : List Nat) (s : St) (b : List Nat) : (ofList (mix K s b)).Ok := ⟨Nat.mod_lt _ (by decide), Nat.mod_lt _ (by decide), Nat.mod_lt _ (by decide), Nat.mod_lt _ (by decide), Nat.mod_lt _ (by decide), Nat.mod_lt _ (by decide), Nat.mod_lt _ (by decide), Nat.mod_lt _ (by decide)⟩
def blockAt (P : List Nat) (n : Nat) : List Nat := (P.drop (64 * n)).take 64
def stAt (K : List Nat) (s : St) (P : List Nat) : Nat → St
  | 0 => s
  | n + 1 => ofList (mix K (stAt K s P n) (blockAt P n))
theorem stAt_ok (K : List Nat) (s : St) (P : List Nat) (h : s.Ok) : ∀ n, (stAt K s P n).Ok
  | 0 => h
  | _ + 1 => mix_ok _ _ _
theorem blockAt_len (P : List Nat) (n : Nat) (h : 64 * n + 64 ≤ P.length) : (blockAt P n).length = 64 := by simp [blockAt]; omega
theorem blockAt_lt (P : List Nat) (n : Nat) (h : ∀ x ∈ P, x < 256) : ∀ x ∈ blockAt P n, x < 256 := fun x hx => h x (List.mem_of_mem_drop (List.mem_of_mem_take hx))
theorem blockAt_get (P : List Nat) (n j : Nat) (h : j < 64) : (blockAt P n).getD j 0 = P.getD (64 * n + j) 0 := by
  simp [blockAt, List.getD_eq_getElem?_getD, h]
theorem stAt_congr (K : List Nat) (s : St) (P Q : List Nat) : ∀ n, (∀ k, k < n → blockAt P k = blockAt Q k) → stAt K s P n = stAt K s Q n
  | 0, _ => rfl
  | n + 1, h => by
    unfold stAt
    rw [stAt_congr K s P Q n (fun k hk => h k (by omega)), h n (by omega)]

/-- The whole blocks of a text are those of the padded one. -/
theorem blockAt_pad (l : List Nat) (n : Nat) (h : 64 * n + 64 ≤ l.length) : blockAt (pad l) n = blockAt l n := by
  unfold blockAt pad
  rw [List.append_assoc, List.append_assoc, List.drop_append_of_le_length (by omega), List.take_append_of_le_length (by simp; omega)]

/-- The last block, where the length has room in it. -/
theorem blockAt_last (l r : List Nat) (q : Nat) (hr : r = l.drop (64 * q)) (hq : 64 * q + r.length = l.length) (h : r.length < 56) : blockAt (pad l) q = r ++ [128] ++ List.replicate (55 - r.length) 0 ++ lenBytes l.length 8 := by
  unfold blockAt pad
  have hz : zerosOf l.length = 55 - r.length := by unfold zerosOf; omega
  rw [hz, List.append_assoc, List.append_assoc, List.drop_append_of_le_length (by omega), ← hr, List.append_assoc, List.append_assoc]
  apply List.take_of_length_le
  simp [lenBytes_len]; omega
/-- The last two, where it has none. -/
theorem blockAt_full (l r : List Nat) (q : Nat) (hr : r = l.drop (64 * q)) (hq : 64 * q + r.length = l.length) (h : 56 ≤ r.length) (h2 : r.length < 64) : blockAt (pad l) q = r ++ [128] ++ List.replicate (63 - r.length) 0 ∧ blockAt (pad l) (q + 1) = List.replicate 56 0 ++ lenBytes l.length 8 := by
  have hz : zerosOf l.length = (63 - r.length) + 56 := by unfold zerosOf; omega
  have hp : (pad l).drop (64 * q) = (r ++ [128] ++ List.replicate (63 - r.length) 0) ++ (List.replicate 56 0 ++ lenBytes l.length 8) := by
    unfold pad
    rw [hz, ← List.replicate_append_replicate, List.append_assoc, List.append_assoc, List.drop_append_of_le_length (by omega), ← hr]
    simp only [List.append_assoc]
  have hl : (r ++ [128] ++ List.replicate (63 - r.length) 0).length = 64 := by simp; omega
  constructor
  · unfold blockAt
    rw [hp, List.take_append_of_le_length (by omega), List.take_of_length_le (by omega)]
  · unfold blockAt
    rw [show 64 * (q + 1) = 64 * q + 64 by omega, ← List.drop_drop, hp, List.drop_append_of_le_length (by omega), List.drop_eq_nil_of_le (by omega), List.nil_append]
    apply List.take_of_length_le
    simp [lenBytes_len]

/-- The four bytes of a word, the high one first. -/
def fourOf (x : Nat) : List Nat := [x / 16777216 % 256, x / 65536 % 256, x / 256 % 256, x % 256]
def outs (l : List Nat) : List Nat := l.flatMap fourOf
def text (l : List Nat) : ByteArray := ⟨(l.map UInt8.ofNat).toArray⟩
theorem text_append (l m : List Nat) : text l ++ text m = text (l ++ m) := by
  apply ByteArray.ext
  simp [text]
theorem text_nil : text [] = ByteArray.empty := rfl
/-- What a text's sum says. -/
def sumOf (K : List Nat) (s : St) (l : List Nat) : ByteArray := text (outs (stAt K s (pad l) (blocksOf l.length)).list)
end Go.Proofs.YtdidjdoifpfmmaaGreatDoor
namespace Go.Proofs.YtdidjdoifpfmmaaGreatDoor
open Go.RowKit

/-- The bytes of a sum, as far as they are laid. -/
def outTo (l : List Nat) (n : Nat) : List Nat := (outs l).take n ++ List.replicate (32 - n) 0
theorem outs_len (s : St) : (outs s.list).length = 32 := rfl
theorem outTo_len (s : St) (n : Nat) (h : n ≤ 32) : (outTo s.list n).length = 32 := by simp [outTo, outs_len]; omega
theorem outs_get (s : St) (n : Nat) (h : n < 32) : (outs s.list).getD n 0 = s.list.getD (n / 4) 0 / 2 ^ (24 - 8 * (n % 4)) % 256 := by
  obtain rfl | rfl | rfl | rfl | rfl | rfl | rfl | rfl | rfl | rfl | rfl | rfl | rfl | rfl | rfl | rfl | rfl | rfl | rfl | rfl | rfl | rfl | rfl | rfl | rfl | rfl | rfl | rfl | rfl | rfl | rfl | rfl : n = 0 ∨ n = 1 ∨ n = 2 ∨ n = 3 ∨ n = 4 ∨ n = 5 ∨ n = 6 ∨ n = 7 ∨ n = 8 ∨ n = 9 ∨ n = 10 ∨ n = 11 ∨ n = 12 ∨ n = 13 ∨ n = 14 ∨ n = 15 ∨ n = 16 ∨ n = 17 ∨ n = 18 ∨ n = 19 ∨ n = 20 ∨ n = 21 ∨ n = 22 ∨ n = 23 ∨ n = 24 ∨ n = 25 ∨ n = 26 ∨ n = 27 ∨ n = 28 ∨ n = 29 ∨ n = 30 ∨ n = 31 := by omega
  all_goals simp [outs, fourOf, St.list]
theorem outTo_step (s : St) (n : Nat) (h : n < 32) : (outTo s.list n).set n (s.list.getD (n / 4) 0 / 2 ^ (24 - 8 * (n % 4)) % 256) = outTo s.list (n + 1) := by
  rw [← outs_get s n h]
  have hl : ((outs s.list).take n).length = n := by simp [outs_len]; omega
  have hg : (outs s.list).take (n + 1) = (outs s.list).take n ++ [(outs s.list).getD n 0] := by
    rw [List.take_succ_eq_append_getElem (by rw [outs_len]; exact h)]
    simp [List.getD_eq_getElem?_getD, show n < (outs s.list).length by rw [outs_len]; exact h]
  unfold outTo
  rw [List.set_append_right _ _ (by omega), hl, Nat.sub_self, show 32 - n = (32 - (n + 1)) + 1 by omega, List.replicate_succ, List.set_cons_zero, hg]
  simp
theorem outTo_end (s : St) : outTo s.list 32 = outs s.list := by
  unfold outTo
  rw [List.take_of_length_le (by rw [outs_len]; exact Nat.le_refl _)]
  simp
theorem St.Ok.get2 {s : St} (h : s.Ok) (n : Nat) : s.list.getD n 0 < 4294967296 := by
  apply getD_lt32
  intro x hx
  simp only [St.list, List.mem_cons, List.not_mem_nil, or_false] at hx
  rcases hx with rfl | rfl | rfl | rfl | rfl | rfl | rfl | rfl
  · exact h.a
  · exact h.b
  · exact h.c
  · exact h.d
  · exact h.e
  · exact h.f
  · exact h.g
  · exact h.h
theorem bytes_set (l : List Nat) (j x : Nat) : (bytes l).set j (.int .u8 (x : Nat)) = bytes (l.set j x) := by simp [bytes, List.map_set]
theorem bytes_one (l : List Nat) : (bytes l).toArray.all (·.oneCell') = true := by simp [bytes, Value.oneCell']

set_option maxHeartbeats 1000000 in
set_option maxRecDepth 3000 in
theorem told_any (s : St) (ok : s.Ok) (w : World) :
    Calls Tryz.prog 184 #[.agg (u32s s.list).toArray] w fun e w' => e = .returned (.agg (bytes (outs s.list)).toArray) ∧ Below w.heap.size w w' := by
  go_enter Tryz.func184, Tryz.ntmps184
  go_upto_region 2 with fail
  show Code.wp _ _ _ _ (((w.alloc (.cells (u32s s.list).toArray 293)).alloc (.cells (bytes (List.replicate 32 0)).toArray 121)).alloc (.cells (bytes (List.replicate 32 0)).toArray 121))
  obtain ⟨hb0, h1, h2, h3, hz⟩ := three_rows w 293 121 121 (u32s s.list) (bytes (List.replicate 32 0)) (bytes (List.replicate 32 0))
  generalize (((w.alloc (.cells (u32s s.list).toArray 293)).alloc (.cells (bytes (List.replicate 32 0)).toArray 121)).alloc (.cells (bytes (List.replicate 32 0)).toArray 121)) = W at *
  go_wp2
  go_loopw [5] (fun i wr => ∃ n : Nat, n ≤ 32 ∧ i = .int .i64 n ∧ RowIs wr w.heap.size 293 (u32s s.list) ∧ RowIs wr (w.heap.size + 1) 121 (bytes (List.replicate 32 0)) ∧ RowIs wr (w.heap.size + 1 + 1) 121 (bytes (outTo s.list n)) ∧ Below w.heap.size w wr) (fun i _ => 32 - (intOf i).toNat)
  case atStart => exact ⟨0, by omega, rfl, h1, h2, h3, hb0⟩
  case round =>
    clear h1 h2 h3 hb0 hz
    obtain ⟨n, hn, rfl, h1, h2, h3, hb⟩ := hrel
    by_cases hlt : n < 32
    · have c1 := h1.cell (n / 4)
      rw [u32s_get _ _ (show n / 4 < 8 by omega)] at c1
      have c3 := h3.cell n
      rw [bytes_get _ _ (by rw [outTo_len s n hn]; exact hlt)] at c3
      have f3 := h3.frozen n
      have hst : Hid _ := outTo_step s n hlt
      have hx := ok.get2 (n / 4)
      generalize s.list.getD (n / 4) 0 = x at c1 hst hx
      generalize (outTo s.list n).getD n 0 = old at c3
      rcases (by omega : n % 4 = 0 ∨ n % 4 = 1 ∨ n % 4 = 2 ∨ n % 4 = 3) with e | e | e | e
      all_goals rw [e] at hst
      · have e2 : (n : Int) % 4 = 0 := by omega
        have hst2 : Hid ((outTo s.list n).set n (x / 16777216 % 256) = outTo s.list (n + 1)) := hst
        have key : ∀ v : Int, v = ((x / 16777216 % 256 : Nat) : Int) → RowIs (wr.setCell ⟨w.heap.size + 1 + 1, n, none⟩ (.int .u8 v)) (w.heap.size + 1 + 1) 121 (bytes (outTo s.list (n + 1))) := by
          intro v hv
          rw [hv, ← hst2.out, ← bytes_set]
          exact h3.set _ _
        have hk : Hid _ := key
        clear hst key
        go_wp2
        refine ⟨⟨n + 1, by omega, by go_num, h1.other _ (show w.heap.size ≠ w.heap.size + 1 + 1 by omega), h2.other _ (show w.heap.size + 1 ≠ w.heap.size + 1 + 1 by omega), hk.out _ (by omega), hb.setCell (show w.heap.size ≤ w.heap.size + 1 + 1 by omega) _⟩, by simp [intOf]; omega⟩
      · have e2 : (n : Int) % 4 = 1 := by omega
        have hst2 : Hid ((outTo s.list n).set n (x / 65536 % 256) = outTo s.list (n + 1)) := hst
        have key : ∀ v : Int, v = ((x / 65536 % 256 : Nat) : Int) → RowIs (wr.setCell ⟨w.heap.size + 1 + 1, n, none⟩ (.int .u8 v)) (w.heap.size + 1 + 1) 121 (bytes (outTo s.list (n + 1))) := by
          intro v hv
          rw [hv, ← hst2.out, ← bytes_set]
          exact h3.set _ _
        have hk : Hid _ := key
        clear hst key
        go_wp2
        refine ⟨⟨n + 1, by omega, by go_num, h1.other _ (show w.heap.size ≠ w.heap.size + 1 + 1 by omega), h2.other _ (show w.heap.size + 1 ≠ w.heap.size + 1 + 1 by omega), hk.out _ (by omega), hb.setCell (show w.heap.size ≤ w.heap.size + 1 + 1 by omega) _⟩, by simp [intOf]; omega⟩
      · have e2 : (n : Int) % 4 = 2 := by omega
        have hst2 : Hid ((outTo s.list n).set n (x / 256 % 256) = outTo s.list (n + 1)) := hst
        have key : ∀ v : Int, v = ((x / 256 % 256 : Nat) : Int) → RowIs (wr.setCell ⟨w.heap.size + 1 + 1, n, none⟩ (.int .u8 v)) (w.heap.size + 1 + 1) 121 (bytes (outTo s.list (n + 1))) := by
          intro v hv
          rw [hv, ← hst2.out, ← bytes_set]
          exact h3.set _ _
        have hk : Hid _ := key
        clear hst key
        go_wp2
        refine ⟨⟨n + 1, by omega, by go_num, h1.other _ (show w.heap.size ≠ w.heap.size + 1 + 1 by omega), h2.other _ (show w.heap.size + 1 ≠ w.heap.size + 1 + 1 by omega), hk.out _ (by omega), hb.setCell (show w.heap.size ≤ w.heap.size + 1 + 1 by omega) _⟩, by simp [intOf]; omega⟩
      · have e2 : (n : Int) % 4 = 3 := by omega
        have hst2 : Hid ((outTo s.list n).set n (x % 256) = outTo s.list (n + 1)) := by
          have h := hst.out
          rw [show x / 2 ^ (24 - 8 * 3) % 256 = x % 256 by rw [show 2 ^ (24 - 8 * 3) = 1 from rfl, Nat.div_one]] at h
          exact h
        have key : ∀ v : Int, v = ((x % 256 : Nat) : Int) → RowIs (wr.setCell ⟨w.heap.size + 1 + 1, n, none⟩ (.int .u8 v)) (w.heap.size + 1 + 1) 121 (bytes (outTo s.list (n + 1))) := by
          intro v hv
          rw [hv, ← hst2.out, ← bytes_set]
          exact h3.set _ _
        have hk : Hid _ := key
        clear hst key
        go_wp2
        refine ⟨⟨n + 1, by omega, by go_num, h1.other _ (show w.heap.size ≠ w.heap.size + 1 + 1 by omega), h2.other _ (show w.heap.size + 1 ≠ w.heap.size + 1 + 1 by omega), hk.out _ (by omega), hb.setCell (show w.heap.size ≤ w.heap.size + 1 + 1 by omega) _⟩, by simp [intOf]; omega⟩
    · have en : n = 32 := by omega
      have en2 : (n : Int) = 32 := by omega
      rw [en2]
      subst en
      rw [outTo_end] at h3
      have hlM := outs_len s
      obtain ⟨M, HM⟩ : ∃ M, Hid (outs s.list = M) := ⟨_, rfl⟩
      rw [HM.out] at h3 hlM
      have hsz : (Tryz.prog.info? 121).map (·.size) = some (bytes M).toArray.size := by rw [List.size_toArray, bytes_length, hlM]; kernel_rfl
      have hz : (bytes (List.replicate 32 0)).toArray.size = (bytes M).toArray.size := by rw [List.size_toArray, List.size_toArray, bytes_length, bytes_length, hlM]; simp
      have hone := bytes_one M
      have hB2 : Below w.heap.size w (wr.setRow (w.heap.size + 1) (bytes M).toArray) := hb.setRow _ (by omega)
      have hg2 := setRow_heap wr (w.heap.size + 1) _ (bytes M).toArray _ _ h2.heap
      go_wp2_with (first | (refine wpList_load_row rfl 121 _ rfl (w.heap.size + 1 + 1) rfl _ _ _ _ h3.heap Tryz.underlying121 rfl hsz ?_) | (refine wpList_store_row rfl 121 _ _ rfl (w.heap.size + 1) _ rfl rfl _ _ h2.heap hsz hz hone ?_))
      refine bodyPost_ret (v := .agg (bytes M).toArray) ?_ rfl ⟨by rw [HM.out], hB2⟩
      exact results_cell_row (P := Tryz.prog) Tryz.results184 _ _ (w.heap.size + 1) _ _ _ _ rfl hg2 Tryz.underlying121 rfl hsz
end Go.Proofs.YtdidjdoifpfmmaaGreatDoor
namespace Go.Proofs.YtdidjdoifpfmmaaGreatDoor
open Go.RowKit

/-- Bytes in memory, made a string. -/
theorem back_any {P : Program} (src dst e : TypeId) (hs : P.underlying src = some (.slice e)) (he : P.underlying e = some (.int .u8)) (hd : P.underlying dst = some .string) (w : World) (g cap : Nat) (t : TypeId) (m : List Nat) (rest : List Value) (h : RowIs w g t (bytes m ++ rest)) (hm : ∀ x ∈ m, x < 256) :
    (convert src dst (.slice (some ⟨g, 0, none⟩) m.length cap)).run P w = .ok (.string (text m)) w := by
  have hr := run_convert_bytes_back (P := P) w src dst e ⟨g, 0, none⟩ cap (m.map UInt8.ofNat) hs he hd (fun j hj => by
    have hj' : j < m.length := by simpa using hj
    have hadd : (⟨g, 0, none⟩ : Addr).add j = ⟨g, j, none⟩ := by unfold Addr.add; split <;> simp_all
    have hx := hm m[j] (List.getElem_mem hj')
    rw [hadd, h.cell j, List.getElem?_append_left (by rw [bytes_length]; exact hj')]
    simp [bytes, hj']
    omega)
  rw [List.length_map] at hr
  exact hr
theorem fourOf_lt (n : Nat) : ∀ x ∈ fourOf n, x < 256 := by
  intro x hx
  simp only [fourOf, List.mem_cons, List.not_mem_nil, or_false] at hx
  rcases hx with rfl | rfl | rfl | rfl <;> exact Nat.mod_lt _ (by decide)

set_option maxHeartbeats 1000000 in
set_option maxRecDepth 3000 in
theorem four_any (n : Nat) (h : n < 4294967296) (w : World) :
    Calls Tryz.prog 111 #[.int .i64 (n : Nat)] w fun e w' => e = .returned (.string (text (fourOf n))) ∧ Below w.heap.size w w' := by
  have hcv : (convert 124 9 (.slice (some ⟨w.heap.size, 0, none⟩) 4 4)).run Tryz.prog (w.alloc (.cells #[.int .u8 ((n : Int) / 16777216 % 256), .int .u8 ((n : Int) / 65536 % 256), .int .u8 ((n : Int) / 256 % 256), .int .u8 ((n : Int) % 256)] 5)) = .ok (.string (text (fourOf n))) (w.alloc (.cells #[.int .u8 ((n : Int) / 16777216 % 256), .int .u8 ((n : Int) / 65536 % 256), .int .u8 ((n : Int) / 256 % 256), .int .u8 ((n : Int) % 256)] 5)) := by
    have e1 : (n : Int) / 16777216 % 256 = ((n / 16777216 % 256 : Nat) : Int) := by omega
    have e2 : (n : Int) / 65536 % 256 = ((n / 65536 % 256 : Nat) : Int) := by omega
    have e3 : (n : Int) / 256 % 256 = ((n / 256 % 256 : Nat) : Int) := by omega
    have e4 : (n : Int) % 256 = ((n % 256 : Nat) : Int) := by omega
    rw [e1, e2, e3, e4]
    have hr : RowIs (w.alloc (.cells (bytes (fourOf n)).toArray 5)) w.heap.size 5 (bytes (fourOf n) ++ []) := by rw [List.append_nil]; exact RowIs.new _ _ _
    exact back_any 124 9 5 Tryz.underlying124 Tryz.underlying5 Tryz.underlying9 _ _ 4 _ (fourOf n) [] hr (fourOf_lt n)
  have hb : Below w.heap.size w (w.alloc (.cells #[.int .u8 ((n : Int) / 16777216 % 256), .int .u8 ((n : Int) / 65536 % 256), .int .u8 ((n : Int) / 256 % 256), .int .u8 ((n : Int) % 256)] 5)) := (Below.refl _ _).alloc (Nat.le_refl _) _
  obtain ⟨T, hT⟩ : ∃ T, Hid (text (fourOf n) = T) := ⟨_, rfl⟩
  rw [hT.out] at hcv
  go_enter Tryz.func111, Tryz.ntmps111
  go_wp2
  go_ret
  exact ⟨by rw [hT.out]; rfl, hb⟩
end Go.Proofs.YtdidjdoifpfmmaaGreatDoor
namespace Go.Proofs.YtdidjdoifpfmmaaGreatDoor
open Go.RowKit Digits

/-- An end that is no panic: so that what is asked at a panic's exit looks at no slot. -/
def At (R : Act → World → Prop) : Exit → Act → World → Prop
  | .normal, a, w => R a w
  | _, _, _ => False
theorem seq_at {P : Program} {x y : Code} {Q : Exit → Act → World → Prop} {a : Act} {w : World} (h : x.wp P (At (fun a w => y.wp P Q a w)) a w) : (Code.seq x y).wp P Q a w :=
  wp_seq (wp_mono h fun e a w h => by
    cases e <;> first | exact h | exact h.elim)
theorem wp_at {P : Program} {x : Code} {Q : Exit → Act → World → Prop} {a : Act} {w : World} (h : x.wp P (At (fun a w => Q .normal a w)) a w) : x.wp P Q a w :=
  wp_mono h fun e a w h => by
    cases e <;> first | exact h | exact h.elim
def fstC : Code → Code
  | .seq a _ => a
  | c => c
def sndC : Code → Code
  | .seq _ b => b
  | c => c
def inC : Code → Code
  | .block _ c => c
  | .loop c => c
  | c => c
noncomputable def blockCode : Code := Tryz.f110.body.getD .skip
noncomputable def partFour : Code := sndC (sndC (sndC (sndC blockCode)))
noncomputable def loopThree : Code := inC (inC (sndC (fstC partFour)))
noncomputable def roundThree : Code := inC (fstC (sndC loopThree))
noncomputable def roundTail : Code := sndC (sndC (sndC (sndC (sndC (sndC (sndC (sndC (sndC (sndC roundThree)))))))))

/-- Eight words, those behind the place m moved up by one. -/
def shl (l : List Nat) (m : Nat) : List Nat := l.take (m + 1) ++ (l.drop m).take (7 - m)
theorem shl_len (l : List Nat) (m : Nat) (h : l.length = 8) (hm : m ≤ 7) : (shl l m).length = 8 := by simp [shl]; omega
theorem shl_step (a b c d e f g h m : Nat) (hm : m < 7) : (shl [a, b, c, d, e, f, g, h] (m + 1)).set (m + 1) ([a, b, c, d, e, f, g, h].getD m 0) = shl [a, b, c, d, e, f, g, h] m := by
  obtain rfl | rfl | rfl | rfl | rfl | rfl | rfl : m = 0 ∨ m = 1 ∨ m = 2 ∨ m = 3 ∨ m = 4 ∨ m = 5 ∨ m = 6 := by omega
  all_goals rfl
theorem shl_get (a b c d e f g h m : Nat) (hm : m < 7) : (shl [a, b, c, d, e, f, g, h] (m + 1)).getD m 0 = [a, b, c, d, e, f, g, h].getD m 0 := by
  obtain rfl | rfl | rfl | rfl | rfl | rfl | rfl : m = 0 ∨ m = 1 ∨ m = 2 ∨ m = 3 ∨ m = 4 ∨ m = 5 ∨ m = 6 := by omega
  all_goals rfl

set_option maxHeartbeats 4000000 in
set_option maxRecDepth 1000000 in
theorem tail_any {x0 x1 x2 x3 x4 x5 x6 x7 x8 x9 x10 x11 x12 x13 x14 x16 x17 x18 x19 x20 x21 x22 x23 x24 x27 x28 x29 x30 x31 x32 x33 x34 x35 x36 x37 x38 x39 x40 x41 x42 x43 x44 x45 x46 x47 x48 x49 x50 x51 x52 x53 x54 x55 x56 x57 x58 x59 x60 x61 x62 x63 x64 x65 x66 x67 x68 x69 x70 x71 x72 x73 x74 x75 x76 x77 x78 x79 x80 x81 x82 x83 x84 x85 x86 x87 x88 x89 x90 x91 x92 x93 x94 x95 x96 x97 x98 x99 x100 x101 x102 x103 x104 x105 x106 x107 x108 x109 x110 x111 x112 x113 x114 x115 x116 x117 x118 x119 x120 x121 x122 x123 x124 x125 x126 x127 x128 x129 x130 x131 x132 x133 x134 x135 x136 x137 x138 x139 x140 x141 x142 x143 x144 x145 x146 x147 x148 x149 x150 x151 x152 x153 x154 x155 x156 x157 x158 x159 x160 x161 x162 x163 x164 x165 x166 x167 x168 x169 x170 x171 x172 x173 x174 x175 x176 x177 x178 x179 x180 x181 x182 x183 x184 x185 x186 x187 x188 x189 x190 x191 x192 x193 x194 x195 x196 x197 x198 x199 x200 x201 x202 x203 x204 x205 x206 x207 x208 x209 x210 x211 x212 x213 x214 x215 x216 x217 x218 x219 x220 x221 x222 x223 x224 x225 x226 x227 x228 x229 x230 x231 x232 x233 x234 x235 x236 x237 x238 x239 x240 x241 x242 x243 x244 x245 x246 x247 x248 : Value} (gv cc va vb vc vd ve vf vg vh : Nat) (t u : Int) (z : List Value) (B : Nat) (w : World) (Q : Exit → Act → World → Prop)
    (hB : B ≤ gv) (ld : vd < 4294967296) (ht0 : 0 ≤ t) (ht1 : t ≤ 25769803776) (hu0 : 0 ≤ u) (hu1 : u ≤ 8589934592)
    (hS : RowIs w gv 3 (ints [va, vb, vc, vd, ve, vf, vg, vh] ++ z))
    (hQ : Hid (∀ (y27 y206 y207 y208 y209 y210 y211 y212 y213 y214 y215 y216 y217 y218 y219 y220 y221 y222 y223 y224 y225 y226 y227 y228 y229 y230 y231 : Value) (w' : World), RowIs w' gv 3 ([.int .i64 ((t + u) % 4294967296), I va, I vb, I vc, .int .i64 (((vd : Int) + t) % 4294967296), I ve, I vf, I vg] ++ z) → Below B w w' → Q .normal ⟨#[x0, x1, x2, x3, x4, x5, x6, x7, x8, x9, x10, x11, x12, x13, x14, .slice (some ⟨gv, 0, none⟩) 8 cc, x16, x17, x18, x19, x20, x21, x22, x23, x24, .int .i64 t, .int .i64 u, y27, x28, x29, x30, x31, x32, x33, x34, x35, x36, x37, x38, x39, x40, x41, x42, x43, x44, x45, x46, x47, x48, x49, x50, x51, x52, x53, x54, x55, x56, x57, x58, x59, x60, x61, x62, x63, x64, x65, x66, x67, x68, x69, x70, x71, x72, x73, x74, x75, x76, x77, x78, x79, x80, x81, x82, x83, x84, x85, x86, x87, x88, x89, x90, x91, x92, x93, x94, x95, x96, x97, x98, x99, x100, x101, x102, x103, x104, x105, x106, x107, x108, x109, x110, x111, x112, x113, x114, x115, x116, x117, x118, x119, x120, x121, x122, x123, x124, x125, x126, x127, x128, x129, x130, x131, x132, x133, x134, x135, x136, x137, x138, x139, x140, x141, x142, x143, x144, x145, x146, x147, x148, x149, x150, x151, x152, x153, x154, x155, x156, x157, x158, x159, x160, x161, x162, x163, x164, x165, x166, x167, x168, x169, x170, x171, x172, x173, x174, x175, x176, x177, x178, x179, x180, x181, x182, x183, x184, x185, x186, x187, x188, x189, x190, x191, x192, x193, x194, x195, x196, x197, x198, x199, x200, x201, x202, x203, x204, x205, y206, y207, y208, y209, y210, y211, y212, y213, y214, y215, y216, y217, y218, y219, y220, y221, y222, y223, y224, y225, y226, y227, y228, y229, y230, y231, x232, x233, x234, x235, x236, x237, x238, x239, x240, x241, x242, x243, x244, x245, x246, x247, x248], []⟩ w')) :
    Code.wp Tryz.prog roundTail Q ⟨#[x0, x1, x2, x3, x4, x5, x6, x7, x8, x9, x10, x11, x12, x13, x14, .slice (some ⟨gv, 0, none⟩) 8 cc, x16, x17, x18, x19, x20, x21, x22, x23, x24, .int .i64 t, .int .i64 u, x27, x28, x29, x30, x31, x32, x33, x34, x35, x36, x37, x38, x39, x40, x41, x42, x43, x44, x45, x46, x47, x48, x49, x50, x51, x52, x53, x54, x55, x56, x57, x58, x59, x60, x61, x62, x63, x64, x65, x66, x67, x68, x69, x70, x71, x72, x73, x74, x75, x76, x77, x78, x79, x80, x81, x82, x83, x84, x85, x86, x87, x88, x89, x90, x91, x92, x93, x94, x95, x96, x97, x98, x99, x100, x101, x102, x103, x104, x105, x106, x107, x108, x109, x110, x111, x112, x113, x114, x115, x116, x117, x118, x119, x120, x121, x122, x123, x124, x125, x126, x127, x128, x129, x130, x131, x132, x133, x134, x135, x136, x137, x138, x139, x140, x141, x142, x143, x144, x145, x146, x147, x148, x149, x150, x151, x152, x153, x154, x155, x156, x157, x158, x159, x160, x161, x162, x163, x164, x165, x166, x167, x168, x169, x170, x171, x172, x173, x174, x175, x176, x177, x178, x179, x180, x181, x182, x183, x184, x185, x186, x187, x188, x189, x190, x191, x192, x193, x194, x195, x196, x197, x198, x199, x200, x201, x202, x203, x204, x205, x206, x207, x208, x209, x210, x211, x212, x213, x214, x215, x216, x217, x218, x219, x220, x221, x222, x223, x224, x225, x226, x227, x228, x229, x230, x231, x232, x233, x234, x235, x236, x237, x238, x239, x240, x241, x242, x243, x244, x245, x246, x247, x248], []⟩ w := by
  conv => arg 2; whnf
  have hS7 : RowIs w gv 3 (ints (shl [va, vb, vc, vd, ve, vf, vg, vh] 7) ++ z) := hS
  clear hS
  go_wp2
  go_loopw [27] (fun kk wv => ∃ m : Nat, m ≤ 7 ∧ kk = .int .i64 m ∧ RowIs wv gv 3 (ints (shl [va, vb, vc, vd, ve, vf, vg, vh] m) ++ z) ∧ Below B w wv) (fun kk _ => (intOf kk).toNat)
  case atStart => exact ⟨7, by omega, rfl, hS7, Below.refl _ _⟩
  case round =>
    clear hS7
    obtain ⟨m, hm, rfl, hS, hb⟩ := hrel
    cases m with
    | zero =>
      have c4 : wr.cell? ⟨gv, 4, none⟩ = some (.int .i64 (vd : Int)) := hS.cell 4
      have c0 : wr.cell? ⟨gv, 0, none⟩ = some (.int .i64 (va : Int)) := hS.cell 0
      have f4 := hS.frozen 4
      have f0 := hS.frozen 0
      rw [show ((0 : Nat) : Int) = 0 from rfl]
      have hR := (hS.set 4 (.int .i64 (((vd : Int) + t) % 4294967296))).set 0 (.int .i64 ((t + u) % 4294967296))
      have hb2 := (hb.setCell (p := ⟨gv, 4, none⟩) hB (.int .i64 (((vd : Int) + t) % 4294967296))).setCell (p := ⟨gv, 0, none⟩) hB (.int .i64 ((t + u) % 4294967296))
      clear hS hb
      go_wp2
      exact hQ.out _ _ _ _ _ _ _ _ _ _ _ _ _ _ _ _ _ _ _ _ _ _ _ _ _ _ _ _ hR hb2
    | succ m =>
      have hcl : (shl [va, vb, vc, vd, ve, vf, vg, vh] (m + 1)).length = 8 := shl_len _ _ rfl hm
      have hst : Hid _ := shl_step va vb vc vd ve vf vg vh m (by omega)
      have d0 := hS.cell m
      have f1 := hS.frozen (m + 1)
      have d1 := hS.cell (m + 1)
      rw [List.getElem?_append_left (by rw [ints_length]; omega), ints_get _ _ (by omega)] at d0 d1
      rw [shl_get _ _ _ _ _ _ _ _ _ (by omega)] at d0
      generalize [va, vb, vc, vd, ve, vf, vg, vh].getD m 0 = y at d0 hst
      rw [show ((m + 1 : Nat) : Int) = (m : Int) + 1 by omega]
      have hR := hS.set (m + 1) (.int .i64 (y : Int))
      rw [List.set_append_left _ _ (by rw [ints_length]; omega), ints_set, hst.out] at hR
      have hb2 := hb.setCell (p := ⟨gv, m + 1, none⟩) hB (.int .i64 (y : Int))
      clear hS hb
      go_wp2
      exact ⟨⟨m, by omega, rfl, hR, hb2⟩, by simp [intOf]⟩
end Go.Proofs.YtdidjdoifpfmmaaGreatDoor
