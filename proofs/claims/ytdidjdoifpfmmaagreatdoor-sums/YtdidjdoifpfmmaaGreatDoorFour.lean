import Derived.Test.YtdidjdoifpfmmaaGreatDoorTold
import Derived.Laws.IdiomStrings
namespace Go.Proofs.YtdidjdoifpfmmaaGreatDoor
open Go.RowKit

/-- Bytes in memory, made a string. -/
theorem back_any {P : Program} (src dst e : TypeId) (hs : P.underlying src = some (.slice e)) (he : P.underlying e = some (.int .u8)) (hd : P.underlying dst = some .string) (w : World) (g cap : Nat) (t : TypeId) (m : List Nat) (rest : List Value) (h : RowIs w g t (bytes m ++ rest)) (hm : ∀ x ∈ m, x < 256) :
    (convert src dst (.slice (some ⟨g, 0, none⟩) m.length cap)).run P w = .ok (.string (text m)) w := by
  have hr := run_convert_bytes_back (P := P) w src dst e ⟨g, 0, none⟩ cap (m.map UInt8.ofNat) hs he hd (fun j hj => by
    have hj' : j < m.length := by simpa using hj
    have hadd : (⟨g, 0, none⟩ : Addr).add j = ⟨g, j, none⟩ := by unfold Addr.add; split <;> simp_all
    have hx := hm m[j] (List.getElem_mem hj')
    rw [hadd, h.cell j, List.getElem?_append_left (by rw [bytes_length]; exact hj')]
    simp [bytes, hj']
    omega)
  rw [List.length_map] at hr
  exact hr
theorem fourOf_lt (n : Nat) : ∀ x ∈ fourOf n, x < 256 := by
  intro x hx
  simp only [fourOf, List.mem_cons, List.not_mem_nil, or_false] at hx
  rcases hx with rfl | rfl | rfl | rfl <;> exact Nat.mod_lt _ (by decide)

set_option maxHeartbeats 1000000 in
set_option maxRecDepth 3000 in
theorem four_any (n : Nat) (h : n < 4294967296) (w : World) :
    Calls Tryz.prog 111 #[.int .i64 (n : Nat)] w fun e w' => e = .returned (.string (text (fourOf n))) ∧ Below w.heap.size w w' := by
  have hcv : (convert 124 9 (.slice (some ⟨w.heap.size, 0, none⟩) 4 4)).run Tryz.prog (w.alloc (.cells #[.int .u8 ((n : Int) / 16777216 % 256), .int .u8 ((n : Int) / 65536 % 256), .int .u8 ((n : Int) / 256 % 256), .int .u8 ((n : Int) % 256)] 5)) = .ok (.string (text (fourOf n))) (w.alloc (.cells #[.int .u8 ((n : Int) / 16777216 % 256), .int .u8 ((n : Int) / 65536 % 256), .int .u8 ((n : Int) / 256 % 256), .int .u8 ((n : Int) % 256)] 5)) := by
    have e1 : (n : Int) / 16777216 % 256 = ((n / 16777216 % 256 : Nat) : Int) := by omega
    have e2 : (n : Int) / 65536 % 256 = ((n / 65536 % 256 : Nat) : Int) := by omega
    have e3 : (n : Int) / 256 % 256 = ((n / 256 % 256 : Nat) : Int) := by omega
    have e4 : (n : Int) % 256 = ((n % 256 : Nat) : Int) := by omega
    rw [e1, e2, e3, e4]
    have hr : RowIs (w.alloc (.cells (bytes (fourOf n)).toArray 5)) w.heap.size 5 (bytes (fourOf n) ++ []) := by rw [List.append_nil]; exact RowIs.new _ _ _
    exact back_any 124 9 5 Tryz.underlying124 Tryz.underlying5 Tryz.underlying9 _ _ 4 _ (fourOf n) [] hr (fourOf_lt n)
  have hb : Below w.heap.size w (w.alloc (.cells #[.int .u8 ((n : Int) / 16777216 % 256), .int .u8 ((n : Int) / 65536 % 256), .int .u8 ((n : Int) / 256 % 256), .int .u8 ((n : Int) % 256)] 5)) := (Below.refl _ _).alloc (Nat.le_refl _) _
  obtain ⟨T, hT⟩ : ∃ T, Hid (text (fourOf n) = T) := ⟨_, rfl⟩
  rw [hT.out] at hcv
  go_enter Tryz.func111, Tryz.ntmps111
  go_wp2
  go_ret
  exact ⟨by rw [hT.out]; rfl, hb⟩
end Go.Proofs.YtdidjdoifpfmmaaGreatDoor
