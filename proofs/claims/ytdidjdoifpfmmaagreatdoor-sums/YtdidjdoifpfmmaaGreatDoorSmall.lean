import Derived.Test.YtdidjdoifpfmmaaGreatDoorUpTo
import Derived.Deep.QuietTactic
import Derived.BigQuiet
namespace Go.Proofs.YtdidjdoifpfmmaaGreatDoor
open Go.RowKit Digits

/-- Is a script small enough that something is claimed of it? -/
def Fits (ops : List OpR) : Prop := ops.length ≤ 262144 ∧ ∀ o ∈ ops, o.s.size ≤ 262144 ∧ o.t.size ≤ 262144

set_option maxHeartbeats 1000000 in
set_option maxRecDepth 3000 in
theorem small_any (ops : List OpR) (a0 : Option Addr) (b off cap : Nat) (ha : 0 < ops.length → a0 = some ⟨b, off, none⟩) (w : World) (hs : ScriptAt w b off ops) (hlen : ops.length ≤ maxLen) (hz : ∀ o ∈ ops, o.s.size ≤ 140737488351232 ∧ o.t.size ≤ 140737488351232) :
    Calls Tryz.prog 22 #[.slice a0 ops.length cap] w fun e w' => ∃ f, e = .returned (.bool f) ∧ (f = true → Fits ops) ∧ Below w.heap.size w w' := by
  unfold maxLen at hlen
  have HA : Hid _ := ha
  have HZ : Hid _ := hz
  clear ha hz
  by_cases hbig : 262144 < ops.length
  · have hbig' : (262144 : Int) < (ops.length : Int) := by omega
    go_enter Tryz.func22, Tryz.ntmps22
    go_wp2
    go_ret
    exact ⟨false, rfl, fun h => (Bool.noConfusion h), Below.refl _ _⟩
  · have hbig' : ¬ (262144 : Int) < (ops.length : Int) := by omega
    go_enter Tryz.func22, Tryz.ntmps22
    go_wp2
    go_loopw [3, 4] (fun n i wr => ∃ (k : Nat) (m : Nat), k ≤ ops.length ∧ i = .int .i64 k ∧ n = .int .i64 m ∧ m ≤ 262144 ∧ Hid (∀ j o, j < k → ops[j]? = some o → o.s.size ≤ 262144 ∧ o.t.size ≤ 262144) ∧ Below w.heap.size w wr ∧ Hid (wr.heap = w.heap)) (fun _ i _ => ops.length - (intOf i).toNat)
    case atStart => exact ⟨0, ops.length, Nat.zero_le _, rfl, rfl, by omega, fun j o hj => absurd hj (Nat.not_lt_zero _), Below.refl _ _, rfl⟩
    case round =>
      obtain ⟨k, m, hk, rfl, rfl, hm, hall, hb, hhp⟩ := hrel
      by_cases hlt : k < ops.length
      · obtain rfl := HA.out (by omega)
        obtain ⟨o, ho⟩ : ∃ o, ops[k]? = some o := ⟨ops[k], List.getElem?_eq_getElem hlt⟩
        have hz := HZ.out o (List.mem_of_getElem? ho)
        have s4 : wr.cell? ⟨b, off + k * 6 + 4, none⟩ = some (.string o.s) := by rw [← hs k o ho 4 _ rfl]; simp only [World.cell?, hhp.out]
        have s5 : wr.cell? ⟨b, off + k * 6 + 5, none⟩ = some (.string o.t) := by rw [← hs k o ho 5 _ rfl]; simp only [World.cell?, hhp.out]
        have ho2 : Hid (ops[k]? = some o) := ho
        obtain ⟨z1, z2⟩ := hz
        clear ho
        by_cases hgt : 262144 < m + o.s.size + o.t.size
        · have hgt' : (262144 : Int) < (m : Int) + (o.s.size : Int) + (o.t.size : Int) := by omega
          go_wp2
          go_quiet (fail)
          go_wp2
          go_ret
          exact ⟨false, rfl, fun h => (Bool.noConfusion h), below_drewN hb _⟩
        · have hgt' : ¬ (262144 : Int) < (m : Int) + (o.s.size : Int) + (o.t.size : Int) := by omega
          go_wp2
          go_quiet (fail)
          have hb2 := below_drewN hb nq
          have hh2 : Hid ((wr.drewN nq).heap = w.heap) := hhp.out
          generalize wr.drewN nq = wq at hb2 hh2 ⊢
          go_wp2
          go_roundw
          case rel =>
            refine ⟨k + 1, m + o.s.size + o.t.size, by omega, by go_num, by go_num, by omega, ?_, hb2, hh2⟩
            intro j p hj hp
            by_cases e : j = k
            · subst e
              obtain rfl : o = p := Option.some.inj (ho2.out.symm.trans hp)
              omega
            · exact hall.out j p (by omega) hp
          case measure => simp [intOf]; omega
      · have hf : Hid (Fits ops) := ⟨by omega, fun o ho => by
          obtain ⟨j, hj, rfl⟩ := List.mem_iff_getElem.1 ho
          exact hall.out j _ (by omega) (List.getElem?_eq_getElem hj)⟩
        go_wp2
        go_ret
        exact ⟨true, rfl, fun _ => hf.out, hb⟩
end Go.Proofs.YtdidjdoifpfmmaaGreatDoor
