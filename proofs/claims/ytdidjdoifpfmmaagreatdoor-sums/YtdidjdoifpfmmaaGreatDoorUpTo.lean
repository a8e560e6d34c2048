import Derived.Test.YtdidjdoifpfmmaaGreatDoorMaker
import Derived.Deep.Cut
/- The statements' own loop over a script, whatever a step does. -/
namespace Go.Proofs.YtdidjdoifpfmmaaGreatDoor
open Go.RowKit Digits

/-- One step of a script, read off memory. -/
structure OpR where
  (kind a b d : Int)
  (s t : ByteArray)
def OpR.vals (o : OpR) : List Value := [.int .i64 o.kind, .int .i64 o.a, .int .i64 o.b, .int .i64 o.d, .string o.s, .string o.t]
def OpR.agg (o : OpR) : Value := .agg #[.int .i64 o.kind, .int .i64 o.a, .int .i64 o.b, .int .i64 o.d, .string o.s, .string o.t]
/-- A script in memory. -/
def ScriptAt (w : World) (b off : Nat) (ops : List OpR) : Prop := ∀ i o, ops[i]? = some o → ∀ j v, o.vals[j]? = some v → w.cell? ⟨b, off + i * 6 + j, none⟩ = some v
theorem ScriptAt.below {w w' : World} {B b off : Nat} {ops : List OpR} (h : ScriptAt w b off ops) (hb : Below B w w') (hg : b < B) : ScriptAt w' b off ops := fun i o hi j v hj => by
  rw [hb.cell hg]; exact h i o hi j v hj

set_option maxHeartbeats 1000000 in
set_option maxRecDepth 3000 in
theorem upTo_gen (ops : List OpR) (a0 : Option Addr) (b off cap : Nat) (ha : 0 < ops.length → a0 = some ⟨b, off, none⟩) (made held : Int) (lists : Bool) (w : World) (hs : ScriptAt w b off ops) (hbl : b < w.heap.size) (hn : ops.length ≤ 262144)
    (Inv : World → Nat → Prop) (D : OpR → Bool) (Hd : Int → Bool)
    (hInit : ∀ w1 pm gk gh ck ch, MakerAt w1 pm gk gh ck ch kList hList → RowIs w1 w.heap.size 73 [.pointer (some ⟨pm, 0, none⟩), .slice none 0 0, .slice none 0 0, .slice none 0 0, .int .i64 0, .int .i64 262144] → Below w.heap.size w w1 → Inv w1 w.heap.size)
    (hLeft : ∀ w1 p, Inv w1 p → ∃ l : Int, w1.cell? ⟨p, 5, none⟩ = some (.int .i64 l))
    (hDoes : ∀ o w1, 1 ≤ o.kind → o.kind ≤ 22 → Calls Tryz.prog 40 #[OpR.agg o, .int .i64 made] w1 fun e w' => e = .returned (.bool (D o)) ∧ Below w1.heap.size w1 w')
    (hBelow : ∀ w1 w2 p, Inv w1 p → Below w1.heap.size w1 w2 → Inv w2 p)
    (hStep : ∀ o w1, o ∈ ops → 1 ≤ o.kind → o.kind ≤ 22 → D o = true → Below w.heap.size w w1 → Inv w1 w.heap.size → Calls Tryz.prog 41 #[.pointer (some ⟨w.heap.size, 0, none⟩), OpR.agg o] w1 fun e w' => ∃ ok, e = .returned (.bool ok) ∧ (Hd o.kind = true → ok = true) ∧ Inv w' w.heap.size ∧ Below w.heap.size w w')
    (hLooks : ∀ w1, Inv w1 w.heap.size → Below w.heap.size w w1 → Calls Tryz.prog 42 #[.pointer (some ⟨w.heap.size, 0, none⟩)] w1 fun e w' => e = .returned (.bool true) ∧ Inv w' w.heap.size ∧ Below w.heap.size w w')
    (hHeld : ∀ k : Int, 1 ≤ k → k ≤ 22 → Hd k = false → bits .and .i64 (held / 2 ^ k.toNat) 1 = 0) :
    Calls Tryz.prog 23 #[.slice a0 ops.length cap, .int .i64 made, .int .i64 held, .bool lists] w fun e w' => e = .returned (.int .i64 (-1)) ∧ Below w.heap.size w w' := by
  have HA : Hid _ := ha
  clear ha
  have HInit : Hid _ := hInit
  have HLeft : Hid _ := hLeft
  have HDoes : Hid _ := hDoes
  have HBelow : Hid _ := hBelow
  have HStep : Hid _ := hStep
  have HLooks : Hid _ := hLooks
  have HHeld : Hid _ := hHeld
  clear hInit hLeft hDoes hBelow hStep hLooks hHeld
  go_enter Tryz.func23, Tryz.ntmps23
  go_wp2_with (go_at_call 39; refine (newMaker_any _).mono ?_; rintro e w1 ⟨pm, gk, gh, ck, ch, rfl, hM, hb1, hp1, hp2, hp3⟩; have hr := (RowIs.new w 73 [.pointer none, .slice none 0 0, .slice none 0 0, .slice none 0 0, .int .i64 0, .int .i64 262144]).below hb1 (by simp); have hc := hr.cell 0; have hf := hr.frozen 0; simp only [List.getElem?_cons_zero] at hc)
  have hr1 := hr.set 0 (.pointer (some ⟨pm, 0, none⟩))
  have hb2 : Below w.heap.size w (w1.setCell ⟨w.heap.size, 0, none⟩ (.pointer (some ⟨pm, 0, none⟩))) := (((Below.refl _ _).alloc (Nat.le_refl _) _).trans (hb1.mono (by simp))).setCell (Nat.le_refl _) _
  simp only [World.size_alloc] at hp1 hp2 hp3
  have hI := HInit.out _ pm gk gh ck ch (hM.other ⟨w.heap.size, 0, none⟩ (.pointer (some ⟨pm, 0, none⟩)) (by simp; omega) (by simp; omega) (by simp; omega)) hr1 hb2
  clear hr hr1 hc hf hM hb1 hp1 hp2 hp3 HInit
  go_loopw [10] (fun i wr => ∃ k : Nat, k ≤ ops.length ∧ i = .int .i64 k ∧ Inv wr w.heap.size ∧ Below w.heap.size w wr) (fun i _ => ops.length - (intOf i).toNat)
  case atStart => exact ⟨0, Nat.zero_le _, rfl, hI, hb2⟩
  case round =>
    clear hI hb2
    obtain ⟨k, hk, rfl, hI, hb⟩ := hrel
    obtain ⟨l, hl⟩ := HLeft.out _ _ hI
    by_cases hlt : k < ops.length
    · obtain rfl := HA.out (by omega)
      by_cases hl0 : 0 < l
      · obtain ⟨o, ho⟩ : ∃ o, ops[k]? = some o := ⟨ops[k], List.getElem?_eq_getElem hlt⟩
        have hmem : o ∈ ops := List.mem_of_getElem? ho
        have hsc := (hs.below hb hbl) k o ho
        have s0 : wr.cell? ⟨b, off + k * 6, none⟩ = some (.int .i64 o.kind) := hsc 0 _ rfl
        have s1 : wr.cell? ⟨b, off + k * 6 + 1, none⟩ = some (.int .i64 o.a) := hsc 1 _ rfl
        have s2 : wr.cell? ⟨b, off + k * 6 + 2, none⟩ = some (.int .i64 o.b) := hsc 2 _ rfl
        have s3 : wr.cell? ⟨b, off + k * 6 + 3, none⟩ = some (.int .i64 o.d) := hsc 3 _ rfl
        have s4 : wr.cell? ⟨b, off + k * 6 + 4, none⟩ = some (.string o.s) := hsc 4 _ rfl
        have s5 : wr.cell? ⟨b, off + k * 6 + 5, none⟩ = some (.string o.t) := hsc 5 _ rfl
        have ho2 : Hid (ops[k]? = some o) := ho
        clear hsc ho
        by_cases hr : 1 ≤ o.kind ∧ o.kind ≤ 22
        · obtain ⟨hr1, hr2⟩ := hr
          have hD := HDoes.out o wr hr1 hr2
          unfold OpR.agg at hD
          cases hd : D o
          · rw [hd] at hD
            go_wp2_with (go_at_call 40; refine hD.mono ?_; rintro e w2 ⟨rfl, hb2⟩)
            go_roundw
            case rel => exact ⟨k + 1, by omega, by go_num, HBelow.out _ _ _ hI hb2, hb.trans (hb2.mono hb.size)⟩
            case measure => simp [intOf]; omega
          · rw [hd] at hD
            have hS := fun w2 (hb2 : Below wr.heap.size wr w2) => HStep.out o w2 hmem hr1 hr2 hd (hb.trans (hb2.mono hb.size)) (HBelow.out _ _ _ hI hb2)
            unfold OpR.agg at hS
            have HS : Hid _ := hS
            have hH : Hid _ := HHeld.out o.kind hr1 hr2
            clear hS
            go_wp2_with (first | (go_at_call 40; refine hD.mono ?_; rintro e w2 ⟨rfl, hb2⟩; have hS2 := HS.out w2 hb2; have z := ((hs.below hb hbl).below hb2 (Nat.lt_of_lt_of_le hbl hb.size)) k o ho2.out; have z0 : w2.cell? ⟨b, off + k * 6, none⟩ = some (.int .i64 o.kind) := z 0 _ rfl; have z1 : w2.cell? ⟨b, off + k * 6 + 1, none⟩ = some (.int .i64 o.a) := z 1 _ rfl; have z2 : w2.cell? ⟨b, off + k * 6 + 2, none⟩ = some (.int .i64 o.b) := z 2 _ rfl; have z3 : w2.cell? ⟨b, off + k * 6 + 3, none⟩ = some (.int .i64 o.d) := z 3 _ rfl; have z4 : w2.cell? ⟨b, off + k * 6 + 4, none⟩ = some (.string o.s) := z 4 _ rfl; have z5 : w2.cell? ⟨b, off + k * 6 + 5, none⟩ = some (.string o.t) := z 5 _ rfl; clear hD z HS) | (go_at_call 41; refine hS2.mono ?_; rintro e w3 ⟨ok, rfl, hok, hI3, hb3⟩; clear hS2) | (go_at_call 42; refine (HLooks.out w3 hI3 hb3).mono ?_; rintro e w4 ⟨rfl, hI4, hb4⟩))
            all_goals first
              | (refine ⟨⟨k + 1, by omega, by go_num, hI4, hb4⟩, ?_⟩; simp [intOf]; omega)
              | (exfalso; have hnk : ¬ ok = true := by assumption
                 have hbt : (bits BinOp.and IntKind.i64 (held / 2 ^ o.kind.toNat) 1 == 1) = true := by assumption
                 have hf : Hd o.kind = false := by
                   cases hq : Hd o.kind
                   · rfl
                   · exact absurd (hok hq) hnk
                 rw [hH.out hf] at hbt
                 exact absurd hbt (by decide))
        · by_cases h1 : o.kind < 1
          · go_wp2
            go_roundw
            case rel => exact ⟨k + 1, by omega, by go_num, hI, hb⟩
            case measure => simp [intOf]; omega
          · have h2 : 22 < o.kind := by omega
            go_wp2
            go_roundw
            case rel => exact ⟨k + 1, by omega, by go_num, hI, hb⟩
            case measure => simp [intOf]; omega
      · go_wp2
        go_ret
        exact ⟨rfl, hb⟩
    · go_wp2
      go_ret
      exact ⟨rfl, hb⟩
end Go.Proofs.YtdidjdoifpfmmaaGreatDoor
