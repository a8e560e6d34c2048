import Derived.Test.YtdidjdoifpfmmaaGreatDoorGA5
import Derived.Deep.QuietTactic
import Derived.BigQuiet
import Derived.Deep.RegionWith
import Derived.Deep.DrawnRows
/- The statements' own loop over a script, with how many steps were made. -/
namespace Go.Proofs.YtdidjdoifpfmmaaGreatDoor
open Go.RowKit Digits
set_option maxHeartbeats 1000000 in
set_option maxRecDepth 3000 in
theorem upTo_gen2 (ops : List OpR) (a0 : Option Addr) (b off cap : Nat) (ha : 0 < ops.length → a0 = some ⟨b, off, none⟩) (made held : Int) (lists : Bool) (w : World) (hs : ScriptAt w b off ops) (hbl : b < w.heap.size) (hn : ops.length ≤ 262144)
    (Inv : Nat → World → Nat → Prop) (D : OpR → Bool) (Hd : Int → Bool)
    (hInit : ∀ w1 pm gk gh ck ch, MakerAt w1 pm gk gh ck ch kList hList → RowIs w1 w.heap.size 73 [.pointer (some ⟨pm, 0, none⟩), .slice none 0 0, .slice none 0 0, .slice none 0 0, .int .i64 0, .int .i64 262144] → Below w.heap.size w w1 → Inv 0 w1 w.heap.size)
    (hMono : ∀ k w1 p, Inv k w1 p → Inv (k + 1) w1 p)
    (hLeft : ∀ k w1 p, Inv k w1 p → ∃ l : Int, w1.cell? ⟨p, 5, none⟩ = some (.int .i64 l))
    (hDoes : ∀ o w1, 1 ≤ o.kind → o.kind ≤ 22 → Calls Tryz.prog 40 #[OpR.agg o, .int .i64 made] w1 fun e w' => e = .returned (.bool (D o)) ∧ Below w1.heap.size w1 w')
    (hBelow : ∀ k w1 w2 p, Inv k w1 p → Below w1.heap.size w1 w2 → Inv k w2 p)
    (hStep : ∀ k o w1, k < ops.length → o ∈ ops → 1 ≤ o.kind → o.kind ≤ 22 → D o = true → Below w.heap.size w w1 → Inv k w1 w.heap.size → (∀ l : Int, w1.cell? ⟨w.heap.size, 5, none⟩ = some (.int .i64 l) → 0 < l) → Calls Tryz.prog 41 #[.pointer (some ⟨w.heap.size, 0, none⟩), OpR.agg o] w1 fun e w' => ∃ ok, e = .returned (.bool ok) ∧ (Hd o.kind = true → ok = true) ∧ Inv (k + 1) w' w.heap.size ∧ Below w.heap.size w w')
    (hLooks : ∀ k w1, Inv k w1 w.heap.size → Below w.heap.size w w1 → Calls Tryz.prog 42 #[.pointer (some ⟨w.heap.size, 0, none⟩)] w1 fun e w' => e = .returned (.bool true) ∧ Inv k w' w.heap.size ∧ Below w.heap.size w w')
    (hHeld : ∀ k : Int, 1 ≤ k → k ≤ 22 → Hd k = false → bits .and .i64 (held / 2 ^ k.toNat) 1 = 0) :
    Calls Tryz.prog 23 #[.slice a0 ops.length cap, .int .i64 made, .int .i64 held, .bool lists] w fun e w' => e = .returned (.int .i64 (-1)) ∧ Below w.heap.size w w' := by
  have HA : Hid _ := ha
  clear ha
  have HInit : Hid _ := hInit
  have HLeft : Hid _ := hLeft
  have HDoes : Hid _ := hDoes
  have HBelow : Hid _ := hBelow
  have HStep : Hid _ := hStep
  have HLooks : Hid _ := hLooks
  have HHeld : Hid _ := hHeld
  have HMono : Hid _ := hMono
  clear hMono
  clear hInit hLeft hDoes hBelow hStep hLooks hHeld
  go_enter Tryz.func23, Tryz.ntmps23
  go_wp2_with (go_at_call 39; refine (newMaker_any _).mono ?_; rintro e w1 ⟨pm, gk, gh, ck, ch, rfl, hM, hb1, hp1, hp2, hp3⟩; have hr := (RowIs.new w 73 [.pointer none, .slice none 0 0, .slice none 0 0, .slice none 0 0, .int .i64 0, .int .i64 262144]).below hb1 (by simp); have hc := hr.cell 0; have hf := hr.frozen 0; simp only [List.getElem?_cons_zero] at hc)
  have hr1 := hr.set 0 (.pointer (some ⟨pm, 0, none⟩))
  have hb2 : Below w.heap.size w (w1.setCell ⟨w.heap.size, 0, none⟩ (.pointer (some ⟨pm, 0, none⟩))) := (((Below.refl _ _).alloc (Nat.le_refl _) _).trans (hb1.mono (by simp))).setCell (Nat.le_refl _) _
  simp only [World.size_alloc] at hp1 hp2 hp3
  have hI := HInit.out _ pm gk gh ck ch (hM.other ⟨w.heap.size, 0, none⟩ (.pointer (some ⟨pm, 0, none⟩)) (by simp; omega) (by simp; omega) (by simp; omega)) hr1 hb2
  clear hr hr1 hc hf hM hb1 hp1 hp2 hp3 HInit
  go_loopw [10] (fun i wr => ∃ k : Nat, k ≤ ops.length ∧ i = .int .i64 k ∧ Inv k wr w.heap.size ∧ Below w.heap.size w wr) (fun i _ => ops.length - (intOf i).toNat)
  case atStart => exact ⟨0, Nat.zero_le _, rfl, hI, hb2⟩
  case round =>
    clear hI hb2
    obtain ⟨k, hk, rfl, hI, hb⟩ := hrel
    obtain ⟨l, hl⟩ := HLeft.out _ _ _ hI
    by_cases hlt : k < ops.length
    · obtain rfl := HA.out (by omega)
      by_cases hl0 : 0 < l
      · obtain ⟨o, ho⟩ : ∃ o, ops[k]? = some o := ⟨ops[k], List.getElem?_eq_getElem hlt⟩
        have hmem : o ∈ ops := List.mem_of_getElem? ho
        have hsc := (hs.below hb hbl) k o ho
        have s0 : wr.cell? ⟨b, off + k * 6, none⟩ = some (.int .i64 o.kind) := hsc 0 _ rfl
        have s1 : wr.cell? ⟨b, off + k * 6 + 1, none⟩ = some (.int .i64 o.a) := hsc 1 _ rfl
        have s2 : wr.cell? ⟨b, off + k * 6 + 2, none⟩ = some (.int .i64 o.b) := hsc 2 _ rfl
        have s3 : wr.cell? ⟨b, off + k * 6 + 3, none⟩ = some (.int .i64 o.d) := hsc 3 _ rfl
        have s4 : wr.cell? ⟨b, off + k * 6 + 4, none⟩ = some (.string o.s) := hsc 4 _ rfl
        have s5 : wr.cell? ⟨b, off + k * 6 + 5, none⟩ = some (.string o.t) := hsc 5 _ rfl
        have ho2 : Hid (ops[k]? = some o) := ho
        clear hsc ho
        by_cases hr : 1 ≤ o.kind ∧ o.kind ≤ 22
        · obtain ⟨hr1, hr2⟩ := hr
          have hD := HDoes.out o wr hr1 hr2
          unfold OpR.agg at hD
          cases hd : D o
          · rw [hd] at hD
            go_wp2_with (go_at_call 40; refine hD.mono ?_; rintro e w2 ⟨rfl, hb2⟩)
            go_roundw
            case rel => exact ⟨k + 1, by omega, by go_num, HMono.out _ _ _ (HBelow.out _ _ _ _ hI hb2), hb.trans (hb2.mono hb.size)⟩
            case measure => simp [intOf]; omega
          · rw [hd] at hD
            have HL2 : Hid (∀ w2, Below wr.heap.size wr w2 → ∀ l' : Int, w2.cell? ⟨w.heap.size, 5, none⟩ = some (.int .i64 l') → 0 < l') := by
              intro w2 hb2 l' hl'
              rw [hb2.cell (World.block_lt_of_cell? wr _ hl), hl] at hl'
              injection hl' with hl'
              injection hl' with _ hl'
              omega
            have hS := fun w2 (hb2 : Below wr.heap.size wr w2) => HStep.out k o w2 hlt hmem hr1 hr2 hd (hb.trans (hb2.mono hb.size)) (HBelow.out _ _ _ _ hI hb2) (HL2.out w2 hb2)
            unfold OpR.agg at hS
            have HS : Hid _ := hS
            have hH : Hid _ := HHeld.out o.kind hr1 hr2
            clear hS
            go_wp2_with (first | (go_at_call 40; refine hD.mono ?_; rintro e w2 ⟨rfl, hb2⟩; have hS2 := HS.out w2 hb2; have z := ((hs.below hb hbl).below hb2 (Nat.lt_of_lt_of_le hbl hb.size)) k o ho2.out; have z0 : w2.cell? ⟨b, off + k * 6, none⟩ = some (.int .i64 o.kind) := z 0 _ rfl; have z1 : w2.cell? ⟨b, off + k * 6 + 1, none⟩ = some (.int .i64 o.a) := z 1 _ rfl; have z2 : w2.cell? ⟨b, off + k * 6 + 2, none⟩ = some (.int .i64 o.b) := z 2 _ rfl; have z3 : w2.cell? ⟨b, off + k * 6 + 3, none⟩ = some (.int .i64 o.d) := z 3 _ rfl; have z4 : w2.cell? ⟨b, off + k * 6 + 4, none⟩ = some (.string o.s) := z 4 _ rfl; have z5 : w2.cell? ⟨b, off + k * 6 + 5, none⟩ = some (.string o.t) := z 5 _ rfl; clear hD z HS) | (go_at_call 41; refine hS2.mono ?_; rintro e w3 ⟨ok, rfl, hok, hI3, hb3⟩; clear hS2) | (go_at_call 42; refine (HLooks.out _ w3 hI3 hb3).mono ?_; rintro e w4 ⟨rfl, hI4, hb4⟩))
            all_goals first
              | (refine ⟨⟨k + 1, by omega, by go_num, hI4, hb4⟩, ?_⟩; simp [intOf]; omega)
              | (exfalso; have hnk : ¬ ok = true := by assumption
                 have hbt : (bits BinOp.and IntKind.i64 (held / 2 ^ o.kind.toNat) 1 == 1) = true := by assumption
                 have hf : Hd o.kind = false := by
                   cases hq : Hd o.kind
                   · rfl
                   · exact absurd (hok hq) hnk
                 rw [hH.out hf] at hbt
                 exact absurd hbt (by decide))
        · by_cases h1 : o.kind < 1
          · go_wp2
            go_roundw
            case rel => exact ⟨k + 1, by omega, by go_num, HMono.out _ _ _ hI, hb⟩
            case measure => simp [intOf]; omega
          · have h2 : 22 < o.kind := by omega
            go_wp2
            go_roundw
            case rel => exact ⟨k + 1, by omega, by go_num, HMono.out _ _ _ hI, hb⟩
            case measure => simp [intOf]; omega
      · go_wp2
        go_ret
        exact ⟨rfl, hb⟩
    · go_wp2
      go_ret
      exact ⟨rfl, hb⟩
end Go.Proofs.YtdidjdoifpfmmaaGreatDoor
namespace Go.Proofs.YtdidjdoifpfmmaaGreatDoor
open Go.RowKit Digits

/-- Is a script small enough that something is claimed of it? -/
def Fits (ops : List OpR) : Prop := ops.length ≤ 262144 ∧ ∀ o ∈ ops, o.s.size ≤ 262144 ∧ o.t.size ≤ 262144

set_option maxHeartbeats 1000000 in
set_option maxRecDepth 3000 in
theorem small_any (ops : List OpR) (a0 : Option Addr) (b off cap : Nat) (ha : 0 < ops.length → a0 = some ⟨b, off, none⟩) (w : World) (hs : ScriptAt w b off ops) (hlen : ops.length ≤ maxLen) (hz : ∀ o ∈ ops, o.s.size ≤ 140737488351232 ∧ o.t.size ≤ 140737488351232) :
    Calls Tryz.prog 22 #[.slice a0 ops.length cap] w fun e w' => ∃ f, e = .returned (.bool f) ∧ (f = true → Fits ops) ∧ Below w.heap.size w w' := by
  unfold maxLen at hlen
  have HA : Hid _ := ha
  have HZ : Hid _ := hz
  clear ha hz
  by_cases hbig : 262144 < ops.length
  · have hbig' : (262144 : Int) < (ops.length : Int) := by omega
    go_enter Tryz.func22, Tryz.ntmps22
    go_wp2
    go_ret
    exact ⟨false, rfl, fun h => (Bool.noConfusion h), Below.refl _ _⟩
  · have hbig' : ¬ (262144 : Int) < (ops.length : Int) := by omega
    go_enter Tryz.func22, Tryz.ntmps22
    go_wp2
    go_loopw [3, 4] (fun n i wr => ∃ (k : Nat) (m : Nat), k ≤ ops.length ∧ i = .int .i64 k ∧ n = .int .i64 m ∧ m ≤ 262144 ∧ Hid (∀ j o, j < k → ops[j]? = some o → o.s.size ≤ 262144 ∧ o.t.size ≤ 262144) ∧ Below w.heap.size w wr ∧ Hid (wr.heap = w.heap)) (fun _ i _ => ops.length - (intOf i).toNat)
    case atStart => exact ⟨0, ops.length, Nat.zero_le _, rfl, rfl, by omega, fun j o hj => absurd hj (Nat.not_lt_zero _), Below.refl _ _, rfl⟩
    case round =>
      obtain ⟨k, m, hk, rfl, rfl, hm, hall, hb, hhp⟩ := hrel
      by_cases hlt : k < ops.length
      · obtain rfl := HA.out (by omega)
        obtain ⟨o, ho⟩ : ∃ o, ops[k]? = some o := ⟨ops[k], List.getElem?_eq_getElem hlt⟩
        have hz := HZ.out o (List.mem_of_getElem? ho)
        have s4 : wr.cell? ⟨b, off + k * 6 + 4, none⟩ = some (.string o.s) := by rw [← hs k o ho 4 _ rfl]; simp only [World.cell?, hhp.out]
        have s5 : wr.cell? ⟨b, off + k * 6 + 5, none⟩ = some (.string o.t) := by rw [← hs k o ho 5 _ rfl]; simp only [World.cell?, hhp.out]
        have ho2 : Hid (ops[k]? = some o) := ho
        obtain ⟨z1, z2⟩ := hz
        clear ho
        by_cases hgt : 262144 < m + o.s.size + o.t.size
        · have hgt' : (262144 : Int) < (m : Int) + (o.s.size : Int) + (o.t.size : Int) := by omega
          go_wp2
          go_quiet (fail)
          go_wp2
          go_ret
          exact ⟨false, rfl, fun h => (Bool.noConfusion h), below_drewN hb _⟩
        · have hgt' : ¬ (262144 : Int) < (m : Int) + (o.s.size : Int) + (o.t.size : Int) := by omega
          go_wp2
          go_quiet (fail)
          have hb2 := below_drewN hb nq
          have hh2 : Hid ((wr.drewN nq).heap = w.heap) := hhp.out
          generalize wr.drewN nq = wq at hb2 hh2 ⊢
          go_wp2
          go_roundw
          case rel =>
            refine ⟨k + 1, m + o.s.size + o.t.size, by omega, by go_num, by go_num, by omega, ?_, hb2, hh2⟩
            intro j p hj hp
            by_cases e : j = k
            · subst e
              obtain rfl : o = p := Option.some.inj (ho2.out.symm.trans hp)
              omega
            · exact hall.out j p (by omega) hp
          case measure => simp [intOf]; omega
      · have hf : Hid (Fits ops) := ⟨by omega, fun o ho => by
          obtain ⟨j, hj, rfl⟩ := List.mem_iff_getElem.1 ho
          exact hall.out j _ (by omega) (List.getElem?_eq_getElem hj)⟩
        go_wp2
        go_ret
        exact ⟨true, rfl, fun _ => hf.out, hb⟩
end Go.Proofs.YtdidjdoifpfmmaaGreatDoor
namespace Go.Proofs.YtdidjdoifpfmmaaGreatDoor
open Go.RowKit Digits

theorem not_false {f : Bool} (h : (!f) = false) : f = true := by cases f <;> simp_all

set_option maxHeartbeats 1000000 in
theorem plays_gen (ops : List OpR) (a0 : Option Addr) (b off cap : Nat) (ha : 0 < ops.length → a0 = some ⟨b, off, none⟩) (made held : Int) (lists : Bool) (w : World) (hs : ScriptAt w b off ops) (hlen : ops.length ≤ maxLen) (hz : ∀ o ∈ ops, o.s.size ≤ 140737488351232 ∧ o.t.size ≤ 140737488351232)
    (hUp : ∀ w1, Below w.heap.size w w1 → Fits ops → Calls Tryz.prog 23 #[.slice a0 ops.length cap, .int .i64 made, .int .i64 held, .bool lists] w1 fun e w' => e = .returned (.int .i64 (-1)) ∧ Below w1.heap.size w1 w') :
    Calls Tryz.prog 13 #[.slice a0 ops.length cap, .int .i64 made, .int .i64 held, .bool lists] w fun e w' => e = .returned (.bool true) ∧ Below w.heap.size w w' := by
  have hS := small_any ops a0 b off cap ha w hs hlen hz
  have HU : Hid _ := hUp
  clear hUp ha hs hz
  go_enter Tryz.func13, Tryz.ntmps13
  go_wp2_with (first | (go_at_call 22; refine hS.mono ?_; rintro e w1 ⟨f, rfl, hf, hb1⟩; clear hS) | (go_at_call 23; refine (HU.out w1 hb1 (hf (not_false (by assumption)))).mono ?_; rintro e w2 ⟨rfl, hb2⟩))
  all_goals go_ret
  all_goals first | exact ⟨rfl, hb1.trans (hb2.mono hb1.size)⟩ | exact ⟨rfl, hb1⟩
end Go.Proofs.YtdidjdoifpfmmaaGreatDoor
namespace Go.Proofs.YtdidjdoifpfmmaaGreatDoor
open Go.RowKit Digits

set_option maxHeartbeats 1000000 in
set_option maxRecDepth 3000 in
theorem does_sums (o : OpR) (w : World) (h1 : 1 ≤ o.kind) (h2 : o.kind ≤ 22) :
    Calls Tryz.prog 40 #[OpR.agg o, .int .i64 6] w fun e w' => e = .returned (.bool (decide (o.kind = 1 ∨ o.kind = 2))) ∧ Below w.heap.size w w' := by
  unfold OpR.agg
  obtain ⟨k, a, b, d, s, t⟩ := o
  simp only at h1 h2 ⊢
  obtain ⟨n, rfl⟩ := Int.eq_ofNat_of_zero_le (show 0 ≤ k by omega)
  have hb : bits .and .i64 ((6 : Int) / 2 ^ n) 1 = if n = 1 ∨ n = 2 then 1 else 0 := by
    have key : ∀ n : Fin 23, 1 ≤ n.val → bits .and .i64 ((6 : Int) / 2 ^ n.val) 1 = if n.val = 1 ∨ n.val = 2 then 1 else 0 := by decide
    exact key ⟨n, by omega⟩ (show 1 ≤ n by omega)
  by_cases hn : n = 1 ∨ n = 2
  · rw [if_pos hn] at hb
    have hd : decide ((n : Int) = 1 ∨ (n : Int) = 2) = true := by simp; omega
    have hne1 : ((n : Int) == 19) = false := by simp; omega
    have hne2 : ((n : Int) == 20) = false := by simp; omega
    go_enter Tryz.func40, Tryz.ntmps40
    go_wp2
    go_ret
    exact ⟨by rw [hd]; rfl, (Below.refl _ _).alloc (Nat.le_refl _) _⟩
  · rw [if_neg hn] at hb
    have hd : decide ((n : Int) = 1 ∨ (n : Int) = 2) = false := by simp; omega
    by_cases e19 : n = 19
    · subst e19
      by_cases ea : a = 0
      · subst ea
        go_enter Tryz.func40, Tryz.ntmps40
        go_wp2
        go_ret
        exact ⟨by rw [hd]; rfl, (Below.refl _ _).alloc (Nat.le_refl _) _⟩
      · have ha : (a == 0) = false := by simpa using ea
        go_enter Tryz.func40, Tryz.ntmps40
        go_wp2
        go_ret
        exact ⟨by rw [hd]; rfl, (Below.refl _ _).alloc (Nat.le_refl _) _⟩
    · by_cases e20 : n = 20
      · subst e20
        by_cases ea : a = 0
        · subst ea
          go_enter Tryz.func40, Tryz.ntmps40
          go_wp2
          go_ret
          exact ⟨by rw [hd]; rfl, (Below.refl _ _).alloc (Nat.le_refl _) _⟩
        · have ha : (a == 0) = false := by simpa using ea
          go_enter Tryz.func40, Tryz.ntmps40
          go_wp2
          go_ret
          exact ⟨by rw [hd]; rfl, (Below.refl _ _).alloc (Nat.le_refl _) _⟩
      · have hne1 : ((n : Int) == 19) = false := by simp; omega
        have hne2 : ((n : Int) == 20) = false := by simp; omega
        go_enter Tryz.func40, Tryz.ntmps40
        go_wp2
        go_ret
        exact ⟨by rw [hd]; rfl, (Below.refl _ _).alloc (Nat.le_refl _) _⟩

set_option maxHeartbeats 1000000 in
set_option maxRecDepth 3000 in
theorem does_disks (o : OpR) (w : World) (h1 : 1 ≤ o.kind) (h2 : o.kind ≤ 22) :
    Calls Tryz.prog 40 #[OpR.agg o, .int .i64 4088] w fun e w' => e = .returned (.bool (decide (3 ≤ o.kind ∧ o.kind ≤ 11))) ∧ Below w.heap.size w w' := by
  unfold OpR.agg
  obtain ⟨k, a, b, d, s, t⟩ := o
  simp only at h1 h2 ⊢
  obtain ⟨n, rfl⟩ := Int.eq_ofNat_of_zero_le (show 0 ≤ k by omega)
  have hb : bits .and .i64 ((4088 : Int) / 2 ^ n) 1 = if 3 ≤ n ∧ n ≤ 11 then 1 else 0 := by
    have key : ∀ n : Fin 23, 1 ≤ n.val → bits .and .i64 ((4088 : Int) / 2 ^ n.val) 1 = if 3 ≤ n.val ∧ n.val ≤ 11 then 1 else 0 := by decide
    exact key ⟨n, by omega⟩ (show 1 ≤ n by omega)
  by_cases hn : 3 ≤ n ∧ n ≤ 11
  · rw [if_pos hn] at hb
    have hd : decide (3 ≤ (n : Int) ∧ (n : Int) ≤ 11) = true := by simp; omega
    have hne1 : ((n : Int) == 19) = false := by simp; omega
    have hne2 : ((n : Int) == 20) = false := by simp; omega
    go_enter Tryz.func40, Tryz.ntmps40
    go_wp2
    go_ret
    exact ⟨by rw [hd]; rfl, (Below.refl _ _).alloc (Nat.le_refl _) _⟩
  · rw [if_neg hn] at hb
    have hd : decide (3 ≤ (n : Int) ∧ (n : Int) ≤ 11) = false := by simp; omega
    by_cases e19 : n = 19
    · subst e19
      by_cases ea : a = 0
      · subst ea
        go_enter Tryz.func40, Tryz.ntmps40
        go_wp2
        go_ret
        exact ⟨by rw [hd]; rfl, (Below.refl _ _).alloc (Nat.le_refl _) _⟩
      · have ha : (a == 0) = false := by simpa using ea
        go_enter Tryz.func40, Tryz.ntmps40
        go_wp2
        go_ret
        exact ⟨by rw [hd]; rfl, (Below.refl _ _).alloc (Nat.le_refl _) _⟩
    · by_cases e20 : n = 20
      · subst e20
        by_cases ea : a = 0
        · subst ea
          go_enter Tryz.func40, Tryz.ntmps40
          go_wp2
          go_ret
          exact ⟨by rw [hd]; rfl, (Below.refl _ _).alloc (Nat.le_refl _) _⟩
        · have ha : (a == 0) = false := by simpa using ea
          go_enter Tryz.func40, Tryz.ntmps40
          go_wp2
          go_ret
          exact ⟨by rw [hd]; rfl, (Below.refl _ _).alloc (Nat.le_refl _) _⟩
      · have hne1 : ((n : Int) == 19) = false := by simp; omega
        have hne2 : ((n : Int) == 20) = false := by simp; omega
        go_enter Tryz.func40, Tryz.ntmps40
        go_wp2
        go_ret
        exact ⟨by rw [hd]; rfl, (Below.refl _ _).alloc (Nat.le_refl _) _⟩
end Go.Proofs.YtdidjdoifpfmmaaGreatDoor
namespace Go.Proofs.YtdidjdoifpfmmaaGreatDoor
open Go.RowKit Digits

/-- No list was handed out: nothing to look at. -/
theorem looks_none (p : Nat) (w : World) (h : w.cell? ⟨p, 3, none⟩ = some (.slice none 0 0)) :
    Calls Tryz.prog 42 #[.pointer (some ⟨p, 0, none⟩)] w fun e w' => e = .returned (.bool true) ∧ w = w' := by
  go_enter Tryz.func42, Tryz.ntmps42
  go_wp2
  refine wp_loop_rounds 1 ?_
  rw [rounds_succ]
  go_wp2
  go_ret
  exact ⟨rfl, rfl⟩

set_option maxHeartbeats 1000000 in
set_option maxRecDepth 20000 in
/-- A step that sums: what the program answers is what the document does. -/
theorem step_sum (o : OpR) (hk : o.kind = 1) (p pm : Nat) (w : World) (hm : w.cell? ⟨p, 0, none⟩ = some (.pointer (some ⟨pm, 0, none⟩))) (x : ByteArray)
    (hD : ∀ w1, Below w.heap.size w w1 → Calls Tryz.prog 65 #[.string o.s] w1 fun e w' => e = .returned (.string x) ∧ Below w1.heap.size w1 w')
    (hR : ∀ w1, Below w.heap.size w w1 → Calls Tryz.prog 66 #[.pointer (some ⟨pm, 0, none⟩), .string o.s] w1 fun e w' => e = .returned (.string x) ∧ Below w1.heap.size w1 w') :
    Calls Tryz.prog 41 #[.pointer (some ⟨p, 0, none⟩), OpR.agg o] w fun e w' => e = .returned (.bool true) ∧ Below w.heap.size w w' := by
  unfold OpR.agg
  obtain ⟨k, a, b, d, s, t⟩ := o
  simp only at hk hD hR ⊢
  subst hk
  have hlt : p < w.heap.size := lt_of_cell hm
  have HD : Hid _ := hD
  have HR : Hid _ := hR
  clear hD hR
  go_enter Tryz.func41, Tryz.ntmps41
  go_wp2_with (go_at_call 65; refine (HD.out _ ((Below.refl _ _).alloc (Nat.le_refl _) _)).mono ?_; rintro e w1 ⟨rfl, hb1⟩; have hm1 : w1.cell? ⟨p, 0, none⟩ = some (.pointer (some ⟨pm, 0, none⟩)) := (by rw [hb1.cell (by simp; omega), World.cell?_alloc_lt _ _ _ hlt]; exact hm); have hs1 : w1.cell? ⟨w.heap.size, 4, none⟩ = some (.string s) := (by rw [hb1.cell (by simp)]; simp); have hb2 : Below w.heap.size w w1 := ((Below.refl _ _).alloc (Nat.le_refl _) _).trans (hb1.mono (by simp)))
  go_region_with (go_at_call 66; refine (HR.out _ hb2.drew).mono ?_; rintro e w2 ⟨rfl, hb3⟩)
  all_goals go_wp2
  all_goals go_ret
  all_goals exact ⟨rfl, hb2.drew.trans (hb3.mono hb2.drew.size)⟩

set_option maxHeartbeats 1000000 in
set_option maxRecDepth 20000 in
/-- A step that asks for a CRC. -/
theorem step_crc (o : OpR) (hk : o.kind = 2) (p : Nat) (w : World) (x : Int) (hs : o.s.size ≤ 1000000)
    (hx : x = (crc (textOf o.s) : Nat))
    (hD : ∀ w1, Below w.heap.size w w1 → Calls Tryz.prog 67 #[.string o.s] w1 fun e w' => e = .returned (.int .i64 x) ∧ Below w1.heap.size w1 w') :
    Calls Tryz.prog 41 #[.pointer (some ⟨p, 0, none⟩), OpR.agg o] w fun e w' => e = .returned (.bool true) ∧ Below w.heap.size w w' := by
  unfold OpR.agg
  obtain ⟨k, a, b, d, s, t⟩ := o
  simp only at hk hD hs hx ⊢
  subst hk
  have hC := crcRef_any s
  rw [← hx] at hC
  have HD : Hid _ := hD
  clear hD hx
  go_enter Tryz.func41, Tryz.ntmps41
  go_wp2_with (first | (go_at_call 67; refine (HD.out _ ((Below.refl _ _).alloc (Nat.le_refl _) _)).mono ?_; rintro e w1 ⟨rfl, hb1⟩; have hs1 : w1.cell? ⟨w.heap.size, 4, none⟩ = some (.string s) := (by rw [hb1.cell (by simp)]; simp); have hb2 : Below w.heap.size w w1 := ((Below.refl _ _).alloc (Nat.le_refl _) _).trans (hb1.mono (by simp)); clear HD) | (go_at_call 68; refine (hC _ hs).mono ?_; rintro e w2 ⟨rfl, rfl⟩))
  go_ret
  exact ⟨rfl, hb2⟩
end Go.Proofs.YtdidjdoifpfmmaaGreatDoor
