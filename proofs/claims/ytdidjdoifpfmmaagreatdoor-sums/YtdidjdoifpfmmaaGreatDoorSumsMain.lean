import Derived.Test.YtdidjdoifpfmmaaGreatDoorSumsFrame
import Derived.Test.YtdidjdoifpfmmaaGreatDoorRefMain
import Derived.Test.YtdidjdoifpfmmaaGreatDoorSumDev
import Derived.Test.YtdidjdoifpfmmaaGreatDoorCrcDev
import Derived.Test.YtdidjdoifpfmmaaGreatDoorPlays
import Derived.Test.YtdidjdoifpfmmaaGreatDoorDoes
import Derived.Test.YtdidjdoifpfmmaaGreatDoorLooks
import Derived.LaidSub
import Derived.Lib.LaidTab
namespace Go.Proofs.YtdidjdoifpfmmaaGreatDoor
open Go.RowKit Digits

def startLits : List Nat := [1779033703, 3144134277, 1013904242, 2773480762, 1359893119, 2600822924, 528734635, 1541459225]
def roundLits : List Nat := [1116352408, 1899447441, 3049323471, 3921009573, 961987163, 1508970993, 2453635748, 2870763221, 3624381080, 310598401, 607225278, 1426881987, 1925078388, 2162078206, 2614888103, 3248222580, 3835390401, 4022224774, 264347078, 604807628, 770255983, 1249150122, 1555081692, 1996064986, 2554220882, 2821834349, 2952996808, 3210313671, 3336571891, 3584528711, 113926993, 338241895, 666307205, 773529912, 1294757372, 1396182291, 1695183700, 1986661051, 2177026350, 2456956037, 2730485921, 2820302411, 3259730800, 3345764771, 3516065817, 3600352804, 4094571909, 275423344, 430227734, 506948616, 659060556, 883997877, 958139571, 1322822218, 1537002063, 1747873779, 1955562222, 2024104815, 2227730452, 2361852424, 2428436474, 2756734187, 3204031479, 3329325298]
theorem start_eq : startLits = hList := by decide +kernel
theorem rounds_eq : roundLits = kList := by decide +kernel

theorem glob_of_tab {W : World} {name : String} {g : Nat} {l : List Nat} (hg : Tryz.prog.globalNamed name = some g) (h : Lib.TabIs Tryz.prog W name .u32 (l.map fun n : Nat => (n : Int))) : GlobAt W g l := by
  unfold Lib.TabIs World.var? at h
  rw [hg, Option.bind_some] at h
  split at h
  · rename_i cs t fz e
    simp only [Option.some.injEq] at h
    refine ⟨t, fz, ?_⟩
    rw [e, h]
    simp [u32s]
  · cases h

theorem globs_of_laid {W : World} (h : laidMetH Tryz.prog Rows.sumsRow.laid W) : GlobAt W 14 kList ∧ GlobAt W 13 hList := by
  have h1 := (laidMetH_iff.1 h).1
  have a1 := h1.filter (fun x => x.1 == "stow/sums.start")
  have a2 := h1.filter (fun x => x.1 == "stow/sums.rounds")
  have e1 : ((Rows.sumsRow.laid.filter fun x => x.2.handleName?.isNone).filter fun x => x.1 == "stow/sums.start") = [("stow/sums.start", Lib.tabData .u32 (startLits.map fun n : Nat => (n : Int)))] := by kernel_rfl
  have e2 : ((Rows.sumsRow.laid.filter fun x => x.2.handleName?.isNone).filter fun x => x.1 == "stow/sums.rounds") = [("stow/sums.rounds", Lib.tabData .u32 (roundLits.map fun n : Nat => (n : Int)))] := by kernel_rfl
  rw [e1] at a1
  rw [e2] at a2
  have t1 := Lib.tabIs_of_head (P := Tryz.prog) (g := 13) (t := 293) (e := 81) (n := 8) (by kernel_rfl) (by kernel_rfl) Tryz.underlying293 Tryz.underlying81 (by kernel_rfl) (by kernel_rfl) a1
  have t2 := Lib.tabIs_of_head (P := Tryz.prog) (g := 14) (t := 379) (e := 81) (n := 64) (by kernel_rfl) (by kernel_rfl) Tryz.underlying379 Tryz.underlying81 (by kernel_rfl) (by kernel_rfl) a2
  exact ⟨by rw [← rounds_eq]; exact glob_of_tab (by kernel_rfl) t2, by rw [← start_eq]; exact glob_of_tab (by kernel_rfl) t1⟩

theorem kList_lt : ∀ x ∈ kList, x < 4294967296 := by rw [← rounds_eq]; decide +kernel
theorem hList_lt : ∀ x ∈ hList, x < 4294967296 := by rw [← start_eq]; decide +kernel
theorem kList_len : kList.length = 64 := by rw [← rounds_eq]; rfl
theorem hList_list : (ofList hList).list = hList := by rw [← start_eq]; rfl

/-- What stays through a script of sums. -/
structure SumsInv (w : World) (p : Nat) : Prop where
  made : ∃ pm gk gh ck ch, MakerAt w pm gk gh ck ch kList hList ∧ RowIs w p 73 [.pointer (some ⟨pm, 0, none⟩), .slice none 0 0, .slice none 0 0, .slice none 0 0, .int .i64 0, .int .i64 262144]
  k : GlobAt w 14 kList
  h : GlobAt w 13 hList
theorem SumsInv.below {w w' : World} {p : Nat} (i : SumsInv w p) (hb : Below w.heap.size w w') : SumsInv w' p := by
  obtain ⟨pm, gk, gh, ck, ch, hM, hr⟩ := i.made
  exact ⟨⟨pm, gk, gh, ck, ch, hM.below hb, hr.below hb hr.lt⟩, i.k.below hb i.k.lt, i.h.below hb i.h.lt⟩

theorem sums_step {w : World} {p : Nat} (i : SumsInv w p) (o : OpR) (hd : (decide (o.kind = 1 ∨ o.kind = 2)) = true) (hs : o.s.size ≤ 262144) :
    Calls Tryz.prog 41 #[.pointer (some ⟨p, 0, none⟩), OpR.agg o] w fun e w' => e = .returned (.bool true) ∧ Below w.heap.size w w' := by
  obtain ⟨pm, gk, gh, ck, ch, hM, hr⟩ := i.made
  rcases of_decide_eq_true hd with h | h
  · refine step_sum o h p pm w (hr.cell 0) (sumOf kList (ofList hList) (textOf o.s)) ?_ ?_
    · intro w1 hb
      have i1 := i.below hb
      exact sumDev_any kList kList_len kList_lt (ofList hList) (ofList_ok _ hList_lt) o.s (by omega) w1 i1.k (by rw [hList_list]; exact i1.h)
    · intro w1 hb
      exact refSum_any kList hList pm gk gh ck ch o.s (by omega) w1 (hM.below hb) kList_lt hList_lt
  · exact step_crc o h p w _ (by omega) rfl (fun w1 _ => plainCRC_any o.s w1 (by omega))

set_option maxRecDepth 100000 in
set_option maxHeartbeats 1000000 in
theorem sums_upTo (ops : List OpR) (a0 : Option Addr) (b off cap : Nat) (ha : 0 < ops.length → a0 = some ⟨b, off, none⟩) (w : World) (hs : ScriptAt w b off ops) (hbl : b < w.heap.size) (hf : Fits ops) (hk : GlobAt w 14 kList) (hh : GlobAt w 13 hList) :
    Calls Tryz.prog 23 #[.slice a0 ops.length cap, .int .i64 6, .int .i64 6, .bool false] w fun e w' => e = .returned (.int .i64 (-1)) ∧ Below w.heap.size w w' := by
  refine upTo_gen ops a0 b off cap ha 6 6 false w hs hbl hf.1 SumsInv (fun o => decide (o.kind = 1 ∨ o.kind = 2)) (fun k => decide (k = 1 ∨ k = 2)) ?_ ?_ ?_ ?_ ?_ ?_ ?_
  · intro w1 pm gk gh ck ch hM hr hb
    exact ⟨⟨pm, gk, gh, ck, ch, hM, hr⟩, hk.below hb hk.lt, hh.below hb hh.lt⟩
  · intro w1 p i
    obtain ⟨pm, gk, gh, ck, ch, hM, hr⟩ := i.made
    exact ⟨262144, hr.cell 5⟩
  · intro o w1 h1 h2
    exact does_sums o w1 h1 h2
  · intro w1 w2 p i hb
    exact i.below hb
  · intro o w1 ho h1 h2 hd hb i
    refine (sums_step i o hd (hf.2 o ho).1).mono ?_
    rintro e w' ⟨rfl, hb2⟩
    exact ⟨true, rfl, fun _ => rfl, i.below hb2, hb.trans (hb2.mono hb.size)⟩
  · intro w1 i hb
    obtain ⟨pm, gk, gh, ck, ch, hM, hr⟩ := i.made
    refine (looks_none w.heap.size w1 (hr.cell 3)).mono ?_
    rintro e w' ⟨rfl, rfl⟩
    exact ⟨rfl, i, hb⟩
  · intro k h1 h2 hk
    have key : ∀ n : Fin 23, 1 ≤ n.val → ¬ (n.val = 1 ∨ n.val = 2) → bits .and .i64 ((6 : Int) / 2 ^ n.val) 1 = 0 := by decide
    have hn : ¬ (k.toNat = 1 ∨ k.toNat = 2) := by
      have := of_decide_eq_false hk
      omega
    exact key ⟨k.toNat, by omega⟩ (by show 1 ≤ k.toNat; omega) hn

set_option maxRecDepth 100000 in
set_option maxHeartbeats 1000000 in
theorem sums_walk : SumsWalk := by
  intro W ops a0 b off cap ha hs hb hlen hz hL
  obtain ⟨hk, hh⟩ := globs_of_laid hL
  -- of an empty script the block is all one
  obtain ⟨b, off, ha, hs, hb⟩ : ∃ b off, (0 < ops.length → a0 = some ⟨b, off, none⟩) ∧ ScriptAt W b off ops ∧ b < W.heap.size := by
    by_cases h0 : 0 < ops.length
    · exact ⟨b, off, ha, hs, hb h0⟩
    · refine ⟨14, 0, fun h => absurd h h0, ?_, hk.lt⟩
      intro i o hi
      have : ops = [] := List.eq_nil_of_length_eq_zero (by omega)
      rw [this] at hi
      simp at hi
  have hP := plays_gen ops a0 b off cap ha 6 6 false W hs hlen hz (fun w1 hb1 hf => sums_upTo ops a0 b off cap ha w1 (hs.below hb1 hb) (Nat.lt_of_lt_of_le hb hb1.size) hf (hk.below hb1 hk.lt) (hh.below hb1 hh.lt))
  clear hL hs hz
  go_enter Tryz.func3, Tryz.ntmps3
  go_wp2_with (go_at_call 13; refine hP.mono ?_; rintro e w1 ⟨rfl, hb1⟩)
  go_ret
  exact ⟨rfl, hb1⟩

theorem sums_card : Rows.SumsCardSaid := sums_card_of sums_walk
end Go.Proofs.YtdidjdoifpfmmaaGreatDoor
