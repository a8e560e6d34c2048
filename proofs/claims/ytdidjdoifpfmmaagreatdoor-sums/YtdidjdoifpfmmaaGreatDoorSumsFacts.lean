import Derived.Test.YtdidjdoifpfmmaaGreatDoorRows
import Derived.JoinedCond
/- The row's closed facts: Sums. -/
namespace Go.Proofs.YtdidjdoifpfmmaaGreatDoor
theorem sums_fact1 : (Rows.sumsRow.inPlace == Tryz.prog.inPlace 3) = true := by kernel_rfl
theorem sums_fact2 : (Rows.sumsRow.unfollowed == Tryz.prog.unfollowed 3) = true := by kernel_rfl
theorem sums_fact3 : (Rows.sumsRow.recurses == Tryz.prog.recurses 3) = true := by kernel_rfl
theorem sums_fact4 : (Rows.sumsRow.named == Tryz.prog.varsNamed 3) = true := by kernel_rfl
theorem sums_closed : joinedFacts Tryz.prog 3 Tryz.f3 (OpenSpec.ofChange Rows.sumsSpec).bare Rows.sumsRow = true := by
  unfold joinedFacts
  simp only [Bool.and_eq_true]
  exact ⟨⟨⟨⟨⟨⟨⟨⟨⟨⟨⟨⟨⟨⟨⟨⟨⟨⟨⟨⟨⟨⟨⟨⟨⟨⟨⟨⟨⟨⟨⟨by kernel_rfl, by kernel_rfl⟩, by kernel_rfl⟩, by kernel_rfl⟩, by kernel_rfl⟩, by kernel_rfl⟩, by kernel_rfl⟩, by kernel_rfl⟩, by kernel_rfl⟩, sums_fact1⟩, sums_fact2⟩, sums_fact3⟩, sums_fact4⟩, by kernel_rfl⟩, by kernel_rfl⟩, by kernel_rfl⟩, by kernel_rfl⟩, by kernel_rfl⟩, by kernel_rfl⟩, by kernel_rfl⟩, by kernel_rfl⟩, by kernel_rfl⟩, by kernel_rfl⟩, by kernel_rfl⟩, by kernel_rfl⟩, by kernel_rfl⟩, by kernel_rfl⟩, by kernel_rfl⟩, by kernel_rfl⟩, by kernel_rfl⟩, by kernel_rfl⟩, by kernel_rfl⟩
end Go.Proofs.YtdidjdoifpfmmaaGreatDoor
