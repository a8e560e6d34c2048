import Derived.Test.YtdidjdoifpfmmaaGreatDoorRows
import Derived.JoinedCond
/- The row's closed facts: Trees. -/
namespace Go.Proofs.YtdidjdoifpfmmaaGreatDoor
theorem trees_fact1 : (Rows.treesRow.inPlace == Tryz.prog.inPlace 5) = true := by kernel_rfl
theorem trees_fact2 : (Rows.treesRow.unfollowed == Tryz.prog.unfollowed 5) = true := by kernel_rfl
theorem trees_fact3 : (Rows.treesRow.recurses == Tryz.prog.recurses 5) = true := by kernel_rfl
theorem trees_fact4 : (Rows.treesRow.named == Tryz.prog.varsNamed 5) = true := by kernel_rfl
theorem trees_closed : joinedFacts Tryz.prog 5 Tryz.f5 (OpenSpec.ofChange Rows.treesSpec).bare Rows.treesRow = true := by
  unfold joinedFacts
  simp only [Bool.and_eq_true]
  exact ⟨⟨⟨⟨⟨⟨⟨⟨⟨⟨⟨⟨⟨⟨⟨⟨⟨⟨⟨⟨⟨⟨⟨⟨⟨⟨⟨⟨⟨⟨⟨by kernel_rfl, by kernel_rfl⟩, by kernel_rfl⟩, by kernel_rfl⟩, by kernel_rfl⟩, by kernel_rfl⟩, by kernel_rfl⟩, by kernel_rfl⟩, by kernel_rfl⟩, trees_fact1⟩, trees_fact2⟩, trees_fact3⟩, trees_fact4⟩, by kernel_rfl⟩, by kernel_rfl⟩, by kernel_rfl⟩, by kernel_rfl⟩, by kernel_rfl⟩, by kernel_rfl⟩, by kernel_rfl⟩, by kernel_rfl⟩, by kernel_rfl⟩, by kernel_rfl⟩, by kernel_rfl⟩, by kernel_rfl⟩, by kernel_rfl⟩, by kernel_rfl⟩, by kernel_rfl⟩, by kernel_rfl⟩, by kernel_rfl⟩, by kernel_rfl⟩, by kernel_rfl⟩
end Go.Proofs.YtdidjdoifpfmmaaGreatDoor
