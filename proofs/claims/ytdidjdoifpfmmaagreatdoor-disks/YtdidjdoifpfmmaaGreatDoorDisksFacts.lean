import Derived.Test.YtdidjdoifpfmmaaGreatDoorRows
import Derived.JoinedCond
/- The row's closed facts: Disks. -/
namespace Go.Proofs.YtdidjdoifpfmmaaGreatDoor
theorem disks_fact1 : (Rows.disksRow.inPlace == Tryz.prog.inPlace 4) = true := by kernel_rfl
theorem disks_fact2 : (Rows.disksRow.unfollowed == Tryz.prog.unfollowed 4) = true := by kernel_rfl
theorem disks_fact3 : (Rows.disksRow.recurses == Tryz.prog.recurses 4) = true := by kernel_rfl
theorem disks_fact4 : (Rows.disksRow.named == Tryz.prog.varsNamed 4) = true := by kernel_rfl
theorem disks_closed : joinedFacts Tryz.prog 4 Tryz.f4 (OpenSpec.ofChange Rows.disksSpec).bare Rows.disksRow = true := by
  unfold joinedFacts
  simp only [Bool.and_eq_true]
  exact ⟨⟨⟨⟨⟨⟨⟨⟨⟨⟨⟨⟨⟨⟨⟨⟨⟨⟨⟨⟨⟨⟨⟨⟨⟨⟨⟨⟨⟨⟨⟨by kernel_rfl, by kernel_rfl⟩, by kernel_rfl⟩, by kernel_rfl⟩, by kernel_rfl⟩, by kernel_rfl⟩, by kernel_rfl⟩, by kernel_rfl⟩, by kernel_rfl⟩, disks_fact1⟩, disks_fact2⟩, disks_fact3⟩, disks_fact4⟩, by kernel_rfl⟩, by kernel_rfl⟩, by kernel_rfl⟩, by kernel_rfl⟩, by kernel_rfl⟩, by kernel_rfl⟩, by kernel_rfl⟩, by kernel_rfl⟩, by kernel_rfl⟩, by kernel_rfl⟩, by kernel_rfl⟩, by kernel_rfl⟩, by kernel_rfl⟩, by kernel_rfl⟩, by kernel_rfl⟩, by kernel_rfl⟩, by kernel_rfl⟩, by kernel_rfl⟩, by kernel_rfl⟩
end Go.Proofs.YtdidjdoifpfmmaaGreatDoor
