import Derived.Test.YtdidjdoifpfmmaaGreatDoorGATk
import Derived.Test.YtdidjdoifpfmmaaGreatDoorRows
import Derived.JoinedCond
set_option maxRecDepth 100000
set_option maxHeartbeats 16000000
namespace Go.Proofs.YtdidjdoifpfmmaaGreatDoor
open Go.Proofs.Tryz
section
theorem LH:(Rows.onceRow.inPlace==prog.inPlace 11)=true:=by kernel_rfl
theorem LJ:(Rows.onceRow.unfollowed==prog.unfollowed 11)=true:=by kernel_rfl
theorem LK:(Rows.onceRow.recurses==prog.recurses 11)=true:=by kernel_rfl
theorem LM:(Rows.onceRow.named==prog.varsNamed 11)=true:=by kernel_rfl
theorem IK:joinedFacts prog 11 Tryz.f11 (OpenSpec.ofChange Rows.onceSpec).bare Rows.onceRow=true:=by
 unfold joinedFacts;simp only[Bool.and_eq_true];exact⟨⟨⟨⟨⟨⟨⟨⟨⟨⟨⟨⟨⟨⟨⟨⟨⟨⟨⟨⟨⟨⟨⟨⟨⟨⟨⟨⟨⟨⟨⟨by kernel_rfl,by kernel_rfl⟩,by kernel_rfl⟩,by kernel_rfl⟩,by kernel_rfl⟩,by kernel_rfl⟩,by kernel_rfl⟩,by kernel_rfl⟩,by kernel_rfl⟩,LH⟩,LJ⟩,LK⟩,LM⟩,by kernel_rfl⟩,by kernel_rfl⟩,by kernel_rfl⟩,by kernel_rfl⟩,by kernel_rfl⟩,by kernel_rfl⟩,by kernel_rfl⟩,by kernel_rfl⟩,by kernel_rfl⟩,by kernel_rfl⟩,by kernel_rfl⟩,by kernel_rfl⟩,by kernel_rfl⟩,by kernel_rfl⟩,by kernel_rfl⟩,by kernel_rfl⟩,by kernel_rfl⟩,by kernel_rfl⟩,by kernel_rfl⟩
end
end Go.Proofs.YtdidjdoifpfmmaaGreatDoor
