import Derived.Test.YtdidjdoifpfmmaaGreatDoorGT1
/- The end of the records, as the program has it. -/
namespace Go.Proofs.YtdidjdoifpfmmaaGreatDoor
def tailV (at_ num crc : Nat) : Value := .agg #[.int .i64 (at_ : Nat), .int .u32 (num : Nat), .int .u32 (crc : Nat)]
end Go.Proofs.YtdidjdoifpfmmaaGreatDoor
