/-
  DERIVED. GIVEN WITH THE SEED: THE PROGRAM's TIES (one call each: nine closed facts by the kernel) AND EACH ROW's TIE, after the 31st guide's Derived/Test/Toyas{Tie, Card}.lean. No idea stands in it: it is a product of the set-up. Laid BY PROGRAM, IN A SANDBOX (cutbox-door.mjs). By AI agents, Wed Nov 11 2026. No macro, syntax, notation, axiom, sorry.
-/
import Derived.Test.YtdidjdoifpfmmaaDoorRows
import Derived.LaidByTextLater
import Derived.SevenTiedAt
import Derived.LaidSub
import Derived.LaidOnce
namespace Go.Proofs.YtdidjdoifpfmmaaDoor
open Go
set_option maxRecDepth 100000
theorem seatTie1 : Tryd.prog.laidByTextLater [("errors.errorType", Rows.laid_errors_errorType), ("stow/archive.ErrArg", Rows.laid_stow_archive_ErrArg), ("stow/archive.ErrDown", Rows.laid_stow_archive_ErrDown), ("stow/archive.ErrFormat", Rows.laid_stow_archive_ErrFormat), ("stow/archive.ErrCorrupt", Rows.laid_stow_archive_ErrCorrupt), ("stow/archive.ErrPath", Rows.laid_stow_archive_ErrPath), ("stow/archive.ErrNone", Rows.laid_stow_archive_ErrNone), ("stow/archive.ErrKind", Rows.laid_stow_archive_ErrKind), ("stow/archive.ErrAgain", Rows.laid_stow_archive_ErrAgain), ("stow/archive.ErrBusy", Rows.laid_stow_archive_ErrBusy), ("stow/archive.ErrMany", Rows.laid_stow_archive_ErrMany), ("stow/archive.ErrBig", Rows.laid_stow_archive_ErrBig), ("stow/archive.ErrFull", Rows.laid_stow_archive_ErrFull)] [.handle, .sentinel, .sentinel, .sentinel, .sentinel, .sentinel, .sentinel, .sentinel, .sentinel, .sentinel, .sentinel, .sentinel, .sentinel] true :=
  Program.laidByTextLater_by_one 259 8 65 (by kernel_rfl) (by kernel_rfl) (by kernel_rfl) (by kernel_rfl) (by kernel_rfl) (by kernel_rfl) (fun _ _ => by kernel_rfl)
theorem noOwnUnsafe : Tryd.pinned.checked.prog.headLifts.contains "ownunsafe" = false := by kernel_rfl
theorem tie : Tryd.prog.laidByTextLater [("errors.errorType", Rows.laid_errors_errorType), ("stow/archive.ErrArg", Rows.laid_stow_archive_ErrArg), ("stow/archive.ErrDown", Rows.laid_stow_archive_ErrDown), ("stow/archive.ErrFormat", Rows.laid_stow_archive_ErrFormat), ("stow/archive.ErrCorrupt", Rows.laid_stow_archive_ErrCorrupt), ("stow/archive.ErrPath", Rows.laid_stow_archive_ErrPath), ("stow/archive.ErrNone", Rows.laid_stow_archive_ErrNone), ("stow/archive.ErrKind", Rows.laid_stow_archive_ErrKind), ("stow/archive.ErrAgain", Rows.laid_stow_archive_ErrAgain), ("stow/archive.ErrBusy", Rows.laid_stow_archive_ErrBusy), ("stow/archive.ErrMany", Rows.laid_stow_archive_ErrMany), ("stow/archive.ErrBig", Rows.laid_stow_archive_ErrBig), ("stow/archive.ErrFull", Rows.laid_stow_archive_ErrFull)] [.handle, .sentinel, .sentinel, .sentinel, .sentinel, .sentinel, .sentinel, .sentinel, .sentinel, .sentinel, .sentinel, .sentinel, .sentinel] true :=
  Program.laidByTextLater.sub seatTie1 ["errors.errorType", "stow/archive.ErrArg", "stow/archive.ErrDown", "stow/archive.ErrFormat", "stow/archive.ErrCorrupt", "stow/archive.ErrPath", "stow/archive.ErrNone", "stow/archive.ErrKind", "stow/archive.ErrAgain", "stow/archive.ErrBusy", "stow/archive.ErrMany", "stow/archive.ErrBig", "stow/archive.ErrFull"] (by kernel_rfl) (by kernel_rfl)
theorem names_row_tie : Rows.namesRow.laidByTextAt .later Tryd.pinned [.handle, .sentinel, .sentinel, .sentinel, .sentinel, .sentinel, .sentinel, .sentinel, .sentinel, .sentinel, .sentinel, .sentinel, .sentinel] true :=
  OpenClaim.laidByTextAt_later rfl rfl tie noOwnUnsafe
theorem namesUpto_row_tie : Rows.namesUptoRow.laidByTextAt .later Tryd.pinned [.handle, .sentinel, .sentinel, .sentinel, .sentinel, .sentinel, .sentinel, .sentinel, .sentinel, .sentinel, .sentinel, .sentinel, .sentinel] true :=
  OpenClaim.laidByTextAt_later rfl rfl tie noOwnUnsafe
end Go.Proofs.YtdidjdoifpfmmaaDoor
