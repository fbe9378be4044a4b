/-
  DERIVED. GIVEN WITH THE SEED: THE PROGRAM's TIES (one call each: nine closed facts by the kernel) AND EACH ROW's TIE, after the 31st guide's Derived/Test/Toyas{Tie, Card}.lean. No idea stands in it: it is a product of the set-up. Laid BY PROGRAM, IN A SANDBOX (cutbox-door.mjs). By AI agents, Wed Nov 11 2026. No macro, syntax, notation, axiom, sorry.
-/
import Derived.Test.YtafkpmjifgohcaaGreatDoorRows
import Derived.LaidByTextLater
import Derived.SevenTiedAt
import Derived.LaidSub
import Derived.LaidOnce
namespace Go.Proofs.YtafkpmjifgohcaaGreatDoor
open Go
set_option maxRecDepth 100000
theorem seatTie1 : Tryz.prog.laidByTextLater [("errors.errorType", Rows.laid_errors_errorType), ("skipper/api.ErrSize", Rows.laid_skipper_api_ErrSize), ("skipper/api.ErrMagic", Rows.laid_skipper_api_ErrMagic), ("skipper/api.ErrHeader", Rows.laid_skipper_api_ErrHeader), ("skipper/api.ErrEnd", Rows.laid_skipper_api_ErrEnd), ("skipper/api.ErrRange", Rows.laid_skipper_api_ErrRange), ("skipper/api.ErrSum", Rows.laid_skipper_api_ErrSum), ("skipper/api.ErrToken", Rows.laid_skipper_api_ErrToken)] [.handle, .sentinel, .sentinel, .sentinel, .sentinel, .sentinel, .sentinel, .sentinel] true :=
  Program.laidByTextLater_by_one 149 8 2 (by kernel_rfl) (by kernel_rfl) (by kernel_rfl) (by kernel_rfl) (by kernel_rfl) (by kernel_rfl) (fun _ _ => by kernel_rfl)
theorem noOwnUnsafe : Tryz.pinned.checked.prog.headLifts.contains "ownunsafe" = false := by kernel_rfl
theorem tie : Tryz.prog.laidByTextLater [("errors.errorType", Rows.laid_errors_errorType), ("skipper/api.ErrSize", Rows.laid_skipper_api_ErrSize), ("skipper/api.ErrMagic", Rows.laid_skipper_api_ErrMagic), ("skipper/api.ErrHeader", Rows.laid_skipper_api_ErrHeader), ("skipper/api.ErrEnd", Rows.laid_skipper_api_ErrEnd), ("skipper/api.ErrRange", Rows.laid_skipper_api_ErrRange), ("skipper/api.ErrSum", Rows.laid_skipper_api_ErrSum), ("skipper/api.ErrToken", Rows.laid_skipper_api_ErrToken)] [.handle, .sentinel, .sentinel, .sentinel, .sentinel, .sentinel, .sentinel, .sentinel] true :=
  Program.laidByTextLater.sub seatTie1 ["errors.errorType", "skipper/api.ErrSize", "skipper/api.ErrMagic", "skipper/api.ErrHeader", "skipper/api.ErrEnd", "skipper/api.ErrRange", "skipper/api.ErrSum", "skipper/api.ErrToken"] (by kernel_rfl) (by kernel_rfl)
theorem packs_row_tie : Rows.packsRow.laidByTextAt .later Tryz.pinned [.handle, .sentinel, .sentinel, .sentinel, .sentinel, .sentinel, .sentinel, .sentinel] true :=
  OpenClaim.laidByTextAt_later rfl rfl tie noOwnUnsafe
theorem opens_row_tie : Rows.opensRow.laidByTextAt .later Tryz.pinned [.handle, .sentinel, .sentinel, .sentinel, .sentinel, .sentinel, .sentinel, .sentinel] true :=
  OpenClaim.laidByTextAt_later rfl rfl tie noOwnUnsafe
theorem all_row_tie : Rows.allRow.laidByTextAt .later Tryz.pinned [.handle, .sentinel, .sentinel, .sentinel, .sentinel, .sentinel, .sentinel, .sentinel] true :=
  OpenClaim.laidByTextAt_later rfl rfl tie noOwnUnsafe
theorem packsUpto_row_tie : Rows.packsUptoRow.laidByTextAt .later Tryz.pinned [.handle, .sentinel, .sentinel, .sentinel, .sentinel, .sentinel, .sentinel, .sentinel] true :=
  OpenClaim.laidByTextAt_later rfl rfl tie noOwnUnsafe
theorem opensUpto_row_tie : Rows.opensUptoRow.laidByTextAt .later Tryz.pinned [.handle, .sentinel, .sentinel, .sentinel, .sentinel, .sentinel, .sentinel, .sentinel] true :=
  OpenClaim.laidByTextAt_later rfl rfl tie noOwnUnsafe
theorem allUpto_row_tie : Rows.allUptoRow.laidByTextAt .later Tryz.pinned [.handle, .sentinel, .sentinel, .sentinel, .sentinel, .sentinel, .sentinel, .sentinel] true :=
  OpenClaim.laidByTextAt_later rfl rfl tie noOwnUnsafe
end Go.Proofs.YtafkpmjifgohcaaGreatDoor
