/-
  DERIVED. GIVEN WITH THE SEED: THE PROGRAM's TIES (one call each: nine closed facts by the kernel) AND EACH ROW's TIE, after the 31st guide's Derived/Test/Toyas{Tie, Card}.lean. No idea stands in it: it is a product of the set-up. Laid BY PROGRAM, IN A SANDBOX (cutbox-door.mjs). By AI agents, Wed Nov 11 2026. No macro, syntax, notation, axiom, sorry.
-/
import Derived.Test.YtafkpmjifgohcaaDoorRows
import Derived.LaidByTextLater
import Derived.SevenTiedAt
import Derived.LaidSub
import Derived.LaidOnce
namespace Go.Proofs.YtafkpmjifgohcaaDoor
open Go
set_option maxRecDepth 100000
theorem seatTie1 : Tryd.prog.laidByTextLater [("errors.errorType", Rows.laid_errors_errorType), ("skipper/api.ErrSize", Rows.laid_skipper_api_ErrSize), ("skipper/api.ErrMagic", Rows.laid_skipper_api_ErrMagic), ("skipper/api.ErrHeader", Rows.laid_skipper_api_ErrHeader), ("skipper/api.ErrEnd", Rows.laid_skipper_api_ErrEnd), ("skipper/api.ErrRange", Rows.laid_skipper_api_ErrRange), ("skipper/api.ErrSum", Rows.laid_skipper_api_ErrSum), ("skipper/api.ErrToken", Rows.laid_skipper_api_ErrToken)] [.handle, .sentinel, .sentinel, .sentinel, .sentinel, .sentinel, .sentinel, .sentinel] true :=
  Program.laidByTextLater_by_one 149 8 2 (by kernel_rfl) (by kernel_rfl) (by kernel_rfl) (by kernel_rfl) (by kernel_rfl) (by kernel_rfl) (fun _ _ => by kernel_rfl)
theorem noOwnUnsafe : Tryd.pinned.checked.prog.headLifts.contains "ownunsafe" = false := by kernel_rfl
theorem tie : Tryd.prog.laidByTextLater [("skipper/api.ErrSize", Rows.laid_skipper_api_ErrSize), ("skipper/api.ErrMagic", Rows.laid_skipper_api_ErrMagic), ("skipper/api.ErrHeader", Rows.laid_skipper_api_ErrHeader), ("skipper/api.ErrEnd", Rows.laid_skipper_api_ErrEnd), ("skipper/api.ErrRange", Rows.laid_skipper_api_ErrRange), ("skipper/api.ErrSum", Rows.laid_skipper_api_ErrSum), ("skipper/api.ErrToken", Rows.laid_skipper_api_ErrToken)] [.sentinel, .sentinel, .sentinel, .sentinel, .sentinel, .sentinel, .sentinel] true :=
  Program.laidByTextLater.sub seatTie1 ["skipper/api.ErrSize", "skipper/api.ErrMagic", "skipper/api.ErrHeader", "skipper/api.ErrEnd", "skipper/api.ErrRange", "skipper/api.ErrSum", "skipper/api.ErrToken"] (by kernel_rfl) (by kernel_rfl)
theorem names_row_tie : Rows.namesRow.laidByTextAt .later Tryd.pinned [.sentinel, .sentinel, .sentinel, .sentinel, .sentinel, .sentinel, .sentinel] true :=
  OpenClaim.laidByTextAt_later rfl rfl tie noOwnUnsafe
theorem cut_row_tie : Rows.cutRow.laidByTextAt .later Tryd.pinned [.sentinel, .sentinel, .sentinel, .sentinel, .sentinel, .sentinel, .sentinel] true :=
  OpenClaim.laidByTextAt_later rfl rfl tie noOwnUnsafe
theorem small_row_tie : Rows.smallRow.laidByTextAt .later Tryd.pinned [.sentinel, .sentinel, .sentinel, .sentinel, .sentinel, .sentinel, .sentinel] true :=
  OpenClaim.laidByTextAt_later rfl rfl tie noOwnUnsafe
theorem made_row_tie : Rows.madeRow.laidByTextAt .later Tryd.pinned [.sentinel, .sentinel, .sentinel, .sentinel, .sentinel, .sentinel, .sentinel] true :=
  OpenClaim.laidByTextAt_later rfl rfl tie noOwnUnsafe
theorem along_row_tie : Rows.alongRow.laidByTextAt .later Tryd.pinned [.sentinel, .sentinel, .sentinel, .sentinel, .sentinel, .sentinel, .sentinel] true :=
  OpenClaim.laidByTextAt_later rfl rfl tie noOwnUnsafe
theorem tie2 : Tryd.prog.laidByTextLater [("errors.errorType", Rows.laid_errors_errorType), ("skipper/api.ErrSize", Rows.laid_skipper_api_ErrSize), ("skipper/api.ErrMagic", Rows.laid_skipper_api_ErrMagic), ("skipper/api.ErrHeader", Rows.laid_skipper_api_ErrHeader), ("skipper/api.ErrEnd", Rows.laid_skipper_api_ErrEnd), ("skipper/api.ErrRange", Rows.laid_skipper_api_ErrRange), ("skipper/api.ErrSum", Rows.laid_skipper_api_ErrSum), ("skipper/api.ErrToken", Rows.laid_skipper_api_ErrToken)] [.handle, .sentinel, .sentinel, .sentinel, .sentinel, .sentinel, .sentinel, .sentinel] true :=
  Program.laidByTextLater.sub seatTie1 ["errors.errorType", "skipper/api.ErrSize", "skipper/api.ErrMagic", "skipper/api.ErrHeader", "skipper/api.ErrEnd", "skipper/api.ErrRange", "skipper/api.ErrSum", "skipper/api.ErrToken"] (by kernel_rfl) (by kernel_rfl)
theorem back_row_tie : Rows.backRow.laidByTextAt .later Tryd.pinned [.handle, .sentinel, .sentinel, .sentinel, .sentinel, .sentinel, .sentinel, .sentinel] true :=
  OpenClaim.laidByTextAt_later rfl rfl tie2 noOwnUnsafe
theorem local_row_tie : Rows.localRow.laidByTextAt .later Tryd.pinned [.handle, .sentinel, .sentinel, .sentinel, .sentinel, .sentinel, .sentinel, .sentinel] true :=
  OpenClaim.laidByTextAt_later rfl rfl tie2 noOwnUnsafe
theorem wrong_row_tie : Rows.wrongRow.laidByTextAt .later Tryd.pinned [.handle, .sentinel, .sentinel, .sentinel, .sentinel, .sentinel, .sentinel, .sentinel] true :=
  OpenClaim.laidByTextAt_later rfl rfl tie2 noOwnUnsafe
theorem tie3 : Tryd.prog.laidByTextLater [("skipper/api.ErrSize", Rows.laid_skipper_api_ErrSize), ("skipper/api.ErrMagic", Rows.laid_skipper_api_ErrMagic), ("skipper/api.ErrHeader", Rows.laid_skipper_api_ErrHeader), ("skipper/api.ErrEnd", Rows.laid_skipper_api_ErrEnd), ("skipper/api.ErrSum", Rows.laid_skipper_api_ErrSum), ("skipper/api.ErrToken", Rows.laid_skipper_api_ErrToken)] [.sentinel, .sentinel, .sentinel, .sentinel, .sentinel, .sentinel] true :=
  Program.laidByTextLater.sub seatTie1 ["skipper/api.ErrSize", "skipper/api.ErrMagic", "skipper/api.ErrHeader", "skipper/api.ErrEnd", "skipper/api.ErrSum", "skipper/api.ErrToken"] (by kernel_rfl) (by kernel_rfl)
theorem chunked_row_tie : Rows.chunkedRow.laidByTextAt .later Tryd.pinned [.sentinel, .sentinel, .sentinel, .sentinel, .sentinel, .sentinel] true :=
  OpenClaim.laidByTextAt_later rfl rfl tie3 noOwnUnsafe
theorem namesUpto_row_tie : Rows.namesUptoRow.laidByTextAt .later Tryd.pinned [.sentinel, .sentinel, .sentinel, .sentinel, .sentinel, .sentinel, .sentinel] true :=
  OpenClaim.laidByTextAt_later rfl rfl tie noOwnUnsafe
theorem cutUpto_row_tie : Rows.cutUptoRow.laidByTextAt .later Tryd.pinned [.sentinel, .sentinel, .sentinel, .sentinel, .sentinel, .sentinel, .sentinel] true :=
  OpenClaim.laidByTextAt_later rfl rfl tie noOwnUnsafe
theorem backUpto_row_tie : Rows.backUptoRow.laidByTextAt .later Tryd.pinned [.handle, .sentinel, .sentinel, .sentinel, .sentinel, .sentinel, .sentinel, .sentinel] true :=
  OpenClaim.laidByTextAt_later rfl rfl tie2 noOwnUnsafe
theorem smallUpto_row_tie : Rows.smallUptoRow.laidByTextAt .later Tryd.pinned [.sentinel, .sentinel, .sentinel, .sentinel, .sentinel, .sentinel, .sentinel] true :=
  OpenClaim.laidByTextAt_later rfl rfl tie noOwnUnsafe
theorem localUpto_row_tie : Rows.localUptoRow.laidByTextAt .later Tryd.pinned [.handle, .sentinel, .sentinel, .sentinel, .sentinel, .sentinel, .sentinel, .sentinel] true :=
  OpenClaim.laidByTextAt_later rfl rfl tie2 noOwnUnsafe
theorem madeUpto_row_tie : Rows.madeUptoRow.laidByTextAt .later Tryd.pinned [.sentinel, .sentinel, .sentinel, .sentinel, .sentinel, .sentinel, .sentinel] true :=
  OpenClaim.laidByTextAt_later rfl rfl tie noOwnUnsafe
theorem wrongUpto_row_tie : Rows.wrongUptoRow.laidByTextAt .later Tryd.pinned [.handle, .sentinel, .sentinel, .sentinel, .sentinel, .sentinel, .sentinel, .sentinel] true :=
  OpenClaim.laidByTextAt_later rfl rfl tie2 noOwnUnsafe
theorem chunkedUpto_row_tie : Rows.chunkedUptoRow.laidByTextAt .later Tryd.pinned [.sentinel, .sentinel, .sentinel, .sentinel, .sentinel, .sentinel] true :=
  OpenClaim.laidByTextAt_later rfl rfl tie3 noOwnUnsafe
theorem alongUpto_row_tie : Rows.alongUptoRow.laidByTextAt .later Tryd.pinned [.sentinel, .sentinel, .sentinel, .sentinel, .sentinel, .sentinel, .sentinel] true :=
  OpenClaim.laidByTextAt_later rfl rfl tie noOwnUnsafe
end Go.Proofs.YtafkpmjifgohcaaDoor
