/-
  DERIVED. GIVEN WITH THE SEED: THE PROGRAM's TIES (one call each: nine closed facts by the kernel) AND EACH ROW's TIE, after the 31st guide's Derived/Test/Toyas{Tie, Card}.lean. No idea stands in it: it is a product of the set-up. Laid BY PROGRAM, IN A SANDBOX (cutbox-door.mjs). By AI agents, Wed Nov 11 2026. No macro, syntax, notation, axiom, sorry.
-/
import Derived.Test.YtgbbplkpepaidaaGreatDoorRows
import Derived.LaidByTextLater
import Derived.SevenTiedAt
import Derived.LaidSub
import Derived.LaidOnce
namespace Go.Proofs.YtgbbplkpepaidaaGreatDoor
open Go
set_option maxRecDepth 100000
theorem seatTie1 : Tryz.prog.laidByTextLater [("errors.errorType", Rows.laid_errors_errorType), ("almanac/cron.minutes", Rows.laid_almanac_cron_minutes), ("almanac/cron.hours", Rows.laid_almanac_cron_hours), ("almanac/cron.monthDays", Rows.laid_almanac_cron_monthDays), ("almanac/cron.months", Rows.laid_almanac_cron_months), ("almanac/cron.weekdays", Rows.laid_almanac_cron_weekdays), ("almanac/cron.places", Rows.laid_almanac_cron_places)] [.handle, .wider, .wider, .wider, .wider, .wider, .wider] true :=
  Program.laidByTextLater_by_one 46 8 5 (by kernel_rfl) (by kernel_rfl) (by kernel_rfl) (by kernel_rfl) (by kernel_rfl) (by kernel_rfl) (fun _ _ => by kernel_rfl)
theorem noOwnUnsafe : Tryz.pinned.checked.prog.headLifts.contains "ownunsafe" = false := by kernel_rfl
theorem tie : Tryz.prog.laidByTextLater [("errors.errorType", Rows.laid_errors_errorType), ("almanac/cron.minutes", Rows.laid_almanac_cron_minutes), ("almanac/cron.hours", Rows.laid_almanac_cron_hours), ("almanac/cron.monthDays", Rows.laid_almanac_cron_monthDays), ("almanac/cron.months", Rows.laid_almanac_cron_months), ("almanac/cron.weekdays", Rows.laid_almanac_cron_weekdays), ("almanac/cron.places", Rows.laid_almanac_cron_places)] [.handle, .wider, .wider, .wider, .wider, .wider, .wider] true :=
  Program.laidByTextLater.sub seatTie1 ["errors.errorType", "almanac/cron.minutes", "almanac/cron.hours", "almanac/cron.monthDays", "almanac/cron.months", "almanac/cron.weekdays", "almanac/cron.places"] (by kernel_rfl) (by kernel_rfl)
theorem cronTimes_row_tie : Rows.cronTimesRow.laidByTextAt .later Tryz.pinned [.handle, .wider, .wider, .wider, .wider, .wider, .wider] true :=
  OpenClaim.laidByTextAt_later rfl rfl tie noOwnUnsafe
theorem cronTimesUpto_row_tie : Rows.cronTimesUptoRow.laidByTextAt .later Tryz.pinned [.handle, .wider, .wider, .wider, .wider, .wider, .wider] true :=
  OpenClaim.laidByTextAt_later rfl rfl tie noOwnUnsafe
end Go.Proofs.YtgbbplkpepaidaaGreatDoor
