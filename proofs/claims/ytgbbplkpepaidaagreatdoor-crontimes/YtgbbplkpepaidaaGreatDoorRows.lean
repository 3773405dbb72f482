/-
  NARROWER THAN 'FOR EVERY INPUT', by the rows' own cells (each row's printed sentence says how): CronTimes: laid.
  DERIVED. THE GIVEN ROWS OF THIS SEAT. 1 by the template 'for every input the law returns true; each argument reads behind the call as it read before'; 0 by the template 'total and deterministic' (their statements: YtgbbplkpepaidaaGreatDoorTotals.lean).
  GIVEN WITH THE SEED: the statements are not yours to turn. If you find one false, say at which input.
  Laid BY PROGRAM, IN A SANDBOX (cutbox-rows.mjs): the forced cells as the released guide's own fill.sh prints them over the translation 852a16f038f78a6e… (all of the seat's roots in one cut). By AI agents, Wed Nov 11 2026. No macro, syntax, notation, axiom, sorry.
-/
import Derived.Test.YtgbbplkpepaidaaGreatDoorChecked
import GoSem.Claim
import GoSem.ClaimJoined
import GoSem.ClaimMapViews
import Derived.JoinedTies
import Derived.KernelRfl
namespace Go.Proofs.YtgbbplkpepaidaaGreatDoor
/- THE CELL 'sum', in the pinned program and in every row, IS THE sha256 OF THE DUMP (.gsa) THAT YtgbbplkpepaidaaGreatDoorProg.lean LOADS. Nothing in Lean hashes anything: it is a label: what it is worth is what the hold of that sum in a sandbox is worth. -/
noncomputable def Tryz.pinned : Pinned := { name := "ytgbbplkpepaidaagreatdoor", sum := "852a16f038f78a6e2715a89ac7cebcd7f5c18987f043e26ad8fc539e327e8aae", checked := Tryz.checked }
namespace Rows
def none {H : Type} : Left H := { results := [], args := [] }

/- WHAT THE LISTED PACKAGE-LEVEL VARIABLES READ AS WHEN THE CALL BEGINS. Each datum BY PROGRAM (the guide's laid-datum.mjs) off the statement by which the dump's own 'gosem.cut.vars' lays the variable. In a bare row this is a premise. The card (YtgbbplkpepaidaaGreatDoorCards.lean) ties it to the program's text. -/
def laid_errors_errorType {H : Type} : DataW H := .iface "internal/reflectlite.rtype" (.agg [.ptr (.lit (.string [101, 114, 114, 111, 114]))])
def laid_almanac_cron_minutes {H : Type} : DataW H := .agg [.lit (.int .i64 0), .lit (.int .i64 59), .lit (.string []), .lit (.int .i64 0)]
def laid_almanac_cron_hours {H : Type} : DataW H := .agg [.lit (.int .i64 0), .lit (.int .i64 23), .lit (.string []), .lit (.int .i64 0)]
def laid_almanac_cron_monthDays {H : Type} : DataW H := .agg [.lit (.int .i64 1), .lit (.int .i64 31), .lit (.string []), .lit (.int .i64 0)]
def laid_almanac_cron_months {H : Type} : DataW H := .agg [.lit (.int .i64 1), .lit (.int .i64 12), .lit (.string [74, 65, 78, 32, 70, 69, 66, 32, 77, 65, 82, 32, 65, 80, 82, 32, 77, 65, 89, 32, 74, 85, 78, 32, 74, 85, 76, 32, 65, 85, 71, 32, 83, 69, 80, 32, 79, 67, 84, 32, 78, 79, 86, 32, 68, 69, 67]), .lit (.int .i64 0)]
def laid_almanac_cron_weekdays {H : Type} : DataW H := .agg [.lit (.int .i64 1), .lit (.int .i64 7), .lit (.string [77, 79, 78, 32, 84, 85, 69, 32, 87, 69, 68, 32, 84, 72, 85, 32, 70, 82, 73, 32, 83, 65, 84, 32, 83, 85, 78]), .lit (.int .i64 7)]
def laid_almanac_cron_places {H : Type} : DataW H := .agg [.lit (.int .i64 1), .lit (.int .i64 5), .lit (.string []), .lit (.int .i64 0)]

/-- 'almanaclaw.CronTimes': WHATEVER THE INPUT: true; the input reads as it did. -/
def cronTimesSpec : ChangeSpec := { name := "cronTimes", fn := fun _ => fun
  | [d1, d2] => { results := [.lit (.bool true)], args := [d1, d2] }
  | _ => none }
def cronTimesRow : OpenClaim := { program := "ytgbbplkpepaidaagreatdoor", sum := "852a16f038f78a6e2715a89ac7cebcd7f5c18987f043e26ad8fc539e327e8aae", func := "almanac/almanaclaw.CronTimes", spec := "cronTimes", inPlace := ["internal/reflectlite.ValueOf", "(internal/reflectlite.Value).Type", "(internal/reflectlite.Value).IsNil", "internal/reflectlite.TypeOf", "(internal/reflectlite.Value).Elem", "(internal/reflectlite.Value).Set"], unfollowed := true, recurses := true, named := ["almanac/cron.minutes", "almanac/cron.hours", "almanac/cron.months", "almanac/cron.monthDays", "almanac/cron.weekdays", "almanac/cron.places", "errors.errorType"], apart := false, laid := [("errors.errorType", laid_errors_errorType), ("almanac/cron.minutes", laid_almanac_cron_minutes), ("almanac/cron.hours", laid_almanac_cron_hours), ("almanac/cron.monthDays", laid_almanac_cron_monthDays), ("almanac/cron.months", laid_almanac_cron_months), ("almanac/cron.weekdays", laid_almanac_cron_weekdays), ("almanac/cron.places", laid_almanac_cron_places)] }
def CronTimesSaid : Prop := cronTimesRow.holds Tryz.pinned (OpenSpec.ofChange cronTimesSpec)

/-- ITS FALSE NEIGHBOUR: 'it returns false'. Refute it at one input. -/
def cronTimesWrong : ChangeSpec := { name := "cronTimes", fn := fun _ => fun
  | [d1, d2] => { results := [.lit (.bool false)], args := [d1, d2] }
  | _ => none }
def CronTimesWrongFalsely : Prop := cronTimesRow.holds Tryz.pinned (OpenSpec.ofChange cronTimesWrong)

/- THE SECOND FORM. 'bulk': how many values and letters a reading holds, each counted each time it is reached (what is shared counts as often as it is met; a slice's spare places count too). A statement '..UptoSaid' is the law's where the arguments, and the package variables that the reading takes, are together of bulk at most 1048576: NARROWER than '..Said'. Prove '..Said' where nothing that the law and all that it calls make is longer than what came in: it says more and counts as full. Else prove '..UptoSaid'. A law counts once. -/
mutual
def uptoBulk {H : Type} : DataW H → Nat
  | .lit (.string bytes) => bytes.length + 1
  | .lit _ => 1
  | .nil => 1
  | .ptr d => uptoBulk d + 1
  | .slice elems spare => uptoBulkAll elems + uptoBulkAll spare + 1
  | .agg parts => uptoBulkAll parts + 1
  | .iface _ d => uptoBulk d + 1
  | .map entries => uptoBulkEntries entries + 1
  | .held _ => 1
def uptoBulkAll {H : Type} : List (DataW H) → Nat
  | [] => 0
  | d :: r => uptoBulk d + uptoBulkAll r
def uptoBulkEntries {H : Type} : List (Lit × DataW H) → Nat
  | [] => 0
  | x :: r => uptoBulkEntry x + uptoBulkEntries r
def uptoBulkEntry {H : Type} : Lit × DataW H → Nat
  | (.string bytes, d) => bytes.length + uptoBulk d + 1
  | (_, d) => uptoBulk d + 1
 end
def uptoSmall : (H : Type) → List (DataW H) → Bool := fun _ ds => decide (uptoBulkAll ds ≤ 1048576)
def OpenSpec.upto (s : _root_.Go.ChangeSpec) : _root_.Go.OpenSpec := { _root_.Go.OpenSpec.ofChange s with cond := some uptoSmall }

/-- 'almanaclaw.CronTimes', WHERE WHAT IT READS IS OF BULK AT MOST 1048576: true; the input reads as it did. -/
def cronTimesUptoRow : OpenClaim := { program := "ytgbbplkpepaidaagreatdoor", sum := "852a16f038f78a6e2715a89ac7cebcd7f5c18987f043e26ad8fc539e327e8aae", func := "almanac/almanaclaw.CronTimes", spec := "cronTimes", inPlace := ["internal/reflectlite.ValueOf", "(internal/reflectlite.Value).Type", "(internal/reflectlite.Value).IsNil", "internal/reflectlite.TypeOf", "(internal/reflectlite.Value).Elem", "(internal/reflectlite.Value).Set"], unfollowed := true, recurses := true, named := ["almanac/cron.minutes", "almanac/cron.hours", "almanac/cron.months", "almanac/cron.monthDays", "almanac/cron.weekdays", "almanac/cron.places", "errors.errorType"], apart := false, laid := [("errors.errorType", laid_errors_errorType), ("almanac/cron.minutes", laid_almanac_cron_minutes), ("almanac/cron.hours", laid_almanac_cron_hours), ("almanac/cron.monthDays", laid_almanac_cron_monthDays), ("almanac/cron.months", laid_almanac_cron_months), ("almanac/cron.weekdays", laid_almanac_cron_weekdays), ("almanac/cron.places", laid_almanac_cron_places)], narrowed := true }
def CronTimesUptoSaid : Prop := cronTimesUptoRow.holds Tryz.pinned (OpenSpec.upto cronTimesSpec)

end Rows
end Go.Proofs.YtgbbplkpepaidaaGreatDoor
