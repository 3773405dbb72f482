/-
  NARROWER THAN 'FOR EVERY INPUT', by the rows' own cells (each row's printed sentence says how): SpanSolves: laid · SpanKeeps: laid.
  DERIVED. THE GIVEN ROWS OF THIS SEAT. 2 by the template 'for every input the law returns true; each argument reads behind the call as it read before'; 0 by the template 'total and deterministic' (their statements: YtnaggcadmfmibaaDoorTotals.lean).
  GIVEN WITH THE SEED: the statements are not yours to turn. If you find one false, say at which input.
  Laid BY PROGRAM, IN A SANDBOX (cutbox-rows.mjs): the forced cells as the released guide's own fill.sh prints them over the translation 7ca673c28965f5a5… (all of the seat's roots in one cut). By AI agents, Wed Nov 11 2026. No macro, syntax, notation, axiom, sorry.
-/
import Derived.Test.YtnaggcadmfmibaaDoorChecked
import GoSem.Claim
import GoSem.ClaimJoined
import GoSem.ClaimMapViews
import Derived.JoinedTies
import Derived.KernelRfl
namespace Go.Proofs.YtnaggcadmfmibaaDoor
/- THE CELL 'sum', in the pinned program and in every row, IS THE sha256 OF THE DUMP (.gsa) THAT YtnaggcadmfmibaaDoorProg.lean LOADS. Nothing in Lean hashes anything: it is a label: what it is worth is what the hold of that sum in a sandbox is worth. -/
noncomputable def Tryd.pinned : Pinned := { name := "ytnaggcadmfmibaadoor", sum := "7ca673c28965f5a54c56ac979d68349bb804fb5dff7f63fc27cab77cb72179c5", checked := Tryd.checked }
namespace Rows
def none {H : Type} : Left H := { results := [], args := [] }

/- WHAT THE LISTED PACKAGE-LEVEL VARIABLES READ AS WHEN THE CALL BEGINS. Each datum BY PROGRAM (the guide's laid-datum.mjs) off the statement by which the dump's own 'gosem.cut.vars' lays the variable. In a bare row this is a premise. The card (YtnaggcadmfmibaaDoorCards.lean) ties it to the program's text. -/
def laid_errors_errorType {H : Type} : DataW H := .iface "internal/reflectlite.rtype" (.agg [.ptr (.lit (.string [101, 114, 114, 111, 114]))])
def laid_almanac_span_follows {H : Type} : DataW H := .agg [.agg [.lit (.int .u16 1), .lit (.int .u16 1), .lit (.int .u16 1), .lit (.int .u16 1), .lit (.int .u16 31), .lit (.int .u16 31), .lit (.int .u16 1), .lit (.int .u16 1), .lit (.int .u16 1), .lit (.int .u16 1), .lit (.int .u16 31), .lit (.int .u16 31), .lit (.int .u16 8191)], .agg [.lit (.int .u16 1), .lit (.int .u16 1), .lit (.int .u16 1), .lit (.int .u16 2), .lit (.int .u16 28), .lit (.int .u16 28), .lit (.int .u16 2), .lit (.int .u16 1), .lit (.int .u16 1), .lit (.int .u16 2), .lit (.int .u16 28), .lit (.int .u16 224), .lit (.int .u16 7936)], .agg [.lit (.int .u16 1), .lit (.int .u16 1), .lit (.int .u16 7), .lit (.int .u16 4), .lit (.int .u16 28), .lit (.int .u16 28), .lit (.int .u16 4), .lit (.int .u16 7), .lit (.int .u16 391), .lit (.int .u16 388), .lit (.int .u16 2044), .lit (.int .u16 1792), .lit (.int .u16 7936)], .agg [.lit (.int .u16 1), .lit (.int .u16 1), .lit (.int .u16 7), .lit (.int .u16 8), .lit (.int .u16 16), .lit (.int .u16 16), .lit (.int .u16 8), .lit (.int .u16 7), .lit (.int .u16 391), .lit (.int .u16 584), .lit (.int .u16 1072), .lit (.int .u16 2048), .lit (.int .u16 4096)], .agg [.lit (.int .u16 1), .lit (.int .u16 1), .lit (.int .u16 31), .lit (.int .u16 16), .lit (.int .u16 16), .lit (.int .u16 16), .lit (.int .u16 16), .lit (.int .u16 31), .lit (.int .u16 8191), .lit (.int .u16 7216), .lit (.int .u16 7216), .lit (.int .u16 4096), .lit (.int .u16 4096)], .agg [.lit (.int .u16 1), .lit (.int .u16 2), .lit (.int .u16 28), .lit (.int .u16 16), .lit (.int .u16 16), .lit (.int .u16 32), .lit (.int .u16 32), .lit (.int .u16 224), .lit (.int .u16 7936), .lit (.int .u16 7168), .lit (.int .u16 7168), .lit (.int .u16 4096), .lit (.int .u16 4096)], .agg [.lit (.int .u16 1), .lit (.int .u16 2), .lit (.int .u16 4), .lit (.int .u16 8), .lit (.int .u16 16), .lit (.int .u16 32), .lit (.int .u16 64), .lit (.int .u16 128), .lit (.int .u16 256), .lit (.int .u16 512), .lit (.int .u16 1024), .lit (.int .u16 2048), .lit (.int .u16 4096)], .agg [.lit (.int .u16 1), .lit (.int .u16 2), .lit (.int .u16 4), .lit (.int .u16 4), .lit (.int .u16 28), .lit (.int .u16 224), .lit (.int .u16 128), .lit (.int .u16 128), .lit (.int .u16 256), .lit (.int .u16 256), .lit (.int .u16 1792), .lit (.int .u16 1792), .lit (.int .u16 7936)], .agg [.lit (.int .u16 391), .lit (.int .u16 388), .lit (.int .u16 388), .lit (.int .u16 388), .lit (.int .u16 2044), .lit (.int .u16 1792), .lit (.int .u16 256), .lit (.int .u16 256), .lit (.int .u16 256), .lit (.int .u16 256), .lit (.int .u16 1792), .lit (.int .u16 1792), .lit (.int .u16 7936)], .agg [.lit (.int .u16 391), .lit (.int .u16 388), .lit (.int .u16 388), .lit (.int .u16 584), .lit (.int .u16 1072), .lit (.int .u16 1024), .lit (.int .u16 512), .lit (.int .u16 256), .lit (.int .u16 256), .lit (.int .u16 512), .lit (.int .u16 1024), .lit (.int .u16 2048), .lit (.int .u16 4096)], .agg [.lit (.int .u16 391), .lit (.int .u16 388), .lit (.int .u16 2044), .lit (.int .u16 1072), .lit (.int .u16 1072), .lit (.int .u16 1024), .lit (.int .u16 1024), .lit (.int .u16 1792), .lit (.int .u16 7936), .lit (.int .u16 7168), .lit (.int .u16 7168), .lit (.int .u16 4096), .lit (.int .u16 4096)], .agg [.lit (.int .u16 391), .lit (.int .u16 584), .lit (.int .u16 1072), .lit (.int .u16 1072), .lit (.int .u16 1072), .lit (.int .u16 2048), .lit (.int .u16 2048), .lit (.int .u16 2048), .lit (.int .u16 4096), .lit (.int .u16 4096), .lit (.int .u16 4096), .lit (.int .u16 4096), .lit (.int .u16 4096)], .agg [.lit (.int .u16 8191), .lit (.int .u16 7216), .lit (.int .u16 7216), .lit (.int .u16 7216), .lit (.int .u16 7216), .lit (.int .u16 4096), .lit (.int .u16 4096), .lit (.int .u16 4096), .lit (.int .u16 4096), .lit (.int .u16 4096), .lit (.int .u16 4096), .lit (.int .u16 4096), .lit (.int .u16 4096)]]

/-- 'almanaclaw.SpanSolves': WHATEVER THE INPUT: true; the input reads as it did. -/
def spanSolvesSpec : ChangeSpec := { name := "spanSolves", fn := fun _ => fun
  | [d] => { results := [.lit (.bool true)], args := [d] }
  | _ => none }
def spanSolvesRow : OpenClaim := { program := "ytnaggcadmfmibaadoor", sum := "7ca673c28965f5a54c56ac979d68349bb804fb5dff7f63fc27cab77cb72179c5", func := "almanac/almanaclaw.SpanSolves", spec := "spanSolves", inPlace := ["internal/reflectlite.ValueOf", "(internal/reflectlite.Value).Type", "(internal/reflectlite.Value).IsNil", "internal/reflectlite.TypeOf", "(internal/reflectlite.Value).Elem", "(internal/reflectlite.Value).Set"], unfollowed := true, recurses := true, named := ["almanac/span.follows", "errors.errorType"], apart := false, laid := [("errors.errorType", laid_errors_errorType), ("almanac/span.follows", laid_almanac_span_follows)] }
def SpanSolvesSaid : Prop := spanSolvesRow.holds Tryd.pinned (OpenSpec.ofChange spanSolvesSpec)

/-- ITS FALSE NEIGHBOUR: 'it returns false'. Refute it at one input. -/
def spanSolvesWrong : ChangeSpec := { name := "spanSolves", fn := fun _ => fun
  | [d] => { results := [.lit (.bool false)], args := [d] }
  | _ => none }
def SpanSolvesWrongFalsely : Prop := spanSolvesRow.holds Tryd.pinned (OpenSpec.ofChange spanSolvesWrong)

/-- 'almanackeep.SpanKeeps': WHATEVER THE INPUT: true; the input reads as it did. -/
def spanKeepsSpec : ChangeSpec := { name := "spanKeeps", fn := fun _ => fun
  | [d1, d2] => { results := [.lit (.bool true)], args := [d1, d2] }
  | _ => none }
def spanKeepsRow : OpenClaim := { program := "ytnaggcadmfmibaadoor", sum := "7ca673c28965f5a54c56ac979d68349bb804fb5dff7f63fc27cab77cb72179c5", func := "almanac/almanackeep.SpanKeeps", spec := "spanKeeps", inPlace := ["internal/reflectlite.ValueOf", "(internal/reflectlite.Value).Type", "(internal/reflectlite.Value).IsNil", "internal/reflectlite.TypeOf", "(internal/reflectlite.Value).Elem", "(internal/reflectlite.Value).Set"], unfollowed := true, recurses := true, named := ["errors.errorType", "almanac/span.follows"], apart := false, laid := [("errors.errorType", laid_errors_errorType), ("almanac/span.follows", laid_almanac_span_follows)] }
def SpanKeepsSaid : Prop := spanKeepsRow.holds Tryd.pinned (OpenSpec.ofChange spanKeepsSpec)

/-- ITS FALSE NEIGHBOUR: 'it returns false'. Refute it at one input. -/
def spanKeepsWrong : ChangeSpec := { name := "spanKeeps", fn := fun _ => fun
  | [d1, d2] => { results := [.lit (.bool false)], args := [d1, d2] }
  | _ => none }
def SpanKeepsWrongFalsely : Prop := spanKeepsRow.holds Tryd.pinned (OpenSpec.ofChange spanKeepsWrong)

/- THE SECOND FORM. 'bulk': how many values and letters a reading holds, each counted each time it is reached (what is shared counts as often as it is met; a slice's spare places count too). A statement '..UptoSaid' is the law's where the arguments, and the package variables that the reading takes, are together of bulk at most 1048576: NARROWER than '..Said'. Prove '..Said' where nothing that the law and all that it calls make is longer than what came in: it says more and counts as full. Else prove '..UptoSaid'. A law counts once. -/
mutual
def uptoBulk {H : Type} : DataW H → Nat
  | .lit (.string bytes) => bytes.length + 1
  | .lit _ => 1
  | .nil => 1
  | .ptr d => uptoBulk d + 1
  | .slice elems spare => uptoBulkAll elems + uptoBulkAll spare + 1
  | .agg parts => uptoBulkAll parts + 1
  | .iface _ d => uptoBulk d + 1
  | .map entries => uptoBulkEntries entries + 1
  | .held _ => 1
def uptoBulkAll {H : Type} : List (DataW H) → Nat
  | [] => 0
  | d :: r => uptoBulk d + uptoBulkAll r
def uptoBulkEntries {H : Type} : List (Lit × DataW H) → Nat
  | [] => 0
  | x :: r => uptoBulkEntry x + uptoBulkEntries r
def uptoBulkEntry {H : Type} : Lit × DataW H → Nat
  | (.string bytes, d) => bytes.length + uptoBulk d + 1
  | (_, d) => uptoBulk d + 1
 end
def uptoSmall : (H : Type) → List (DataW H) → Bool := fun _ ds => decide (uptoBulkAll ds ≤ 1048576)
def OpenSpec.upto (s : _root_.Go.ChangeSpec) : _root_.Go.OpenSpec := { _root_.Go.OpenSpec.ofChange s with cond := some uptoSmall }

/-- 'almanaclaw.SpanSolves', WHERE WHAT IT READS IS OF BULK AT MOST 1048576: true; the input reads as it did. -/
def spanSolvesUptoRow : OpenClaim := { program := "ytnaggcadmfmibaadoor", sum := "7ca673c28965f5a54c56ac979d68349bb804fb5dff7f63fc27cab77cb72179c5", func := "almanac/almanaclaw.SpanSolves", spec := "spanSolves", inPlace := ["internal/reflectlite.ValueOf", "(internal/reflectlite.Value).Type", "(internal/reflectlite.Value).IsNil", "internal/reflectlite.TypeOf", "(internal/reflectlite.Value).Elem", "(internal/reflectlite.Value).Set"], unfollowed := true, recurses := true, named := ["almanac/span.follows", "errors.errorType"], apart := false, laid := [("errors.errorType", laid_errors_errorType), ("almanac/span.follows", laid_almanac_span_follows)], narrowed := true }
def SpanSolvesUptoSaid : Prop := spanSolvesUptoRow.holds Tryd.pinned (OpenSpec.upto spanSolvesSpec)

/-- 'almanackeep.SpanKeeps', WHERE WHAT IT READS IS OF BULK AT MOST 1048576: true; the input reads as it did. -/
def spanKeepsUptoRow : OpenClaim := { program := "ytnaggcadmfmibaadoor", sum := "7ca673c28965f5a54c56ac979d68349bb804fb5dff7f63fc27cab77cb72179c5", func := "almanac/almanackeep.SpanKeeps", spec := "spanKeeps", inPlace := ["internal/reflectlite.ValueOf", "(internal/reflectlite.Value).Type", "(internal/reflectlite.Value).IsNil", "internal/reflectlite.TypeOf", "(internal/reflectlite.Value).Elem", "(internal/reflectlite.Value).Set"], unfollowed := true, recurses := true, named := ["errors.errorType", "almanac/span.follows"], apart := false, laid := [("errors.errorType", laid_errors_errorType), ("almanac/span.follows", laid_almanac_span_follows)], narrowed := true }
def SpanKeepsUptoSaid : Prop := spanKeepsUptoRow.holds Tryd.pinned (OpenSpec.upto spanKeepsSpec)

end Rows
end Go.Proofs.YtnaggcadmfmibaaDoor
