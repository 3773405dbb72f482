/- The reference's Cuts, Unfold. -/
import Derived.Test.YtponocolfjkapaaDoorUnfM
import Derived.Test.YtponocolfjkapaaDoorTxlC
import Derived.Laws.OwnMore
import Derived.Deep.AppendLies
import Derived.Deep.CutRange
import Derived.Deep.Cut
namespace Go.Proofs.YtponocolfjkapaaDoor
open Go.RowKit
set_option linter.unusedVariables false
set_option linter.unusedSimpArgs false

theorem drop_split (l : List UInt8) (f i : Nat) (h1 : f ≤ i) (h2 : i < l.length) : l.drop f = (l.drop f).take (i - f) ++ l[i] :: l.drop (i + 1) := by
  conv => lhs; rw [← List.take_append_drop (i - f) (l.drop f)]
  congr 1
  rw [List.drop_drop, show f + (i - f) = i by omega]
  exact List.drop_eq_getElem_cons h2
end Go.Proofs.YtponocolfjkapaaDoor
