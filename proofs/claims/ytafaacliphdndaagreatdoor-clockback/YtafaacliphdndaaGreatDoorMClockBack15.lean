/- The table of powers of ten, and package errors' type: what a walk over numerals asks of the world. -/
import Derived.Test.YtafaacliphdndaaGreatDoorMClockBack14
import Derived.Lib.LaidTab
import Derived.Lib.SmallJoins
import Derived.Lib.ItoaNum
namespace Go.Proofs.YtafaacliphdndaaGreatDoor
open Go.RowKit

/-- the table of powers of ten lies as the program's text lays it -/
def Tab (w : World) : Prop := Lib.TabIs Tryz.prog w "internal/strconv.uint64pow10" .u64 Lib.pow10Tab
theorem gPow : Tryz.prog.globalNamed "internal/strconv.uint64pow10" = some 1 := by kernel_rfl
theorem Tab.later {w w' : World} (h : Tab w) (hb : Below w.heap.size w w') : Tab w' := Joins.tab_stays gPow h hb (Nat.le_refl _)
/-- both -/
structure HT (w : World) : Prop where
  hd : Hd w
  tab : Tab w
theorem HT.later {w w' : World} (h : HT w) (hb : Below w.heap.size w w') : HT w' := ⟨h.hd.later hb, h.tab.later hb⟩

end Go.Proofs.YtafaacliphdndaaGreatDoor
