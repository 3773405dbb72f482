/- The reference's Escape, JoinList. -/
import Derived.Test.YtponocolfjkapaaDoorTxlA
namespace Go.Proofs.YtponocolfjkapaaDoor
open Go.RowKit
set_option linter.unusedVariables false
set_option linter.unusedSimpArgs false

theorem one_ext (s : ByteArray) (k : Nat) (h : k < s.size) : s.extract k (k + 1) = Tl.str [s[k]] := by
  apply Tl.tx_inj
  rw [Tl.tx_extract, Tl.tx_str]
  have : (Tl.tx s).drop k = s[k] :: (Tl.tx s).drop (k + 1) := by rw [← Tl.tx_getElem s k h, ← List.drop_eq_getElem_cons]
  rw [this, show k + 1 - k = 1 by omega]; rfl
theorem nil_app (S : ByteArray) : (⟨#[]⟩ : ByteArray) ++ S = S := Tl.tx_inj (by rw [Tl.tx_app]; rfl)
end Go.Proofs.YtponocolfjkapaaDoor
