/- package span: Join; plain.SpanJoin; pick. -/
import Derived.Test.YtnaggcadmfmibaaDoorSpnB
namespace Go.Proofs.YtnaggcadmfmibaaDoor
open Go.RowKit
set_option linter.unusedVariables false
set_option linter.unusedSimpArgs false

/-- a join of two single ways -/
theorem hasB_pow (x i : Nat) (hx : x < 13) (hi : i < 13) : hasB (2 ^ x : Nat) i = decide (i = x) := by
  have h : ∀ x : Fin 13, ∀ i : Fin 13, hasB (2 ^ x.1 : Nat) i.1 = decide (i.1 = x.1) := by decide +kernel
  exact h ⟨x, hx⟩ ⟨i, hi⟩
theorem joinN_pow (x y : Nat) (hx : x < 13) (hy : y < 13) : joinN (2 ^ x : Nat) (2 ^ y : Nat) = Spn.fol x y := by
  have h : ∀ x : Fin 13, ∀ y : Fin 13, joinN (2 ^ x.1 : Nat) (2 ^ y.1 : Nat) = Spn.fol x.1 y.1 := by decide +kernel
  exact h ⟨x, hx⟩ ⟨y, hy⟩
theorem hasB_bit (s z : Nat) : hasB (s : Int) z = s.testBit z := by
  unfold hasB
  rw [Nat.testBit_eq_decide_div_mod_eq]
  rw [Bool.eq_iff_iff]
  simp
  have : (s : Int) / 2 ^ z % 2 = ((s / 2 ^ z % 2 : Nat) : Int) := by simp
  rw [this]
  omega
/-- what plain.SpanOf tells, of whatever spans -/
def ofE (a b c d : Int) : Int := if a < b ∧ c < d then 0 else 13
def ofR (a b c d : Int) : Int := if a < b ∧ c < d then (Spn.way a b c d : Nat) else 0
theorem wrap64_pow (x : Nat) (h : x < 13) : wrap64 (2 ^ x) = ((2 ^ x : Nat) : Int) := by
  have g : ∀ x : Fin 13, wrap64 (2 ^ x.1) = ((2 ^ x.1 : Nat) : Int) := by decide +kernel
  exact g ⟨x, h⟩
theorem wrap_pow (x : Nat) (h : x < 13) : IntKind.i64.wrap (2 ^ x) = ((2 ^ x : Nat) : Int) := by
  have g : ∀ x : Fin 13, IntKind.i64.wrap (2 ^ x.1) = ((2 ^ x.1 : Nat) : Int) := by decide +kernel
  exact g ⟨x, h⟩
end Go.Proofs.YtnaggcadmfmibaaDoor
