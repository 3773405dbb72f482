/- package clock: Since, at the dates of two times. -/
import Derived.Test.YtdjeekkpbiiboaaGreatDoorClockF
namespace Go.Proofs.YtdjeekkpbiiboaaGreatDoor
open Go.RowKit Go.Shelf
set_option linter.unusedVariables false
set_option linter.unusedSimpArgs false

theorem small0 (M : Int) (h1 : -1000000000000 ≤ M) (h2 : M ≤ 1000000000000) : Small 0 M 0 0 0 := ⟨by omega, ⟨h1, h2⟩, by omega, by omega, by omega⟩
/-- what Since finds -/
structure Found (a b i d F v : Int) : Prop where
  f0 : 0 ≤ F
  f1 : F ≤ 1000000
  leads : Leads i d F
  eq : v = 86400 * Alm.amon i d F + a % 86400
  le : v ≤ b
  days : b - v < 31 * 86400
  next : b < 86400 * Alm.amon i d (F + 1) + a % 86400
end Go.Proofs.YtdjeekkpbiiboaaGreatDoor
