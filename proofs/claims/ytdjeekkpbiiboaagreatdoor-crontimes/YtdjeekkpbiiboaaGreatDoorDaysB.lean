/- days.Day by its contracts. -/
import Derived.Test.YtdjeekkpbiiboaaGreatDoorPlainA
namespace Go.Proofs.YtdjeekkpbiiboaaGreatDoor
open Go.RowKit Go.Shelf

/-- the number of a date -/
def dnum (c y m d : Int) : Int := Alm.start c y + d - 1 + Alm.cum c y (m - 1).toNat
/-- what is wrong with a date: 0, if nothing is -/
def derr (c y m d : Int) : Int :=
  if c < 1 ∨ 10 < c then 2 else if y < -20000 ∨ 20000 < y then 4 else if m < 1 ∨ Alm.months c y < m then 3 else if d < 1 ∨ Alm.mlen c y m < d then 3 else if dnum c y m d < -4000000 ∨ 4000000 < dnum c y m d then 4 else 0
theorem derr_zero (c y m d : Int) (h : derr c y m d = 0) : (1 ≤ c ∧ c ≤ 10) ∧ (-20000 ≤ y ∧ y ≤ 20000) ∧ (1 ≤ m ∧ m ≤ Alm.months c y) ∧ (1 ≤ d ∧ d ≤ Alm.mlen c y m) ∧ (-4000000 ≤ dnum c y m d ∧ dnum c y m d ≤ 4000000) := by
  unfold derr at h
  (repeat' split at h) <;> first | omega | simp at h

theorem derr_bd (c y m d : Int) : 0 ≤ derr c y m d ∧ derr c y m d ≤ 4 := by unfold derr; (repeat' split) <;> omega
end Go.Proofs.YtdjeekkpbiiboaaGreatDoor
