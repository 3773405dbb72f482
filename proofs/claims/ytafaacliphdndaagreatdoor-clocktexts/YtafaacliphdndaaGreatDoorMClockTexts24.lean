/- calendarOf: each calendar by its number. -/
import Derived.Test.YtafaacliphdndaaGreatDoorMClockTexts23
namespace Go.Proofs.YtafaacliphdndaaGreatDoor
open Go.RowKit Go.Shelf

def islamL : List Int := [30, 29, 30, 29, 30, 29, 30, 29, 30, 29, 30, 29]
def persL : List Int := [31, 31, 31, 31, 31, 31, 30, 30, 30, 30, 30, 29]
def sakaL : List Int := [30, 31, 31, 31, 31, 31, 30, 30, 30, 30, 30, 30]
theorem l01_eq (c y : Int) : (if Alm.leap c y = true then 1 else 0 : Int) = Alm.l01 c y := by unfold Alm.l01; rfl
theorem cases12 (m : Int) (h1 : 1 ≤ m) (h2 : m ≤ 12) : m = 1 ∨ m = 2 ∨ m = 3 ∨ m = 4 ∨ m = 5 ∨ m = 6 ∨ m = 7 ∨ m = 8 ∨ m = 9 ∨ m = 10 ∨ m = 11 ∨ m = 12 := by omega
theorem cases13 (m : Int) (h1 : 1 ≤ m) (h2 : m ≤ 13) : m = 1 ∨ m = 2 ∨ m = 3 ∨ m = 4 ∨ m = 5 ∨ m = 6 ∨ m = 7 ∨ m = 8 ∨ m = 9 ∨ m = 10 ∨ m = 11 ∨ m = 12 ∨ m = 13 := by omega
theorem mlen_roman (c y m : Int) (hc : c = 1 ∨ c = 2) (h1 : 1 ≤ m) (h2 : m ≤ 12) : romanL.getD (m - 1).toNat 0 + (if m = 2 ∧ Alm.leap c y = true then 1 else 0) = Alm.mlen c y m := by
  unfold Alm.mlen Alm.lens Alm.l01 romanL
  rcases hc with rfl | rfl <;> rcases cases12 m h1 h2 with rfl | rfl | rfl | rfl | rfl | rfl | rfl | rfl | rfl | rfl | rfl | rfl <;> simp <;> (split <;> simp_all)
theorem months_roman (c y : Int) (hc : c = 1 ∨ c = 2) : (12 : Int) = Alm.months c y := by
  unfold Alm.months Alm.lens
  rcases hc with rfl | rfl <;> simp
theorem mlen_thirteen (c y m : Int) (hc : c = 3 ∨ c = 4 ∨ c = 9 ∨ c = 10) (h1 : 1 ≤ m) (h2 : m ≤ 13) : thirteenL.getD (m - 1).toNat 0 + (if m = 13 ∧ Alm.leap c y = true then 1 else 0) = Alm.mlen c y m := by
  unfold Alm.mlen Alm.lens Alm.l01 thirteenL
  rcases hc with rfl | rfl | rfl | rfl <;> rcases cases13 m h1 h2 with rfl | rfl | rfl | rfl | rfl | rfl | rfl | rfl | rfl | rfl | rfl | rfl | rfl <;> simp <;> (split <;> simp_all)
theorem months_thirteen (c y : Int) (hc : c = 3 ∨ c = 4 ∨ c = 9 ∨ c = 10) : (13 : Int) = Alm.months c y := by
  unfold Alm.months Alm.lens
  rcases hc with rfl | rfl | rfl | rfl <;> simp
theorem mlen_islam (c y m : Int) (hc : c = 5) (h1 : 1 ≤ m) (h2 : m ≤ 12) : islamL.getD (m - 1).toNat 0 + (if m = 12 ∧ Alm.leap c y = true then 1 else 0) = Alm.mlen c y m := by
  unfold Alm.mlen Alm.lens Alm.l01 islamL
  rcases hc with rfl <;> rcases cases12 m h1 h2 with rfl | rfl | rfl | rfl | rfl | rfl | rfl | rfl | rfl | rfl | rfl | rfl <;> simp <;> (split <;> simp_all)
theorem months_islam (c y : Int) (hc : c = 5) : (12 : Int) = Alm.months c y := by
  unfold Alm.months Alm.lens
  rcases hc with rfl <;> simp
theorem mlen_pers (c y m : Int) (hc : c = 6) (h1 : 1 ≤ m) (h2 : m ≤ 12) : persL.getD (m - 1).toNat 0 + (if m = 12 ∧ Alm.leap c y = true then 1 else 0) = Alm.mlen c y m := by
  unfold Alm.mlen Alm.lens Alm.l01 persL
  rcases hc with rfl <;> rcases cases12 m h1 h2 with rfl | rfl | rfl | rfl | rfl | rfl | rfl | rfl | rfl | rfl | rfl | rfl <;> simp <;> (split <;> simp_all)
theorem months_pers (c y : Int) (hc : c = 6) : (12 : Int) = Alm.months c y := by
  unfold Alm.months Alm.lens
  rcases hc with rfl <;> simp
theorem mlen_saka (c y m : Int) (hc : c = 8) (h1 : 1 ≤ m) (h2 : m ≤ 12) : sakaL.getD (m - 1).toNat 0 + (if m = 1 ∧ Alm.leap c y = true then 1 else 0) = Alm.mlen c y m := by
  unfold Alm.mlen Alm.lens Alm.l01 sakaL
  rcases hc with rfl <;> rcases cases12 m h1 h2 with rfl | rfl | rfl | rfl | rfl | rfl | rfl | rfl | rfl | rfl | rfl | rfl <;> simp <;> (split <;> simp_all)
theorem months_saka (c y : Int) (hc : c = 8) : (12 : Int) = Alm.months c y := by
  unfold Alm.months Alm.lens
  rcases hc with rfl <;> simp
end Go.Proofs.YtafaacliphdndaaGreatDoor
