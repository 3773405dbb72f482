/- Weeks: package plain. -/
import Derived.Test.YtdjeekkpbiiboaaGreatDoorWeekB
namespace Go.Proofs.YtdjeekkpbiiboaaGreatDoor
open Go.RowKit Go.Shelf
set_option linter.unusedVariables false

/-! ### the mathematics of weeks -/
theorem start1_succ (Y : Int) : Alm.start 1 (Y + 1) = Alm.start 1 Y + 365 ∨ Alm.start 1 (Y + 1) = Alm.start 1 Y + 366 := by
  have h := Alm.start_succ 1 Y (by omega) (by omega)
  have l := Alm.l01_bd 1 Y
  rw [h]; unfold Alm.ylen Alm.base; simp; omega
theorem week_math (day Y : Int) (hy : yr 1 (day - ((day + 3) % 7 + 1) + 4) Y) :
    fmon Y + 7 * ((day - fmon Y) / 7 + 1 - 1) + ((day + 3) % 7 + 1) - 1 = day ∧ 1 ≤ (day - fmon Y) / 7 + 1 ∧ (day - fmon Y) / 7 + 1 ≤ (fmon (Y + 1) - fmon Y) / 7 ∧ ((fmon (Y + 1) - fmon Y) / 7 = 52 ∨ (fmon (Y + 1) - fmon Y) / 7 = 53) := by
  obtain ⟨a, b⟩ := hy
  have s := start1_succ Y
  unfold fmon
  generalize Alm.start 1 (Y + 1) = s1 at *
  generalize Alm.start 1 Y = s0 at *
  refine ⟨?_, ?_, ?_, ?_⟩ <;> omega
theorem week_next (day Y Z : Int) (hy : yr 1 (day - ((day + 3) % 7 + 1) + 4) Y) (hz : yr 1 (day + 7 - ((day + 7 + 3) % 7 + 1) + 4) Z) :
    (Z = Y ∧ (day + 7 - fmon Z) / 7 + 1 = (day - fmon Y) / 7 + 1 + 1) ∨ (Z = Y + 1 ∧ (day + 7 - fmon Z) / 7 + 1 = 1 ∧ (day - fmon Y) / 7 + 1 = (fmon (Y + 1) - fmon Y) / 7) := by
  have s := start1_succ Y
  have e : (day + 7 + 3) % 7 = (day + 3) % 7 := by omega
  rw [e] at hz
  by_cases h : day + 7 - ((day + 3) % 7 + 1) + 4 < Alm.start 1 (Y + 1)
  · have : Z = Y := Alm.year_unique 1 _ _ _ (by omega) (by omega) hz.1 hz.2 (by have := hy.1; omega) h
    subst this
    left; exact ⟨rfl, by omega⟩
  · have s2 := start1_succ (Y + 1)
    have : Z = Y + 1 := Alm.year_unique 1 _ _ _ (by omega) (by omega) hz.1 hz.2 (by omega) (by have := hy.2; omega)
    subst this
    right
    refine ⟨rfl, ?_⟩
    obtain ⟨a, b⟩ := hy
    clear hz e s2
    unfold fmon
    generalize Alm.start 1 (Y + 1) = s1 at *
    generalize Alm.start 1 Y = s0 at *
    constructor <;> omega
end Go.Proofs.YtdjeekkpbiiboaaGreatDoor
