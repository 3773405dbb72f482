/- package clock: Since, at the dates of two times. -/
import Derived.Test.YtgbbplkpepaidaaGreatDoorMCronTimes14
import Derived.Test.YtgbbplkpepaidaaGreatDoorClockM
import Derived.Test.YtgbbplkpepaidaaGreatDoorMCronTimes31
namespace Go.Proofs.YtgbbplkpepaidaaGreatDoor
open Go.RowKit Go.Shelf
set_option linter.unusedVariables false
set_option linter.unusedSimpArgs false

theorem amon_dnum (j d : Int) : dnum 1 (j / 12) (j % 12 + 1) d = Alm.gst j + d - 1 := by
  unfold dnum Alm.gst
  rw [show j % 12 + 1 - 1 = j % 12 from by omega]; omega
theorem date_ex1 (day : Int) (w : World) (d1 : -4000000 ≤ day) (d2 : day ≤ 4000000) : ∃ y m d, Alm.IsDate 1 day y m d ∧ -20000 ≤ y ∧ y ≤ 20000 := by
  obtain ⟨e, w', fr, ⟨y, m, d, _, hd, y1, y2, _⟩, _⟩ := of_ok 1 day w (by omega) (by omega) d1 d2 []
  exact ⟨y, m, d, hd, y1, y2⟩
/-- do so many months lead to a day that is there? -/
def Leads (i d n : Int) : Prop := (-20000 ≤ (i + n) / 12 ∧ (i + n) / 12 ≤ 20000) ∧ (-4000000 ≤ Alm.amon i d n ∧ Alm.amon i d n ≤ 4000000)
/-! ### package plain -/
end Go.Proofs.YtgbbplkpepaidaaGreatDoor
namespace Go.Proofs.YtgbbplkpepaidaaGreatDoor
open Go.RowKit Go.Shelf
set_option linter.unusedVariables false
set_option linter.unusedSimpArgs false

theorem small0 (M : Int) (h1 : -1000000000000 ≤ M) (h2 : M ≤ 1000000000000) : Small 0 M 0 0 0 := ⟨by omega, ⟨h1, h2⟩, by omega, by omega, by omega⟩
/-- what Since finds -/
structure Found (a b i d F v : Int) : Prop where
  f0 : 0 ≤ F
  f1 : F ≤ 1000000
  leads : Leads i d F
  eq : v = 86400 * Alm.amon i d F + a % 86400
  le : v ≤ b
  days : b - v < 31 * 86400
  next : b < 86400 * Alm.amon i d (F + 1) + a % 86400
end Go.Proofs.YtgbbplkpepaidaaGreatDoor
