/- DaysMeet: each day has a date in each calendar, and is that date's day; the next day has the next date. -/
import Derived.Test.YtdjeekkpbiiboaaGreatDoorMeetA
namespace Go.Proofs.YtdjeekkpbiiboaaGreatDoor
open Go.RowKit Go.Shelf
set_option linter.unusedVariables false

/-- each day that is there has a date -/
theorem date_ex (c day : Int) (w : World) (h1 : 1 ≤ c) (h2 : c ≤ 10) (d1 : -4000000 ≤ day) (d2 : day ≤ 4000000) : ∃ y m d, Alm.IsDate c day y m d ∧ -20000 ≤ y ∧ y ≤ 20000 := by
  obtain ⟨e, w', fr, ⟨y, m, d, _, hd, y1, y2, _⟩, _⟩ := of_ok c day w h1 h2 d1 d2 []
  exact ⟨y, m, d, hd, y1, y2⟩
theorem derr_of_date (c day y m d : Int) (h1 : 1 ≤ c) (h2 : c ≤ 10) (d1 : -4000000 ≤ day) (d2 : day ≤ 4000000) (y1 : -20000 ≤ y) (y2 : y ≤ 20000) (hd : Alm.IsDate c day y m d) : derr c y m d = 0 ∧ dnum c y m d = day := by
  obtain ⟨a1, a2, a3, a4, a5⟩ := hd
  have e : dnum c y m d = day := by unfold dnum; omega
  refine ⟨?_, e⟩
  unfold derr
  rw [e, if_neg (by omega), if_neg (by omega), if_neg (by omega), if_neg (by omega), if_neg (by omega)]
theorem next_same (c day y m d : Int) (hd : Alm.IsDate c day y m d) (h : d < Alm.mlen c y m) : Alm.IsDate c (day + 1) y m (d + 1) := by
  obtain ⟨a1, a2, a3, a4, a5⟩ := hd
  exact ⟨a1, a2, by omega, by omega, by omega⟩
theorem next_month (c day y m d : Int) (hd : Alm.IsDate c day y m d) (h : d = Alm.mlen c y m) (hm : m < Alm.months c y) : Alm.IsDate c (day + 1) y (m + 1) 1 := by
  obtain ⟨a1, a2, a3, a4, a5⟩ := hd
  have b := Alm.mlen_bd c y (m + 1) (by omega) (by omega)
  have e := Alm.cum_succ c y (m - 1).toNat (by omega)
  have e1 : (((m - 1).toNat : Nat) : Int) + 1 = m := by omega
  have e2 : (m + 1 - 1).toNat = (m - 1).toNat + 1 := by omega
  rw [e1] at e
  exact ⟨by omega, by omega, by omega, by omega, by rw [e2, e]; omega⟩
theorem next_year (c day y m d : Int) (h1 : 1 ≤ c) (h2 : c ≤ 10) (hd : Alm.IsDate c day y m d) (h : d = Alm.mlen c y m) (hm : m = Alm.months c y) : Alm.IsDate c (day + 1) (y + 1) 1 1 := by
  obtain ⟨a1, a2, a3, a4, a5⟩ := hd
  have mb := Alm.months_bd c (y + 1)
  have mb' := Alm.months_bd c y
  have b := Alm.mlen_bd c (y + 1) 1 (by omega) (by omega)
  have e := Alm.cum_succ c y (m - 1).toNat (by omega)
  have e1 : (((m - 1).toNat : Nat) : Int) + 1 = m := by omega
  have e2 : (m - 1).toNat + 1 = Alm.months c y := by omega
  rw [e1, e2, Alm.cum_all] at e
  have s := Alm.start_succ c y h1 h2
  refine ⟨by omega, by omega, by omega, by omega, ?_⟩
  simp [Alm.cum]; omega

end Go.Proofs.YtdjeekkpbiiboaaGreatDoor
