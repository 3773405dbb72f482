/- package plain: what the statements call: DaysLeap, DaysMonths, DaysLength. -/
import Derived.Test.YtafaacliphdndaaGreatDoorMClockTexts27
import Derived.Test.YtafaacliphdndaaGreatDoorMClockTexts10
namespace Go.Proofs.YtafaacliphdndaaGreatDoor
open Go.RowKit Go.Shelf

/-- what is wrong with a month -/
def merr (c y m : Int) : Int := if c < 1 ∨ 10 < c then 2 else if y < -20000 ∨ 20000 < y then 4 else if m < 1 ∨ Alm.months c y < m then 3 else 0
theorem length_ok (c y m : Int) (w : World) (h1 : 1 ≤ c) (h2 : c ≤ 10) (y1 : -20000 ≤ y) (y2 : y ≤ 20000) (m1 : 1 ≤ m) (m2 : m ≤ Alm.months c y) :
    Calls Tryz.prog 70 #[.int .i64 c, .int .i64 y, .int .i64 m] w fun e w' => e = .returned (.tuple #[.int .i64 (Alm.mlen c y m), .nilIface]) ∧ Below w.heap.size w w' := by
  go_enter Tryz.func70, Tryz.ntmps70
  go_wp2_with fail
  refine (withYear_ok c y _ h1 h2 y1 y2).mono ?_
  rintro e W ⟨g0, l0, g1, l1, g2, l2, g3, l3, rfl, hc, hb⟩
  have hk := lengthOf_ok g0 l0 g1 l1 g2 l2 g3 l3 c y m _ _ (hc.later ((Since.refl _ W).alloc (.cells #[fv g0 l0, fv g1 l1, fv g2 l2, fv g3 l3] 148))) (by omega) (by omega) m1 m2
  have hs := hb.size
  clear hc m2
  go_wp2_with fail
  refine hk.mono ?_
  rintro e w' ⟨rfl, hb2⟩
  go_wp2
  go_ret2
  exact ⟨rfl, (hb.alloc hs _).trans (hb2.mono (by simp; omega))⟩
theorem length_no (c y m : Int) (w : World) (h : c < 1 ∨ 10 < c ∨ y < -20000 ∨ 20000 < y ∨ m < 1 ∨ Alm.months c y < m) :
    Calls Tryz.prog 70 #[.int .i64 c, .int .i64 y, .int .i64 m] w fun e w' => e = .returned (.tuple #[.int .i64 0, .iface 25 (.int .i64 (merr c y m))]) ∧ Below w.heap.size w w' := by
  by_cases hc : c < 1 ∨ 10 < c ∨ y < -20000 ∨ 20000 < y
  · have e : merr c y m = yerr c y := by unfold merr yerr; (repeat' split) <;> first | rfl | omega
    rw [e]
    go_enter Tryz.func70, Tryz.ntmps70
    go_wp2_with fail
    refine (withYear_no c y _ hc).mono ?_
    rintro e W ⟨rfl, hb⟩
    have hs := hb.size
    clear e h hc
    go_wp2
    go_ret2
    exact ⟨rfl, hb.alloc hs _⟩
  · have hm : m < 1 ∨ Alm.months c y < m := by omega
    have e : merr c y m = 3 := by unfold merr; rw [if_neg (by omega), if_neg (by omega), if_pos hm]
    rw [e]
    go_enter Tryz.func70, Tryz.ntmps70
    go_wp2_with fail
    refine (withYear_ok c y _ (by omega) (by omega) (by omega) (by omega)).mono ?_
    rintro e W ⟨g0, l0, g1, l1, g2, l2, g3, l3, rfl, hcal, hb⟩
    have hk := lengthOf_no g0 l0 g1 l1 g2 l2 g3 l3 c y m _ _ (hcal.later ((Since.refl _ W).alloc (.cells #[fv g0 l0, fv g1 l1, fv g2 l2, fv g3 l3] 148))) (by omega) (by omega) hm
    have hs := hb.size
    clear hcal h hc hm e
    go_wp2_with fail
    refine hk.mono ?_
    rintro e w' ⟨rfl, hb2⟩
    go_wp2
    go_ret2
    exact ⟨rfl, (hb.alloc hs _).trans (hb2.mono (by simp; omega))⟩
end Go.Proofs.YtafaacliphdndaaGreatDoor
namespace Go.Proofs.YtafaacliphdndaaGreatDoor
open Go.RowKit Go.Shelf

end Go.Proofs.YtafaacliphdndaaGreatDoor
