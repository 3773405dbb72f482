/- package plain: what the statements call: DaysLeap, DaysMonths, DaysLength. -/
import Derived.Test.YtcidhedmbcoafaaDoorDaysA
namespace Go.Proofs.YtcidhedmbcoafaaDoor
open Go.RowKit Go.Shelf

theorem pleap_ok (c y : Int) (w : World) (h1 : 1 ≤ c) (h2 : c ≤ 10) (y1 : -20000 ≤ y) (y2 : y ≤ 20000) :
    Calls Tryd.prog 14 #[.int .i64 c, .int .i64 y] w fun e w' => e = .returned (.tuple #[.bool (Alm.leap c y), .int .i64 0]) ∧ Below w.heap.size w w' := by
  go_enter Tryd.func14, Tryd.ntmps14
  go_wp2_with fail
  refine (leap_ok c y _ h1 h2 y1 y2).mono ?_
  rintro e W ⟨rfl, hb⟩
  go_wp2_with fail
  refine (tell_nil _).mono ?_
  rintro e W2 ⟨rfl, hb2⟩
  go_wp2
  go_ret2
  exact ⟨rfl, hb.trans (hb2.mono hb.size)⟩
theorem pleap_no (c y : Int) (w : World) (hd : Hd w) (h : c < 1 ∨ 10 < c ∨ y < -20000 ∨ 20000 < y) :
    Calls Tryd.prog 14 #[.int .i64 c, .int .i64 y] w fun e w' => e = .returned (.tuple #[.bool false, .int .i64 (yerr c y)]) ∧ Below w.heap.size w w' := by
  go_enter Tryd.func14, Tryd.ntmps14
  go_wp2_with fail
  refine (leap_no c y _ h).mono ?_
  rintro e W ⟨rfl, hb⟩
  have hd2 := hd.later hb
  go_wp2_with fail
  refine (tell_err _ _ hd2).mono ?_
  rintro e W2 ⟨rfl, hb2⟩
  go_wp2
  go_ret2
  exact ⟨rfl, hb.trans (hb2.mono hb.size)⟩
theorem pmonths_ok (c y : Int) (w : World) (h1 : 1 ≤ c) (h2 : c ≤ 10) (y1 : -20000 ≤ y) (y2 : y ≤ 20000) :
    Calls Tryd.prog 16 #[.int .i64 c, .int .i64 y] w fun e w' => e = .returned (.tuple #[.int .i64 (Alm.months c y), .int .i64 0]) ∧ Below w.heap.size w w' := by
  go_enter Tryd.func16, Tryd.ntmps16
  go_wp2_with fail
  refine (months_ok c y _ h1 h2 y1 y2).mono ?_
  rintro e W ⟨rfl, hb⟩
  go_wp2_with fail
  refine (tell_nil _).mono ?_
  rintro e W2 ⟨rfl, hb2⟩
  go_wp2
  go_ret2
  exact ⟨rfl, hb.trans (hb2.mono hb.size)⟩
theorem pmonths_no (c y : Int) (w : World) (hd : Hd w) (h : c < 1 ∨ 10 < c ∨ y < -20000 ∨ 20000 < y) :
    Calls Tryd.prog 16 #[.int .i64 c, .int .i64 y] w fun e w' => e = .returned (.tuple #[.int .i64 0, .int .i64 (yerr c y)]) ∧ Below w.heap.size w w' := by
  go_enter Tryd.func16, Tryd.ntmps16
  go_wp2_with fail
  refine (months_no c y _ h).mono ?_
  rintro e W ⟨rfl, hb⟩
  have hd2 := hd.later hb
  go_wp2_with fail
  refine (tell_err _ _ hd2).mono ?_
  rintro e W2 ⟨rfl, hb2⟩
  go_wp2
  go_ret2
  exact ⟨rfl, hb.trans (hb2.mono hb.size)⟩
theorem plength_ok (c y m : Int) (w : World) (h1 : 1 ≤ c) (h2 : c ≤ 10) (y1 : -20000 ≤ y) (y2 : y ≤ 20000) (m1 : 1 ≤ m) (m2 : m ≤ Alm.months c y) :
    Calls Tryd.prog 18 #[.int .i64 c, .int .i64 y, .int .i64 m] w fun e w' => e = .returned (.tuple #[.int .i64 (Alm.mlen c y m), .int .i64 0]) ∧ Below w.heap.size w w' := by
  go_enter Tryd.func18, Tryd.ntmps18
  go_wp2_with fail
  refine (length_ok c y m _ h1 h2 y1 y2 m1 m2).mono ?_
  rintro e W ⟨rfl, hb⟩
  go_wp2_with fail
  refine (tell_nil _).mono ?_
  rintro e W2 ⟨rfl, hb2⟩
  go_wp2
  go_ret2
  exact ⟨rfl, hb.trans (hb2.mono hb.size)⟩
theorem plength_no (c y m : Int) (w : World) (hd : Hd w) (h : c < 1 ∨ 10 < c ∨ y < -20000 ∨ 20000 < y ∨ m < 1 ∨ Alm.months c y < m) :
    Calls Tryd.prog 18 #[.int .i64 c, .int .i64 y, .int .i64 m] w fun e w' => e = .returned (.tuple #[.int .i64 0, .int .i64 (merr c y m)]) ∧ Below w.heap.size w w' := by
  go_enter Tryd.func18, Tryd.ntmps18
  go_wp2_with fail
  refine (length_no c y m _ h).mono ?_
  rintro e W ⟨rfl, hb⟩
  have hd2 := hd.later hb
  go_wp2_with fail
  refine (tell_err _ _ hd2).mono ?_
  rintro e W2 ⟨rfl, hb2⟩
  go_wp2
  go_ret2
  exact ⟨rfl, hb.trans (hb2.mono hb.size)⟩
end Go.Proofs.YtcidhedmbcoafaaDoor
