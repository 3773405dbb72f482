/- DaysMeet: each day has a date in each calendar, and is that date's day; the next day has the next date. -/
import Derived.Test.YtcidhedmbcoafaaDoorMeetA
namespace Go.Proofs.YtcidhedmbcoafaaDoor
open Go.RowKit Go.Shelf
set_option linter.unusedVariables false

/-- each day that is there has a date -/
theorem date_ex (c day : Int) (w : World) (h1 : 1 ≤ c) (h2 : c ≤ 10) (d1 : -4000000 ≤ day) (d2 : day ≤ 4000000) : ∃ y m d, Alm.IsDate c day y m d ∧ -20000 ≤ y ∧ y ≤ 20000 := by
  obtain ⟨e, w', fr, ⟨y, m, d, _, hd, y1, y2, _⟩, _⟩ := of_ok c day w h1 h2 d1 d2 []
  exact ⟨y, m, d, hd, y1, y2⟩
theorem derr_of_date (c day y m d : Int) (h1 : 1 ≤ c) (h2 : c ≤ 10) (d1 : -4000000 ≤ day) (d2 : day ≤ 4000000) (y1 : -20000 ≤ y) (y2 : y ≤ 20000) (hd : Alm.IsDate c day y m d) : derr c y m d = 0 ∧ dnum c y m d = day := by
  obtain ⟨a1, a2, a3, a4, a5⟩ := hd
  have e : dnum c y m d = day := by unfold dnum; omega
  refine ⟨?_, e⟩
  unfold derr
  rw [e, if_neg (by omega), if_neg (by omega), if_neg (by omega), if_neg (by omega), if_neg (by omega)]
theorem next_same (c day y m d : Int) (hd : Alm.IsDate c day y m d) (h : d < Alm.mlen c y m) : Alm.IsDate c (day + 1) y m (d + 1) := by
  obtain ⟨a1, a2, a3, a4, a5⟩ := hd
  exact ⟨a1, a2, by omega, by omega, by omega⟩
theorem next_month (c day y m d : Int) (hd : Alm.IsDate c day y m d) (h : d = Alm.mlen c y m) (hm : m < Alm.months c y) : Alm.IsDate c (day + 1) y (m + 1) 1 := by
  obtain ⟨a1, a2, a3, a4, a5⟩ := hd
  have b := Alm.mlen_bd c y (m + 1) (by omega) (by omega)
  have e := Alm.cum_succ c y (m - 1).toNat (by omega)
  have e1 : (((m - 1).toNat : Nat) : Int) + 1 = m := by omega
  have e2 : (m + 1 - 1).toNat = (m - 1).toNat + 1 := by omega
  rw [e1] at e
  exact ⟨by omega, by omega, by omega, by omega, by rw [e2, e]; omega⟩
theorem next_year (c day y m d : Int) (h1 : 1 ≤ c) (h2 : c ≤ 10) (hd : Alm.IsDate c day y m d) (h : d = Alm.mlen c y m) (hm : m = Alm.months c y) : Alm.IsDate c (day + 1) (y + 1) 1 1 := by
  obtain ⟨a1, a2, a3, a4, a5⟩ := hd
  have mb := Alm.months_bd c (y + 1)
  have mb' := Alm.months_bd c y
  have b := Alm.mlen_bd c (y + 1) 1 (by omega) (by omega)
  have e := Alm.cum_succ c y (m - 1).toNat (by omega)
  have e1 : (((m - 1).toNat : Nat) : Int) + 1 = m := by omega
  have e2 : (m - 1).toNat + 1 = Alm.months c y := by omega
  rw [e1, e2, Alm.cum_all] at e
  have s := Alm.start_succ c y h1 h2
  refine ⟨by omega, by omega, by omega, by omega, ?_⟩
  simp [Alm.cum]; omega

set_option maxRecDepth 100000 in
set_option maxHeartbeats 2000000 in
theorem meet_last (c y m d : Int) (w : World) (h1 : 1 ≤ c) (h2 : c ≤ 10)
    (k1 : ∀ W, Calls Tryd.prog 22 #[.int .i64 c, .int .i64 4000000] W fun e w' => e = .returned (.tuple #[.agg #[.int .i64 c, .int .i64 y, .int .i64 m, .int .i64 d], .int .i64 0]) ∧ Below W.heap.size W w')
    (k2 : ∀ W, Calls Tryd.prog 20 #[.agg #[.int .i64 c, .int .i64 y, .int .i64 m, .int .i64 d]] W fun e w' => e = .returned (.tuple #[.int .i64 4000000, .int .i64 0]) ∧ Below W.heap.size W w') :
    Calls Tryd.prog 9 #[.int .i64 c, .int .i64 4000000] w fun e w' => e = .returned (.bool true) ∧ Below w.heap.size w w' := by
  have K1 := hide k1
  have K2 := hide k2
  clear k1 k2
  go_enter Tryd.func9, Tryd.ntmps9
  go_wp2_with fail
  refine (K1.out _).mono ?_
  rintro e W ⟨rfl, hb⟩
  have hs := hb.size
  go_wp2_with fail
  refine (K2.out _).mono ?_
  rintro e W2 ⟨rfl, hb2⟩
  have hz2 : W.heap.size < W2.heap.size := by have := hb2.size; simp at this; omega
  have a0 : W2.cell? ⟨W.heap.size, 0, none⟩ = some (.int .i64 c) := by rw [hb2.cell (p := ⟨W.heap.size, 0, none⟩) (by simp)]; simp
  have hbW2 : Below w.heap.size w W2 := (hb.alloc hs _).trans (hb2.mono (by simp; omega))
  clear K1 K2 hb2
  go_wp2_with (go_at_call 30; refine (pweekday_any _ _).mono ?_; rintro e w' ⟨rfl, rfl⟩)
  go_ret
  exact ⟨rfl, hbW2⟩
set_option maxRecDepth 100000 in
set_option maxHeartbeats 2000000 in
theorem meet_none (c day k : Int) (w : World) (hk : k ≠ 0) (h : c < 1 ∨ 10 < c ∨ day < -4000000 ∨ 4000000 < day)
    (k1 : ∀ W, Hd W → Calls Tryd.prog 22 #[.int .i64 c, .int .i64 day] W fun e w' => e = .returned (.tuple #[.agg #[.int .i64 0, .int .i64 0, .int .i64 0, .int .i64 0], .int .i64 k]) ∧ Below W.heap.size W w') (hd : Hd w) :
    Calls Tryd.prog 9 #[.int .i64 c, .int .i64 day] w fun e w' => e = .returned (.bool true) ∧ Below w.heap.size w w' := by
  have K1 := k1 w hd
  have g : (k != 0) = true := by simpa using hk
  clear k1 hk
  have hc : c < 1 ∨ (1 ≤ c ∧ 10 < c) ∨ (1 ≤ c ∧ c ≤ 10 ∧ day < -4000000) ∨ (1 ≤ c ∧ c ≤ 10 ∧ -4000000 ≤ day ∧ 4000000 < day) := by omega
  clear h
  rcases hc with hc | ⟨hc1, hc⟩ | ⟨hc1, hc2, hc⟩ | ⟨hc1, hc2, hc3, hc⟩
  all_goals
    go_enter Tryd.func9, Tryd.ntmps9
    go_wp2_with fail
    refine K1.mono ?_
    rintro e W ⟨rfl, hb⟩
    have hs := hb.size
    clear K1
    go_wp2
    go_ret
    exact ⟨rfl, hb.alloc hs _⟩
theorem meet_walk (c day : Int) (w : World) (hd : Hd w) :
    Calls Tryd.prog 9 #[.int .i64 c, .int .i64 day] w fun e w' => e = .returned (.bool true) ∧ Below w.heap.size w w' := by
  by_cases h : c < 1 ∨ 10 < c ∨ day < -4000000 ∨ 4000000 < day
  · exact meet_none c day (oerr c day) w (by unfold oerr; (repeat' split) <;> omega) h (fun W hW => pof_no c day W hW h) hd
  · have h1 : 1 ≤ c := by omega
    have h2 : c ≤ 10 := by omega
    have d1 : -4000000 ≤ day := by omega
    have d2 : day ≤ 4000000 := by omega
    obtain ⟨y, m, d, hD, y1, y2⟩ := date_ex c day w h1 h2 d1 d2
    obtain ⟨he, hn⟩ := derr_of_date c day y m d h1 h2 d1 d2 y1 y2 hD
    have k1 := fun W => pof_ok c day y m d W h1 h2 d1 d2 hD
    have k2 := fun W => pday_ok c y m d W he
    rw [hn] at k2
    by_cases hl : day = 4000000
    · subst hl
      exact meet_last c y m d w h1 h2 k1 k2
    · have d3 : day < 4000000 := by omega
      have ml := Alm.mlen_bd c y m hD.m1 hD.m2
      have mo := Alm.months_bd c y
      have k4 := fun W => plength_ok c y m W h1 h2 y1 y2 hD.m1 hD.m2
      have k5 := fun W => pmonths_ok c y W h1 h2 y1 y2
      by_cases hd : d < Alm.mlen c y m
      · exact meet_same c day y m d _ _ w h1 h2 d1 d3 y1 y2 hD.m1 hD.m2 (by omega) hD.d1 hD.d2 (by omega) hd k1 k2 (fun W => pof_ok c (day + 1) y m (d + 1) W h1 h2 (by omega) (by omega) (next_same c day y m d hD hd)) k4 k5
      · have hd' : d = Alm.mlen c y m := by have := hD.d2; omega
        by_cases hm : m < Alm.months c y
        · exact meet_month c day y m d _ _ w h1 h2 d1 d3 y1 y2 hD.m1 hD.m2 (by omega) hD.d1 hD.d2 (by omega) hd' hm k1 k2 (fun W => pof_ok c (day + 1) y (m + 1) 1 W h1 h2 (by omega) (by omega) (next_month c day y m d hD hd' hm)) k4 k5
        · have hm' : m = Alm.months c y := by have := hD.m2; omega
          exact meet_year c day y m d _ _ w h1 h2 d1 d3 y1 y2 hD.m1 hD.m2 (by omega) hD.d1 hD.d2 (by omega) hd' hm' k1 k2 (fun W => pof_ok c (day + 1) (y + 1) 1 1 W h1 h2 (by omega) (by omega) (next_year c day y m d h1 h2 hD hd' hm')) k4 k5
end Go.Proofs.YtcidhedmbcoafaaDoor
