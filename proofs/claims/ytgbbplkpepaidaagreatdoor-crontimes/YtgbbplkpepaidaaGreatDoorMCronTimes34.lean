/- The reference: times and their days, clocks. -/
import Derived.Test.YtgbbplkpepaidaaGreatDoorMCronTimes32
import Derived.Test.YtgbbplkpepaidaaGreatDoorMCronTimes31
import Derived.Test.YtgbbplkpepaidaaGreatDoorMCronTimes33
namespace Go.Proofs.YtgbbplkpepaidaaGreatDoor
open Go.RowKit Go.Shelf
set_option linter.unusedVariables false
set_option linter.unusedSimpArgs false

/-- the day with which the first week of a year begins, where weeks begin with the weekday b -/
def wone (c y b : Int) : Int := Alm.start c y + 3 - (Alm.start c y + 3 + 4 - b) % 7
theorem wone_fmon (y : Int) : wone 1 y 1 = fmon y := by unfold wone fmon; omega
theorem fieldYear (v0 v1 v2 v3 : Int) (W : World) : (Instr.field 60 (.agg #[.int .i64 v0, .int .i64 v1, .int .i64 v2, .int .i64 v3]) 1).run Tryz.prog W = .ok (.int .i64 v1) W := by kernel_rfl
theorem fmon_mono (Y : Int) : fmon Y + 364 ≤ fmon (Y + 1) := by
  have := start1_succ Y
  unfold fmon; omega
theorem rgreg_any (day Y M D : Int) (w : World) (d1 : -4000000 ≤ day) (d2 : day ≤ 4000000) (y1 : -20000 ≤ Y) (y2 : Y ≤ 20000) (hD : Alm.IsDate 1 day Y M D) :
    Calls Tryz.prog 25 #[.int .i64 day] w fun r w' => r = .returned (.agg #[.int .i64 1, .int .i64 Y, .int .i64 M, .int .i64 D]) ∧ Below w.heap.size w w' := by
  have K := hide (fun W => rof_ok 1 day Y M D W (by omega) (by omega) d1 d2 y1 y2 hD)
  clear hD
  go_enter Tryz.func25, Tryz.ntmps25
  go_wp2_with fail
  refine (K.out _).mono ?_
  rintro r W ⟨rfl, hb⟩
  obtain ⟨⟨z0, n0⟩, ⟨z1, n1⟩, ⟨z2, n2⟩, ⟨z3, n3⟩⟩ := slotD w W hb
  have hs : w.heap.size < W.heap.size := by have := hb.size; simp at this; omega
  have hB : Below w.heap.size w W := ((Below.refl _ w).alloc (Nat.le_refl _) _).trans (hb.mono (by simp))
  clear K hb
  go_wp2
  refine bodyPost_ret (v := .agg #[.int .i64 1, .int .i64 Y, .int .i64 M, .int .i64 D]) (by simp [results, Tryz.results25, go_sem, z0, z1, z2, z3, hs]) rfl ⟨rfl, ?_⟩
  exact ((((hB.setCell (Nat.le_refl _) _).setCell (Nat.le_refl _) _).setCell (Nat.le_refl _) _).setCell (Nat.le_refl _) _).alloc (by simp [World.setCell]; omega) _

/-- what OfWeek answers -/
def wval (y n d : Int) : Int := if werr y n d = 0 then fmon y + 7 * (n - 1) + d - 1 else 0
end Go.Proofs.YtgbbplkpepaidaaGreatDoor
namespace Go.Proofs.YtgbbplkpepaidaaGreatDoor
open Go.RowKit Go.Shelf
set_option linter.unusedVariables false
set_option linter.unusedSimpArgs false

/-- the quotient that Floor tells of a number of 64 bits, near the ends too -/
theorem rfloor_far (t : Int) (w : World) (h1 : -9223372036854775808 ≤ t) (h2 : t < 9223372036854775808) (h : t < -345600000000 ∨ 345600086399 < t) :
    ∃ q : Int, (q < -4000000 ∨ 4000000 < q) ∧ ∀ W, Calls Tryz.prog 23 #[.int .i64 t, .int .i64 86400] W fun e w' => e = .returned (.int .i64 q) ∧ w' = W := by
  by_cases hn : -9000000000000000000 ≤ t ∧ t ≤ 9000000000000000000
  · exact ⟨t / 86400, by omega, fun W => rfloor_any t 86400 W (by omega) (by omega) hn.1 hn.2⟩
  · refine ⟨(wrap64 (t - t % 86400)).tdiv 86400, ?_, fun W => ?_⟩
    · have hw : wrap64 (t - t % 86400) = t - t % 86400 ∨ wrap64 (t - t % 86400) = t - t % 86400 + 18446744073709551616 := by unfold wrap64; omega
      have hd := tdiv_cases (wrap64 (t - t % 86400)) 86400 (by omega)
      split at hd <;> omega
    · have hm := rmod_any t 86400 W (by omega) (by omega)
      have e1 : ¬ (86400 : Int) = 0 := by omega
      go_enter Tryz.func23, Tryz.ntmps23
      go_wp2_with (go_at_call 24; refine (rmod_any t 86400 _ (by omega) (by omega)).mono ?_; rintro e w' ⟨rfl, rfl⟩)
      go_ret
      refine ⟨ret_int (wrap64_id ?_ ?_), rfl⟩
      all_goals
        have hd := tdiv_cases (wrap64 (t - t % 86400)) 86400 (by omega)
        have hw : -9223372036854775808 ≤ wrap64 (t - t % 86400) ∧ wrap64 (t - t % 86400) < 9223372036854775808 := by unfold wrap64; omega
        split at hd <;> omega
theorem rlocal_yes (t : Int) (w : World) (h1 : -345600000000 ≤ t) (h2 : t ≤ 345600086399) :
    Calls Tryz.prog 22 #[.int .i64 t] w fun e w' => e = .returned (.bool true) ∧ w' = w := by
  go_enter Tryz.func22, Tryz.ntmps22
  go_wp2_with (go_at_call 23; refine (rfloor_any _ _ _ (by omega) (by omega) (by omega) (by omega)).mono ?_; rintro e w' ⟨rfl, rfl⟩)
  all_goals
    go_ret
    exact ⟨ret_bool (by simp <;> omega), rfl⟩
theorem rlocal_no (t : Int) (w : World) (b1 : -9223372036854775808 ≤ t) (b2 : t < 9223372036854775808) (h : t < -345600000000 ∨ 345600086399 < t) :
    Calls Tryz.prog 22 #[.int .i64 t] w fun e w' => e = .returned (.bool false) ∧ w' = w := by
  obtain ⟨q, hq, k⟩ := rfloor_far t w b1 b2 h
  have K := hide k
  clear k h
  have hh : q < -4000000 ∨ (-4000000 ≤ q ∧ 4000000 < q) := by omega
  clear hq
  rcases hh with h | ⟨h0, h⟩
  all_goals
    go_enter Tryz.func22, Tryz.ntmps22
    go_wp2_with (go_at_call 23; refine (K.out _).mono ?_; rintro e w' ⟨rfl, rfl⟩)
    go_ret
    exact ⟨ret_bool (by simp <;> omega), rfl⟩
theorem rsplit_ok (t : Int) (w : World) (h1 : -345600000000 ≤ t) (h2 : t ≤ 345600086399) :
    Calls Tryz.prog 11 #[.int .i64 t] w fun e w' => e = .returned (.tuple #[.int .i64 (t / 86400), .int .i64 (t % 86400), .int .i64 0]) ∧ w' = w := by
  have K := hide (fun W => rlocal_yes t W h1 h2)
  go_enter Tryz.func11, Tryz.ntmps11
  go_wp2_with (first | (go_at_call 22; refine (K.out _).mono ?_; rintro e w' ⟨rfl, rfl⟩) | (go_at_call 23; refine (rfloor_any _ _ _ (by omega) (by omega) (by omega) (by omega)).mono ?_; rintro e w' ⟨rfl, rfl⟩) | (go_at_call 24; refine (rmod_any _ _ _ (by omega) (by omega)).mono ?_; rintro e w' ⟨rfl, rfl⟩))
  exact bodyPost_ret (v := .tuple #[.int .i64 (t / 86400), .int .i64 (t % 86400), .int .i64 0]) (by simp [results, Tryz.results11, go_sem]) rfl ⟨rfl, rfl⟩
theorem rsplit_no (t : Int) (w : World) (b1 : -9223372036854775808 ≤ t) (b2 : t < 9223372036854775808) (h : t < -345600000000 ∨ 345600086399 < t) :
    Calls Tryz.prog 11 #[.int .i64 t] w fun e w' => e = .returned (.tuple #[.int .i64 0, .int .i64 0, .int .i64 4]) ∧ w' = w := by
  have K := hide (fun W => rlocal_no t W b1 b2 h)
  clear h
  go_enter Tryz.func11, Tryz.ntmps11
  go_wp2_with (go_at_call 22; refine (K.out _).mono ?_; rintro e w' ⟨rfl, rfl⟩)
  exact bodyPost_ret (v := .tuple #[.int .i64 0, .int .i64 0, .int .i64 4]) (by simp [results, Tryz.results11, go_sem]) rfl ⟨rfl, rfl⟩
/-- what Join answers, and its error -/
def jerr (day s : Int) : Int := if s < 0 ∨ 86400 ≤ s then 3 else if day < -4000000 ∨ 4000000 < day then 4 else 0
def jval (day s : Int) : Int := if s < 0 ∨ 86400 ≤ s then 0 else if day < -4000000 ∨ 4000000 < day then 0 else day * 86400 + s
/-- may a clock be? -/
def cbad (h m s : Int) : Prop := h < 0 ∨ (0 ≤ h ∧ 23 < h) ∨ (0 ≤ h ∧ h ≤ 23 ∧ m < 0) ∨ (0 ≤ h ∧ h ≤ 23 ∧ 0 ≤ m ∧ 59 < m) ∨ (0 ≤ h ∧ h ≤ 23 ∧ 0 ≤ m ∧ m ≤ 59 ∧ s < 0) ∨ (0 ≤ h ∧ h ≤ 23 ∧ 0 ≤ m ∧ m ≤ 59 ∧ 0 ≤ s ∧ 59 < s)
end Go.Proofs.YtgbbplkpepaidaaGreatDoor
