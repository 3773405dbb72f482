/- Contracts of the functions on numbers alone (no memory): weekdays, leap years, the Hebrew moon, what is there. -/
import Derived.Test.YtafaacliphdndaaGreatDoorProg
import Derived.WalkKit
import Derived.Test.YtafaacliphdndaaGreatDoorPlain
namespace Go.Proofs.YtafaacliphdndaaGreatDoor
open Go.RowKit

theorem hide {p : Prop} (h : p) : Hid p := h

theorem ret_int {k : IntKind} {a b : Int} (h : a = b) : Ending.returned (.int k a) = .returned (.int k b) := by rw [h]

theorem ret_bool {a b : Bool} (h : a = b) : Ending.returned (.bool a) = .returned (.bool b) := by rw [h]

theorem tmod_cases (n b : Int) (hb : 0 < b) : (n.tmod b = n % b ∨ (n.tmod b + b = n % b ∧ n.tmod b < 0)) ∧ 0 ≤ n % b ∧ n % b < b := by
  have h1 := Int.emod_nonneg n (Int.ne_of_gt hb)
  have h2 := Int.emod_lt_of_pos n hb
  refine ⟨?_, h1, h2⟩
  rw [Int.tmod_eq_emod]
  split
  · left; omega
  · right; omega
theorem wrap64_id {x : Int} (h1 : -9223372036854775808 ≤ x) (h2 : x ≤ 9223372036854775807) : wrap64 x = x := by
  unfold wrap64; omega
theorem tdiv_cases (n b : Int) (hb : 0 < b) : n.tdiv b = n / b + (if n.tmod b < 0 then 1 else 0) := by
  have h := Int.tmod_add_mul_tdiv n b
  have k := Int.emod_add_mul_ediv n b
  obtain ⟨c, h1, h2⟩ := tmod_cases n b hb
  have e : b * (n.tdiv b - n / b) = n % b - n.tmod b := by rw [Int.mul_sub]; omega
  rcases c with c | ⟨c, c2⟩
  · rw [if_neg (by omega)]
    have : b * (n.tdiv b - n / b) = 0 := by omega
    rcases Int.mul_eq_zero.1 this with h | h <;> omega
  · rw [if_pos c2]
    have : b * (n.tdiv b - n / b - 1) = 0 := by rw [Int.mul_sub, e]; omega
    rcases Int.mul_eq_zero.1 this with h | h <;> omega
theorem tdiv_bd (n b : Int) (h1 : -9000000000000000000 ≤ n) (h2 : n ≤ 9000000000000000000) : -9000000000000000000 ≤ n.tdiv b ∧ n.tdiv b ≤ 9000000000000000000 := by
  have := Int.natAbs_tdiv_le_natAbs n b
  omega

theorem mod_any (n b : Int) (w : World) (hb : 0 < b) (hb2 : b ≤ 1000000000) :
    Calls Tryz.prog 151 #[.int .i64 n, .int .i64 b] w fun e w' => e = .returned (.int .i64 (n % b)) ∧ w' = w := by
  obtain ⟨hc, c1, c2⟩ := tmod_cases n b hb
  go_enter Tryz.func151, Tryz.ntmps151
  go_wp2
  all_goals
    go_ret
    refine ⟨ret_int ?_, rfl⟩
    first | omega | (rw [wrap64_id] <;> omega)

theorem rmod_any (n b : Int) (w : World) (hb : 0 < b) (hb2 : b ≤ 1000000000) :
    Calls Tryz.prog 26 #[.int .i64 n, .int .i64 b] w fun e w' => e = .returned (.int .i64 (n % b)) ∧ w' = w := by
  obtain ⟨hc, c1, c2⟩ := tmod_cases n b hb
  go_enter Tryz.func26, Tryz.ntmps26
  go_wp2
  all_goals
    go_ret
    refine ⟨ret_int ?_, rfl⟩
    first | omega | (rw [wrap64_id] <;> omega)

theorem floor_any (n b : Int) (w : World) (hb : 0 < b) (hb2 : b ≤ 1000000000) (h1 : -9000000000000000000 ≤ n) (h2 : n ≤ 9000000000000000000) :
    Calls Tryz.prog 153 #[.int .i64 n, .int .i64 b] w fun e w' => e = .returned (.int .i64 (n / b)) ∧ w' = w := by
  have hq := tdiv_cases n b hb
  have hd := tdiv_bd n b h1 h2
  have Hq : Hid (n.tdiv b = n / b + (if n.tmod b < 0 then 1 else 0)) := hq
  clear hq
  go_enter Tryz.func153, Tryz.ntmps153
  go_wp2
  all_goals
    go_ret
    refine ⟨ret_int ?_, rfl⟩
    have hq := Hq.out
    split at hq
    all_goals first | omega | (rw [wrap64_id] <;> first | omega | (rw [wrap64_id] <;> omega))

theorem rfloor_eq (n b : Int) (hb : 0 < b) : (n - n % b).tdiv b = n / b := by
  have k := Int.emod_add_mul_ediv n b
  have : n - n % b = b * (n / b) := by omega
  rw [this, Int.mul_tdiv_cancel_left _ (by omega)]
theorem rfloor_any (n b : Int) (w : World) (hb : 0 < b) (hb2 : b ≤ 1000000000) (h1 : -9000000000000000000 ≤ n) (h2 : n ≤ 9000000000000000000) :
    Calls Tryz.prog 25 #[.int .i64 n, .int .i64 b] w fun e w' => e = .returned (.int .i64 (n / b)) ∧ w' = w := by
  have hm := tmod_cases n b hb
  have hq := rfloor_eq n b hb
  have hd := tdiv_bd (n - n % b) b
  have Hq : Hid ((n - n % b).tdiv b = n / b) := hq
  clear hq
  go_enter Tryz.func25, Tryz.ntmps25
  go_wp2_with (go_at_call 26; refine (rmod_any n b _ hb hb2).mono ?_; rintro e w' ⟨rfl, rfl⟩)
  go_ret
  exact ⟨ret_int Hq.out, rfl⟩
end Go.Proofs.YtafaacliphdndaaGreatDoor
namespace Go.Proofs.YtafaacliphdndaaGreatDoor
open Go.RowKit

theorem weekday_any (n : Int) (w : World) :
    Calls Tryz.prog 183 #[.int .i64 n] w fun e w' => e = .returned (.int .i64 ((n + 3) % 7 + 1)) ∧ w' = w := by
  go_enter Tryz.func183, Tryz.ntmps183
  go_wp2_with (go_at_call 151; refine (mod_any _ _ _ (by omega) (by omega)).mono ?_; rintro e w' ⟨rfl, rfl⟩)
  go_ret
  exact ⟨rfl, rfl⟩
/-! ### what is there -/
theorem checkDay_ok (n : Int) (w : World) (h1 : -4000000 ≤ n) (h2 : n ≤ 4000000) :
    Calls Tryz.prog 94 #[.int .i64 n] w fun e w' => e = .returned .nilIface ∧ w' = w := by
  go_enter Tryz.func94, Tryz.ntmps94
  go_wp2
  go_ret
  exact ⟨rfl, rfl⟩
theorem checkDay_no (n : Int) (w : World) (h : n < -4000000 ∨ 4000000 < n) :
    Calls Tryz.prog 94 #[.int .i64 n] w fun e w' => e = .returned (.iface 25 (.int .i64 4)) ∧ w' = w := by
  rcases h with h | h
  all_goals
    go_enter Tryz.func94, Tryz.ntmps94
    go_wp2
    go_ret
    exact ⟨rfl, rfl⟩
theorem checkYear_ok (n : Int) (w : World) (h1 : -20000 ≤ n) (h2 : n ≤ 20000) :
    Calls Tryz.prog 134 #[.int .i64 n] w fun e w' => e = .returned .nilIface ∧ w' = w := by
  go_enter Tryz.func134, Tryz.ntmps134
  go_wp2
  go_ret
  exact ⟨rfl, rfl⟩
theorem checkYear_no (n : Int) (w : World) (h : n < -20000 ∨ 20000 < n) :
    Calls Tryz.prog 134 #[.int .i64 n] w fun e w' => e = .returned (.iface 25 (.int .i64 4)) ∧ w' = w := by
  rcases h with h | h
  all_goals
    go_enter Tryz.func134, Tryz.ntmps134
    go_wp2
    go_ret
    exact ⟨rfl, rfl⟩
theorem ifThere_ok (n : Int) (w : World) (h1 : -4000000 ≤ n) (h2 : n ≤ 4000000) :
    Calls Tryz.prog 99 #[.int .i64 n] w fun e w' => e = .returned (.tuple #[.int .i64 n, .nilIface]) ∧ w' = w := by
  go_enter Tryz.func99, Tryz.ntmps99
  go_wp2_with (go_at_call 94; refine (checkDay_ok n _ h1 h2).mono ?_; rintro e w' ⟨rfl, rfl⟩)
  go_ret2
  exact ⟨rfl, rfl⟩
theorem ifThere_no (n : Int) (w : World) (h : n < -4000000 ∨ 4000000 < n) :
    Calls Tryz.prog 99 #[.int .i64 n] w fun e w' => e = .returned (.tuple #[.int .i64 0, .iface 25 (.int .i64 4)]) ∧ w' = w := by
  go_enter Tryz.func99, Tryz.ntmps99
  go_wp2_with (go_at_call 94; refine (checkDay_no n _ h).mono ?_; rintro e w' ⟨rfl, rfl⟩)
  go_ret2
  exact ⟨rfl, rfl⟩
theorem there_ok (n : Int) (w : World) (h1 : -4000000 ≤ n) (h2 : n ≤ 4000000) :
    Calls Tryz.prog 30 #[.int .i64 n] w fun e w' => e = .returned (.tuple #[.int .i64 n, .int .i64 0]) ∧ w' = w := by
  go_enter Tryz.func30, Tryz.ntmps30
  go_wp2
  go_ret2
  exact ⟨rfl, rfl⟩
theorem there_no (n : Int) (w : World) (h : n < -4000000 ∨ 4000000 < n) :
    Calls Tryz.prog 30 #[.int .i64 n] w fun e w' => e = .returned (.tuple #[.int .i64 0, .int .i64 4]) ∧ w' = w := by
  rcases h with h | h
  all_goals
    go_enter Tryz.func30, Tryz.ntmps30
    go_wp2
    go_ret2
    exact ⟨rfl, rfl⟩
theorem calOK_yes (c : Int) (w : World) (h1 : 1 ≤ c) (h2 : c ≤ 10) :
    Calls Tryz.prog 49 #[.int .i64 c] w fun e w' => e = .returned (.bool true) ∧ w' = w := by
  go_enter Tryz.func49, Tryz.ntmps49
  go_wp2
  go_ret
  exact ⟨ret_bool (by simp <;> omega), rfl⟩
theorem calOK_no (c : Int) (w : World) (h : c < 1 ∨ 10 < c) :
    Calls Tryz.prog 49 #[.int .i64 c] w fun e w' => e = .returned (.bool false) ∧ w' = w := by
  rcases h with h | h
  · go_enter Tryz.func49, Tryz.ntmps49
    go_wp2
    go_ret
    exact ⟨rfl, rfl⟩
  · have h1 : 1 ≤ c := by omega
    go_enter Tryz.func49, Tryz.ntmps49
    go_wp2
    go_ret
    exact ⟨ret_bool (by simp <;> omega), rfl⟩
/-- what is wrong with a calendar and a year: 0, if nothing is -/
def yerr (c y : Int) : Int := if c < 1 ∨ 10 < c then 2 else if y < -20000 ∨ 20000 < y then 4 else 0
theorem year_any (c y : Int) (w : World) :
    Calls Tryz.prog 27 #[.int .i64 c, .int .i64 y] w fun e w' => e = .returned (.int .i64 (yerr c y)) ∧ w' = w := by
  by_cases hc : c < 1 ∨ 10 < c
  · have e : yerr c y = 2 := by unfold yerr; rw [if_pos hc]
    rw [e]; clear e
    go_enter Tryz.func27, Tryz.ntmps27
    go_wp2_with (go_at_call 49; refine (calOK_no c _ hc).mono ?_; rintro e w' ⟨rfl, rfl⟩)
    go_ret
    exact ⟨rfl, rfl⟩
  · have hc1 : 1 ≤ c := by omega
    have hc2 : c ≤ 10 := by omega
    by_cases hy : y < -20000 ∨ 20000 < y
    · have e : yerr c y = 4 := by unfold yerr; rw [if_neg hc, if_pos hy]
      rw [e]; clear e
      rcases hy with hy | hy
      all_goals
        go_enter Tryz.func27, Tryz.ntmps27
        go_wp2_with (go_at_call 49; refine (calOK_yes c _ hc1 hc2).mono ?_; rintro e w' ⟨rfl, rfl⟩)
        go_ret
        exact ⟨rfl, rfl⟩
    · have e : yerr c y = 0 := by unfold yerr; rw [if_neg hc, if_neg hy]
      rw [e]; clear e
      have hy1 : -20000 ≤ y := by omega
      have hy2 : y ≤ 20000 := by omega
      clear hy hc
      go_enter Tryz.func27, Tryz.ntmps27
      go_wp2_with (go_at_call 49; refine (calOK_yes c _ hc1 hc2).mono ?_; rintro e w' ⟨rfl, rfl⟩)
      go_ret
      exact ⟨rfl, rfl⟩

/-! ### leap years -/
theorem gleap_any (y : Int) (w : World) :
    Calls Tryz.prog 79 #[.int .i64 y] w fun e w' => e = .returned (.bool (Alm.gleap y)) ∧ w' = w := by
  go_enter Tryz.func79, Tryz.ntmps79
  go_wp2_with (go_at_call 26; refine (rmod_any _ _ _ (by omega) (by omega)).mono ?_; rintro e w' ⟨rfl, rfl⟩)
  all_goals
    go_ret
    exact ⟨ret_bool (by rw [Bool.eq_iff_iff]; simp [Alm.gleap]; omega), rfl⟩
theorem leapYear_any (c y : Int) (w : World) (h1 : -100000 ≤ y) (h2 : y ≤ 100000) :
    Calls Tryz.prog 50 #[.int .i64 c, .int .i64 y] w fun e w' => e = .returned (.bool (Alm.leap c y)) ∧ w' = w := by
  go_enter Tryz.func50, Tryz.ntmps50
  go_wp2_with (first | (go_at_call 26; refine (rmod_any _ _ _ (by omega) (by omega)).mono ?_; rintro e w' ⟨rfl, rfl⟩) | (go_at_call 79; refine (gleap_any _ _).mono ?_; rintro e w' ⟨rfl, rfl⟩))
  all_goals
    go_ret
    refine ⟨ret_bool ?_, rfl⟩
    simp only [beq_iff_eq, beq_eq_false_iff_ne, ne_eq] at *
    simp [Alm.leap, *]
    try rfl

/-! ### the Hebrew moon -/
theorem rmoon_any (y : Int) (w : World) (h1 : -100002 ≤ y) (h2 : y ≤ 100002) :
    Calls Tryz.prog 80 #[.int .i64 y] w fun e w' => e = .returned (.int .i64 (Alm.moon y)) ∧ w' = w := by
  go_enter Tryz.func80, Tryz.ntmps80
  go_wp2_with (first | (go_at_call 26; refine (rmod_any _ _ _ (by omega) (by omega)).mono ?_; rintro e w' ⟨rfl, rfl⟩) | (go_at_call 25; refine (rfloor_any _ _ _ (by omega) (by omega) (by omega) (by omega)).mono ?_; rintro e w' ⟨rfl, rfl⟩))
  all_goals
    go_ret
    exact ⟨ret_int (by unfold Alm.moon Alm.moonD; split <;> omega), rfl⟩
theorem moon_any (y : Int) (w : World) (h1 : -100002 ≤ y) (h2 : y ≤ 100002) :
    Calls Tryz.prog 180 #[.int .i64 y] w fun e w' => e = .returned (.int .i64 (Alm.moon y)) ∧ w' = w := by
  go_enter Tryz.func180, Tryz.ntmps180
  go_wp2_with (first | (go_at_call 151; refine (mod_any _ _ _ (by omega) (by omega)).mono ?_; rintro e w' ⟨rfl, rfl⟩) | (go_at_call 153; refine (floor_any _ _ _ (by omega) (by omega) (by omega) (by omega)).mono ?_; rintro e w' ⟨rfl, rfl⟩))
  all_goals
    go_ret
    exact ⟨ret_int (by unfold Alm.moon Alm.moonD; split <;> omega), rfl⟩
theorem rhebrew_any (y : Int) (w : World) (h1 : -100001 ≤ y) (h2 : y ≤ 100001) :
    Calls Tryz.prog 51 #[.int .i64 y] w fun e w' => e = .returned (.int .i64 (Alm.heb y)) ∧ w' = w := by
  have b1 := Alm.moon_bd (y + 1) (by omega) (by omega)
  have b2 := Alm.moon_bd y (by omega) (by omega)
  have b3 := Alm.moon_bd (y - 1) (by omega) (by omega)
  go_enter Tryz.func51, Tryz.ntmps51
  go_wp2_with (go_at_call 80; refine (rmoon_any _ _ (by omega) (by omega)).mono ?_; rintro e w' ⟨rfl, rfl⟩)
  all_goals
    go_ret
    refine ⟨ret_int ?_, rfl⟩
    simp only [beq_iff_eq, beq_eq_false_iff_ne, ne_eq] at *
    simp [Alm.heb, *]
theorem hstart_any (y : Int) (w : World) (h1 : -100001 ≤ y) (h2 : y ≤ 100001) :
    Calls Tryz.prog 161 #[.int .i64 y] w fun e w' => e = .returned (.int .i64 (Alm.start 7 y)) ∧ w' = w := by
  have b1 := Alm.moon_bd (y + 1) (by omega) (by omega)
  have b2 := Alm.moon_bd y (by omega) (by omega)
  have b3 := Alm.moon_bd (y - 1) (by omega) (by omega)
  go_enter Tryz.func161, Tryz.ntmps161
  go_wp2_with (go_at_call 180; refine (moon_any _ _ (by omega) (by omega)).mono ?_; rintro e w' ⟨rfl, rfl⟩)
  all_goals
    go_ret
    refine ⟨ret_int ?_, rfl⟩
    simp only [beq_iff_eq, beq_eq_false_iff_ne, ne_eq] at *
    simp [Alm.start, Alm.heb, *]
    try omega
end Go.Proofs.YtafaacliphdndaaGreatDoor
