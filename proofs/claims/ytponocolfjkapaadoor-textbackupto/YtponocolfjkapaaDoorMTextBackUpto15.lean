/- package text: names, controls; program and reference. -/
import Derived.Test.YtponocolfjkapaaDoorMTextBackUpto2
import Derived.Test.YtponocolfjkapaaDoorMTextBackUpto14
import Derived.Test.YtponocolfjkapaaDoorCrnM
namespace Go.Proofs.YtponocolfjkapaaDoor
open Go.RowKit
set_option linter.unusedVariables false
set_option linter.unusedSimpArgs false

/-- a byte of a text -/
def bt (s : ByteArray) (k : Nat) : Int := (((Tl.tx s).getD k 0).toNat : Int)
theorem bt_at (s : ByteArray) (k : Nat) (h : k < s.size) : ((s[k]).toNat : Int) = bt s k := by
  unfold bt
  rw [List.getD_eq_getElem?_getD, List.getElem?_eq_getElem (by rw [Tl.tx_len]; exact h)]; rfl
/-- may a byte be in a name? -/
def nmB (x : Int) : Bool := decide (65 ≤ x ∧ x ≤ 90 ∨ 48 ≤ x ∧ x ≤ 57 ∨ x = 45)
def nmS (s : ByteArray) : Bool := Crn.allB (fun k => nmB (bt s k)) s.size && decide (1 ≤ s.size ∧ s.size ≤ 40)
/-- is a byte a control? -/
def ctB (x : Int) : Bool := decide (x < 32 ∧ x ≠ 9 ∨ x = 127)
def ctS (s : ByteArray) : Bool := !(Crn.allB (fun k => !ctB (bt s k)) s.size)
theorem nm_cases (x : Int) : (65 ≤ x ∧ x ≤ 90) ∨ (x < 48 ∧ x ≠ 45) ∨ x = 45 ∨ (48 ≤ x ∧ x ≤ 57) ∨ (57 < x ∧ x < 65) ∨ 90 < x := by omega
theorem ct_cases (x : Int) : (x < 32 ∧ x ≠ 9) ∨ x = 9 ∨ (32 ≤ x ∧ x ≠ 127) ∨ x = 127 := by omega
theorem rdig_any (x : Int) (w : World) : Calls Tryd.prog 43 #[.int .u8 x] w fun e w' => e = .returned (.bool (decide (48 ≤ x) && decide (x ≤ 57))) ∧ w' = w := by
  cases h1 : decide ((48 : Int) ≤ x) <;> cases h2 : decide (x ≤ 57)
  all_goals
    go_enter Tryd.func43, Tryd.ntmps43
    go_wp2
    go_ret
    exact ⟨rfl, rfl⟩
set_option maxRecDepth 100000 in
set_option maxHeartbeats 4000000 in
theorem isName_any (s : ByteArray) (w : World) (h1 : s.size ≤ 1000000000) :
    Calls Tryd.prog 41 #[.string s] w fun e w' => e = .returned (.bool (nmS s)) ∧ w' = w := by
  have HB := hide (bt_at s)
  have HN : Hid (∀ k, k < s.size → nmB (bt s k) = false → nmS s = false) := fun k hk h => by
    unfold nmS; rw [Crn.allB_no (by simp [h]) _ hk]; rfl
  have HY : Hid (Crn.allB (fun k => nmB (bt s k)) s.size = true → nmS s = decide (1 ≤ s.size ∧ s.size ≤ 40)) := fun h => by
    unfold nmS; rw [h]; rfl
  have HS : Hid (∀ k, Crn.allB (fun k => nmB (bt s k)) (k + 1) = (Crn.allB (fun k => nmB (bt s k)) k && nmB (bt s k))) := fun k => rfl
  generalize nmS s = R at *
  go_enter Tryd.func41, Tryd.ntmps41
  go_wp2_with fail
  go_loopw [7] (fun i wr => ∃ k : Nat, k ≤ s.size ∧ i = .int .i64 k ∧ Crn.allB (fun k => nmB (bt s k)) k = true ∧ w = wr) (fun i _ => s.size - (intOf i).toNat)
  case atStart => exact ⟨0, by omega, rfl, rfl, rfl⟩
  case round =>
    obtain ⟨k, hk, rfl, hall, rfl⟩ := hrel
    by_cases hlt : k < s.size
    · have hi : (k : Int) < s.size := by omega
      have hb := HB.out k hlt
      have hst := HS.out k
      rw [hall, Bool.true_and] at hst
      have hno := HN.out k hlt
      have HH := hide (And.intro hst hno)
      clear hst hno hall
      rcases nm_cases (bt s k) with hx | hx | hx | hx | hx | hx
      · have hn := HH.out.1
        rw [show nmB (bt s k) = true from decide_eq_true (by omega)] at hn
        have HX := hide hn
        clear hn HH
        have q0 : 65 ≤ bt s k := by first | omega | (simp; omega)
        have q1 : bt s k ≤ 90 := by first | omega | (simp; omega)
        have q2 : ¬ bt s k < 65 := by first | omega | (simp; omega)
        have q3 : ¬ 90 < bt s k := by first | omega | (simp; omega)
        generalize bt s k = x at *
        go_wp2
        go_roundw
        case rel => exact ⟨k + 1, by omega, by go_num, HX.out, by first | trivial | rfl⟩
        case measure => simp [intOf]; omega
      · have hv := HH.out.2 (decide_eq_false (by omega))
        subst hv
        clear HH HN HY HS HB
        have q0 : bt s k < 65 := by first | omega | (simp; omega)
        have q1 : bt s k < 48 := by first | omega | (simp; omega)
        have q2 : ¬ bt s k = 45 := by first | omega | (simp; omega)
        have q3 : (bt s k == 45) = false := by first | omega | (simp; omega)
        have q4 : ¬ 65 ≤ bt s k := by first | omega | (simp; omega)
        have q5 : ¬ 48 ≤ bt s k := by first | omega | (simp; omega)
        generalize bt s k = x at *
        go_wp2
        go_ret
        exact ⟨rfl, rfl⟩
      · have hn := HH.out.1
        rw [show nmB (bt s k) = true from decide_eq_true (by omega)] at hn
        have HX := hide hn
        clear hn HH
        rw [hx] at hb
        clear hx
        go_wp2
        go_roundw
        case rel => exact ⟨k + 1, by omega, by go_num, HX.out, by first | trivial | rfl⟩
        case measure => simp [intOf]; omega
      · have hn := HH.out.1
        rw [show nmB (bt s k) = true from decide_eq_true (by omega)] at hn
        have HX := hide hn
        clear hn HH
        have q0 : bt s k < 65 := by first | omega | (simp; omega)
        have q1 : ¬ bt s k < 48 := by first | omega | (simp; omega)
        have q2 : ¬ 57 < bt s k := by first | omega | (simp; omega)
        have q3 : ¬ 65 ≤ bt s k := by first | omega | (simp; omega)
        have q4 : 48 ≤ bt s k := by first | omega | (simp; omega)
        have q5 : bt s k ≤ 57 := by first | omega | (simp; omega)
        generalize bt s k = x at *
        go_wp2
        go_roundw
        case rel => exact ⟨k + 1, by omega, by go_num, HX.out, by first | trivial | rfl⟩
        case measure => simp [intOf]; omega
      · have hv := HH.out.2 (decide_eq_false (by omega))
        subst hv
        clear HH HN HY HS HB
        have q0 : bt s k < 65 := by first | omega | (simp; omega)
        have q1 : ¬ bt s k < 48 := by first | omega | (simp; omega)
        have q2 : 57 < bt s k := by first | omega | (simp; omega)
        have q3 : ¬ bt s k = 45 := by first | omega | (simp; omega)
        have q4 : (bt s k == 45) = false := by first | omega | (simp; omega)
        have q5 : ¬ 65 ≤ bt s k := by first | omega | (simp; omega)
        have q6 : 48 ≤ bt s k := by first | omega | (simp; omega)
        have q7 : ¬ bt s k ≤ 57 := by first | omega | (simp; omega)
        generalize bt s k = x at *
        go_wp2
        go_ret
        exact ⟨rfl, rfl⟩
      · have hv := HH.out.2 (decide_eq_false (by omega))
        subst hv
        clear HH HN HY HS HB
        have q0 : ¬ bt s k < 65 := by first | omega | (simp; omega)
        have q1 : 90 < bt s k := by first | omega | (simp; omega)
        have q2 : ¬ bt s k < 48 := by first | omega | (simp; omega)
        have q3 : 57 < bt s k := by first | omega | (simp; omega)
        have q4 : ¬ bt s k = 45 := by first | omega | (simp; omega)
        have q5 : (bt s k == 45) = false := by first | omega | (simp; omega)
        have q6 : 65 ≤ bt s k := by first | omega | (simp; omega)
        have q7 : ¬ bt s k ≤ 90 := by first | omega | (simp; omega)
        have q8 : 48 ≤ bt s k := by first | omega | (simp; omega)
        have q9 : ¬ bt s k ≤ 57 := by first | omega | (simp; omega)
        generalize bt s k = x at *
        go_wp2
        go_ret
        exact ⟨rfl, rfl⟩
    · obtain rfl : k = s.size := by omega
      have hi : ¬ (s.size : Int) < s.size := by omega
      have hv := HY.out hall
      clear HY HN HS HB
      subst hv
      by_cases e1 : (1 : Int) ≤ s.size
      · by_cases e2 : (s.size : Int) ≤ 40
        · go_wp2
          go_ret
          exact ⟨ret_bool (by simp; omega), rfl⟩
        · go_wp2
          go_ret
          exact ⟨ret_bool (by simp; omega), rfl⟩
      · go_wp2
        go_ret
        exact ⟨ret_bool (by simp; omega), rfl⟩
set_option maxRecDepth 100000 in
set_option maxHeartbeats 4000000 in
theorem partName_any (s : ByteArray) (w : World) (h1 : s.size ≤ 1000000000) :
    Calls Tryd.prog 28 #[.string s] w fun e w' => e = .returned (.bool (nmS s)) ∧ w' = w := by
  have HB := hide (bt_at s)
  have HN : Hid (∀ k, k < s.size → nmB (bt s k) = false → nmS s = false) := fun k hk h => by
    unfold nmS; rw [Crn.allB_no (by simp [h]) _ hk]; rfl
  have HY : Hid (Crn.allB (fun k => nmB (bt s k)) s.size = true → nmS s = decide (1 ≤ s.size ∧ s.size ≤ 40)) := fun h => by
    unfold nmS; rw [h]; rfl
  have HS : Hid (∀ k, Crn.allB (fun k => nmB (bt s k)) (k + 1) = (Crn.allB (fun k => nmB (bt s k)) k && nmB (bt s k))) := fun k => rfl
  generalize nmS s = R at *
  go_enter Tryd.func28, Tryd.ntmps28
  go_wp2_with fail
  go_loopw [3] (fun i wr => ∃ k : Nat, k ≤ s.size ∧ i = .int .i64 k ∧ Crn.allB (fun k => nmB (bt s k)) k = true ∧ w = wr) (fun i _ => s.size - (intOf i).toNat)
  case atStart => exact ⟨0, by omega, rfl, rfl, rfl⟩
  case round =>
    obtain ⟨k, hk, rfl, hall, rfl⟩ := hrel
    by_cases hlt : k < s.size
    · have hi : (k : Int) < s.size := by omega
      have hb := HB.out k hlt
      have hst := HS.out k
      rw [hall, Bool.true_and] at hst
      have hno := HN.out k hlt
      have HH := hide (And.intro hst hno)
      clear hst hno hall
      rcases nm_cases (bt s k) with hx | hx | hx | hx | hx | hx
      · have hn := HH.out.1
        rw [show nmB (bt s k) = true from decide_eq_true (by omega)] at hn
        have HX := hide hn
        clear hn HH
        have q0 : 65 ≤ bt s k := by first | omega | (simp; omega)
        have q1 : bt s k ≤ 90 := by first | omega | (simp; omega)
        have q2 : ¬ bt s k < 65 := by first | omega | (simp; omega)
        have q3 : ¬ 90 < bt s k := by first | omega | (simp; omega)
        generalize bt s k = x at *
        go_wp2_with (go_at_call 43; refine (rdig_any _ _).mono ?_; rintro e W ⟨rfl, rfl⟩)
        go_roundw
        case rel => exact ⟨k + 1, by omega, by go_num, HX.out, by first | trivial | rfl⟩
        case measure => simp [intOf]; omega
      · have hv := HH.out.2 (decide_eq_false (by omega))
        subst hv
        clear HH HN HY HS HB
        have q0 : bt s k < 65 := by first | omega | (simp; omega)
        have q1 : bt s k < 48 := by first | omega | (simp; omega)
        have q2 : ¬ bt s k = 45 := by first | omega | (simp; omega)
        have q3 : (bt s k == 45) = false := by first | omega | (simp; omega)
        have q4 : ¬ 65 ≤ bt s k := by first | omega | (simp; omega)
        have q5 : ¬ 48 ≤ bt s k := by first | omega | (simp; omega)
        have hdg : (decide ((48 : Int) ≤ bt s k) && decide (bt s k ≤ 57)) = false := by rw [Bool.and_eq_false_iff, decide_eq_false_iff_not, decide_eq_false_iff_not]; omega
        generalize bt s k = x at *
        go_wp2_with (go_at_call 43; refine (rdig_any _ _).mono ?_; rintro e W ⟨rfl, rfl⟩; try rw [hdg])
        go_ret
        exact ⟨rfl, rfl⟩
      · have hn := HH.out.1
        rw [show nmB (bt s k) = true from decide_eq_true (by omega)] at hn
        have HX := hide hn
        clear hn HH
        rw [hx] at hb
        clear hx
        go_wp2_with (go_at_call 43; refine (rdig_any _ _).mono ?_; rintro e W ⟨rfl, rfl⟩)
        go_roundw
        case rel => exact ⟨k + 1, by omega, by go_num, HX.out, by first | trivial | rfl⟩
        case measure => simp [intOf]; omega
      · have hn := HH.out.1
        rw [show nmB (bt s k) = true from decide_eq_true (by omega)] at hn
        have HX := hide hn
        clear hn HH
        have q0 : bt s k < 65 := by first | omega | (simp; omega)
        have q1 : ¬ bt s k < 48 := by first | omega | (simp; omega)
        have q2 : ¬ 57 < bt s k := by first | omega | (simp; omega)
        have q3 : ¬ 65 ≤ bt s k := by first | omega | (simp; omega)
        have q4 : 48 ≤ bt s k := by first | omega | (simp; omega)
        have q5 : bt s k ≤ 57 := by first | omega | (simp; omega)
        generalize bt s k = x at *
        go_wp2_with (go_at_call 43; refine (rdig_any _ _).mono ?_; rintro e W ⟨rfl, rfl⟩)
        go_roundw
        case rel => exact ⟨k + 1, by omega, by go_num, HX.out, by first | trivial | rfl⟩
        case measure => simp [intOf]; omega
      · have hv := HH.out.2 (decide_eq_false (by omega))
        subst hv
        clear HH HN HY HS HB
        have q0 : bt s k < 65 := by first | omega | (simp; omega)
        have q1 : ¬ bt s k < 48 := by first | omega | (simp; omega)
        have q2 : 57 < bt s k := by first | omega | (simp; omega)
        have q3 : ¬ bt s k = 45 := by first | omega | (simp; omega)
        have q4 : (bt s k == 45) = false := by first | omega | (simp; omega)
        have q5 : ¬ 65 ≤ bt s k := by first | omega | (simp; omega)
        have q6 : 48 ≤ bt s k := by first | omega | (simp; omega)
        have q7 : ¬ bt s k ≤ 57 := by first | omega | (simp; omega)
        have hdg : (decide ((48 : Int) ≤ bt s k) && decide (bt s k ≤ 57)) = false := by rw [Bool.and_eq_false_iff, decide_eq_false_iff_not, decide_eq_false_iff_not]; omega
        generalize bt s k = x at *
        go_wp2_with (go_at_call 43; refine (rdig_any _ _).mono ?_; rintro e W ⟨rfl, rfl⟩; try rw [hdg])
        go_ret
        exact ⟨rfl, rfl⟩
      · have hv := HH.out.2 (decide_eq_false (by omega))
        subst hv
        clear HH HN HY HS HB
        have q0 : ¬ bt s k < 65 := by first | omega | (simp; omega)
        have q1 : 90 < bt s k := by first | omega | (simp; omega)
        have q2 : ¬ bt s k < 48 := by first | omega | (simp; omega)
        have q3 : 57 < bt s k := by first | omega | (simp; omega)
        have q4 : ¬ bt s k = 45 := by first | omega | (simp; omega)
        have q5 : (bt s k == 45) = false := by first | omega | (simp; omega)
        have q6 : 65 ≤ bt s k := by first | omega | (simp; omega)
        have q7 : ¬ bt s k ≤ 90 := by first | omega | (simp; omega)
        have q8 : 48 ≤ bt s k := by first | omega | (simp; omega)
        have q9 : ¬ bt s k ≤ 57 := by first | omega | (simp; omega)
        have hdg : (decide ((48 : Int) ≤ bt s k) && decide (bt s k ≤ 57)) = false := by rw [Bool.and_eq_false_iff, decide_eq_false_iff_not, decide_eq_false_iff_not]; omega
        generalize bt s k = x at *
        go_wp2_with (go_at_call 43; refine (rdig_any _ _).mono ?_; rintro e W ⟨rfl, rfl⟩; try rw [hdg])
        go_ret
        exact ⟨rfl, rfl⟩
    · obtain rfl : k = s.size := by omega
      have hi : ¬ (s.size : Int) < s.size := by omega
      have hv := HY.out hall
      clear HY HN HS HB
      subst hv
      by_cases e1 : (1 : Int) ≤ s.size
      · by_cases e2 : (s.size : Int) ≤ 40
        · go_wp2
          go_ret
          exact ⟨ret_bool (by simp; omega), rfl⟩
        · go_wp2
          go_ret
          exact ⟨ret_bool (by simp; omega), rfl⟩
      · go_wp2
        go_ret
        exact ⟨ret_bool (by simp; omega), rfl⟩
set_option maxRecDepth 100000 in
set_option maxHeartbeats 4000000 in
theorem hasControl_any (s : ByteArray) (w : World) (h1 : s.size ≤ 1000000000) :
    Calls Tryd.prog 55 #[.string s] w fun e w' => e = .returned (.bool (ctS s)) ∧ w' = w := by
  have HB := hide (bt_at s)
  have HN : Hid (∀ k, k < s.size → ctB (bt s k) = true → ctS s = true) := fun k hk h => by
    unfold ctS; rw [Crn.allB_no (by simp [h]) _ hk]; rfl
  have HY : Hid (Crn.allB (fun k => !ctB (bt s k)) s.size = true → ctS s = false) := fun h => by
    unfold ctS; rw [h]; rfl
  have HS : Hid (∀ k, Crn.allB (fun k => !ctB (bt s k)) (k + 1) = (Crn.allB (fun k => !ctB (bt s k)) k && !ctB (bt s k))) := fun k => rfl
  generalize ctS s = R at *
  go_enter Tryd.func55, Tryd.ntmps55
  go_wp2_with fail
  go_loopw [7] (fun i wr => ∃ k : Nat, k ≤ s.size ∧ i = .int .i64 k ∧ Crn.allB (fun k => !ctB (bt s k)) k = true ∧ w = wr) (fun i _ => s.size - (intOf i).toNat)
  case atStart => exact ⟨0, by omega, rfl, rfl, rfl⟩
  case round =>
    obtain ⟨k, hk, rfl, hall, rfl⟩ := hrel
    by_cases hlt : k < s.size
    · have hi : (k : Int) < s.size := by omega
      have hb := HB.out k hlt
      have hst := HS.out k
      rw [hall, Bool.true_and] at hst
      have hno := HN.out k hlt
      have HH := hide (And.intro hst hno)
      clear hst hno hall
      rcases ct_cases (bt s k) with hx | hx | hx | hx
      · have hv := HH.out.2 (decide_eq_true (by omega))
        subst hv
        clear HH HN HY HS HB
        have q0 : bt s k < 32 := by first | omega | (simp; omega)
        have q1 : ¬ bt s k = 9 := by first | omega | (simp; omega)
        have q2 : (bt s k == 9) = false := by first | omega | (simp; omega)
        generalize bt s k = x at *
        go_wp2
        go_ret
        exact ⟨rfl, rfl⟩
      · have hn := HH.out.1
        rw [show ctB (bt s k) = false from decide_eq_false (by omega)] at hn
        have HX := hide hn
        clear hn HH
        rw [hx] at hb
        clear hx
        go_wp2
        go_roundw
        case rel => exact ⟨k + 1, by omega, by go_num, HX.out, by first | trivial | rfl⟩
        case measure => simp [intOf]; omega
      · have hn := HH.out.1
        rw [show ctB (bt s k) = false from decide_eq_false (by omega)] at hn
        have HX := hide hn
        clear hn HH
        have q0 : ¬ bt s k < 32 := by first | omega | (simp; omega)
        have q1 : ¬ bt s k = 127 := by first | omega | (simp; omega)
        have q2 : (bt s k == 127) = false := by first | omega | (simp; omega)
        have q3 : 32 ≤ bt s k := by first | omega | (simp; omega)
        generalize bt s k = x at *
        go_wp2
        go_roundw
        case rel => exact ⟨k + 1, by omega, by go_num, HX.out, by first | trivial | rfl⟩
        case measure => simp [intOf]; omega
      · have hv := HH.out.2 (decide_eq_true (by omega))
        subst hv
        clear HH HN HY HS HB
        rw [hx] at hb
        clear hx
        go_wp2
        go_ret
        exact ⟨rfl, rfl⟩
    · obtain rfl : k = s.size := by omega
      have hi : ¬ (s.size : Int) < s.size := by omega
      have hv := HY.out hall
      clear HY HN HS HB
      subst hv
      go_wp2
      go_ret
      exact ⟨rfl, rfl⟩
set_option maxRecDepth 100000 in
set_option maxHeartbeats 4000000 in
theorem controls_any (s : ByteArray) (w : World) (h1 : s.size ≤ 1000000000) :
    Calls Tryd.prog 29 #[.string s] w fun e w' => e = .returned (.bool (ctS s)) ∧ w' = w := by
  have HB := hide (bt_at s)
  have HN : Hid (∀ k, k < s.size → ctB (bt s k) = true → ctS s = true) := fun k hk h => by
    unfold ctS; rw [Crn.allB_no (by simp [h]) _ hk]; rfl
  have HY : Hid (Crn.allB (fun k => !ctB (bt s k)) s.size = true → ctS s = false) := fun h => by
    unfold ctS; rw [h]; rfl
  have HS : Hid (∀ k, Crn.allB (fun k => !ctB (bt s k)) (k + 1) = (Crn.allB (fun k => !ctB (bt s k)) k && !ctB (bt s k))) := fun k => rfl
  generalize ctS s = R at *
  go_enter Tryd.func29, Tryd.ntmps29
  go_wp2_with fail
  go_loopw [3] (fun i wr => ∃ k : Nat, k ≤ s.size ∧ i = .int .i64 k ∧ Crn.allB (fun k => !ctB (bt s k)) k = true ∧ w = wr) (fun i _ => s.size - (intOf i).toNat)
  case atStart => exact ⟨0, by omega, rfl, rfl, rfl⟩
  case round =>
    obtain ⟨k, hk, rfl, hall, rfl⟩ := hrel
    by_cases hlt : k < s.size
    · have hi : (k : Int) < s.size := by omega
      have hb := HB.out k hlt
      have hst := HS.out k
      rw [hall, Bool.true_and] at hst
      have hno := HN.out k hlt
      have HH := hide (And.intro hst hno)
      clear hst hno hall
      rcases ct_cases (bt s k) with hx | hx | hx | hx
      · have hv := HH.out.2 (decide_eq_true (by omega))
        subst hv
        clear HH HN HY HS HB
        have q0 : bt s k < 32 := by first | omega | (simp; omega)
        have q1 : ¬ bt s k = 9 := by first | omega | (simp; omega)
        have q2 : (bt s k == 9) = false := by first | omega | (simp; omega)
        generalize bt s k = x at *
        go_wp2
        go_ret
        exact ⟨rfl, rfl⟩
      · have hn := HH.out.1
        rw [show ctB (bt s k) = false from decide_eq_false (by omega)] at hn
        have HX := hide hn
        clear hn HH
        rw [hx] at hb
        clear hx
        go_wp2
        go_roundw
        case rel => exact ⟨k + 1, by omega, by go_num, HX.out, by first | trivial | rfl⟩
        case measure => simp [intOf]; omega
      · have hn := HH.out.1
        rw [show ctB (bt s k) = false from decide_eq_false (by omega)] at hn
        have HX := hide hn
        clear hn HH
        have q0 : ¬ bt s k < 32 := by first | omega | (simp; omega)
        have q1 : ¬ bt s k = 127 := by first | omega | (simp; omega)
        have q2 : (bt s k == 127) = false := by first | omega | (simp; omega)
        have q3 : 32 ≤ bt s k := by first | omega | (simp; omega)
        generalize bt s k = x at *
        go_wp2
        go_roundw
        case rel => exact ⟨k + 1, by omega, by go_num, HX.out, by first | trivial | rfl⟩
        case measure => simp [intOf]; omega
      · have hv := HH.out.2 (decide_eq_true (by omega))
        subst hv
        clear HH HN HY HS HB
        rw [hx] at hb
        clear hx
        go_wp2
        go_ret
        exact ⟨rfl, rfl⟩
    · obtain rfl : k = s.size := by omega
      have hi : ¬ (s.size : Int) < s.size := by omega
      have hv := HY.out hall
      clear HY HN HS HB
      subst hv
      go_wp2
      go_ret
      exact ⟨rfl, rfl⟩
end Go.Proofs.YtponocolfjkapaaDoor
