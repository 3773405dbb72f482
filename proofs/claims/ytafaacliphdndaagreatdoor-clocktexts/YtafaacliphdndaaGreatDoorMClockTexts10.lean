/- package clock: the small functions on numbers. -/
import Derived.Test.YtafaacliphdndaaGreatDoorAs
import Derived.Test.YtafaacliphdndaaGreatDoorMClockTexts1
namespace Go.Proofs.YtafaacliphdndaaGreatDoor
open Go.RowKit Go.Extern.Stop Go.Stop Go.Extern

/-- package errors' variable holds the handle of the type error -/
def Hd (w : World) : Prop := w.cell? ⟨0, 0, none⟩ = some (.iface 157 (.agg #[.pointer (some ⟨5, 46, none⟩)]))
theorem Hd.pos {w : World} (h : Hd w) : 0 < w.heap.size := World.block_lt_of_cell? _ _ h
theorem Hd.later {w w' : World} (h : Hd w) (hb : Below w.heap.size w w') : Hd w' := by
  have := hb.cell (p := ⟨0, 0, none⟩) h.pos
  unfold Hd at *; rw [this]; exact h

theorem tell_nil (w : World) : Calls Tryz.prog 21 #[.nilIface] w fun e w' => e = .returned (.int .i64 0) ∧ Below w.heap.size w w' := by
  go_enter Tryz.func21, Tryz.ntmps21
  go_wp2
  go_ret
  exact ⟨rfl, (Below.refl _ _).alloc (Nat.le_refl _) _⟩
set_option maxHeartbeats 4000000 in
theorem tell_err (k : Int) (w : World) (h : Hd w) : Calls Tryz.prog 21 #[.iface 25 (.int .i64 k)] w fun e w' => e = .returned (.int .i64 k) ∧ Below w.heap.size w w' := by
  have hgA : (w.alloc (.cells #[.int .i64 0] 25)).cell? ⟨0, 0, none⟩ = some (.iface 157 (.agg #[.pointer (some ⟨5, 46, none⟩)])) := by
    rw [World.cell?_alloc_lt _ _ ⟨0, 0, none⟩ h.pos]; exact h
  have htA : (w.alloc (.cells #[.int .i64 0] 25)).cell? ⟨w.heap.size, 0, none⟩ = some (.int .i64 0) := by simp
  have hfA : (w.alloc (.cells #[.int .i64 0] 25)).frozen? ⟨w.heap.size, 0, none⟩ = false := by simp
  go_enter Tryz.func21, Tryz.ntmps21
  go_wp2_with (go_at_call 47; refine (as_hit k _ (.int .i64 0) _ hgA htA hfA).mono ?_; rintro e w' ⟨rfl, rfl⟩)
  go_ret
  exact ⟨rfl, (((((Below.refl _ w).alloc (Nat.le_refl _) _).alloc (by simp) _).alloc (by simp; omega) _).alloc (by simp; omega) _).alloc (by simp; omega) _⟩
end Go.Proofs.YtafaacliphdndaaGreatDoor
namespace Go.Proofs.YtafaacliphdndaaGreatDoor
open Go.RowKit
set_option linter.unusedVariables false
set_option linter.unusedSimpArgs false

theorem cmod_any (n b : Int) (w : World) (hb : 0 < b) (hb2 : b ≤ 1000000000) :
    Calls Tryz.prog 68 #[.int .i64 n, .int .i64 b] w fun e w' => e = .returned (.int .i64 (n % b)) ∧ w' = w := by
  obtain ⟨hc, c1, c2⟩ := tmod_cases n b hb
  go_enter Tryz.func68, Tryz.ntmps68
  go_wp2
  all_goals
    go_ret
    refine ⟨ret_int ?_, rfl⟩
    first | omega | (rw [wrap64_id] <;> omega)
theorem cfloor_any (n b : Int) (w : World) (hb : 0 < b) (hb2 : b ≤ 1000000000) (h1 : -9000000000000000000 ≤ n) (h2 : n ≤ 9000000000000000000) :
    Calls Tryz.prog 67 #[.int .i64 n, .int .i64 b] w fun e w' => e = .returned (.int .i64 (n / b)) ∧ w' = w := by
  have hq := tdiv_cases n b hb
  have hd := tdiv_bd n b h1 h2
  have Hq : Hid (n.tdiv b = n / b + (if n.tmod b < 0 then 1 else 0)) := hq
  clear hq
  go_enter Tryz.func67, Tryz.ntmps67
  go_wp2
  all_goals
    go_ret
    refine ⟨ret_int ?_, rfl⟩
    have hq := Hq.out
    split at hq
    all_goals first | omega | (rw [wrap64_id] <;> first | omega | (rw [wrap64_id] <;> omega))
theorem cthere_ok (t : Int) (w : World) (h1 : -345600000000 ≤ t) (h2 : t ≤ 345600086399) :
    Calls Tryz.prog 46 #[.int .i64 t] w fun e w' => e = .returned (.tuple #[.int .i64 t, .nilIface]) ∧ w' = w := by
  go_enter Tryz.func46, Tryz.ntmps46
  go_wp2
  go_ret2
  exact ⟨rfl, rfl⟩
theorem cthere_no (t : Int) (w : World) (h : t < -345600000000 ∨ 345600086399 < t) :
    Calls Tryz.prog 46 #[.int .i64 t] w fun e w' => e = .returned (.tuple #[.int .i64 0, .iface 25 (.int .i64 4)]) ∧ w' = w := by
  have hh : t < -345600000000 ∨ (-345600000000 ≤ t ∧ 345600086399 < t) := by omega
  clear h
  rcases hh with h | ⟨h0, h⟩
  all_goals
    go_enter Tryz.func46, Tryz.ntmps46
    go_wp2
    go_ret2
    exact ⟨rfl, rfl⟩
theorem isDay_yes (n : Int) (w : World) (h1 : -4000000 ≤ n) (h2 : n ≤ 4000000) :
    Calls Tryz.prog 72 #[.int .i64 n] w fun e w' => e = .returned (.bool true) ∧ w' = w := by
  go_enter Tryz.func72, Tryz.ntmps72
  go_wp2
  go_ret
  exact ⟨ret_bool (by simp <;> omega), rfl⟩
theorem isDay_no (n : Int) (w : World) (h : n < -4000000 ∨ 4000000 < n) :
    Calls Tryz.prog 72 #[.int .i64 n] w fun e w' => e = .returned (.bool false) ∧ w' = w := by
  have hh : n < -4000000 ∨ (-4000000 ≤ n ∧ 4000000 < n) := by omega
  clear h
  rcases hh with h | ⟨h0, h⟩
  all_goals
    go_enter Tryz.func72, Tryz.ntmps72
    go_wp2
    go_ret
    exact ⟨ret_bool (by simp <;> omega), rfl⟩
/-- what behindMidnight and ifThere answer -/
def tval (t : Int) : Value := .tuple #[.int .i64 (if t < -345600000000 ∨ 345600086399 < t then 0 else t), if t < -345600000000 ∨ 345600086399 < t then .iface 25 (.int .i64 4) else .nilIface]
theorem tval_ok (t : Int) (h1 : -345600000000 ≤ t) (h2 : t ≤ 345600086399) : tval t = .tuple #[.int .i64 t, .nilIface] := by unfold tval; rw [if_neg (by omega), if_neg (by omega)]
theorem tval_no (t : Int) (h : t < -345600000000 ∨ 345600086399 < t) : tval t = .tuple #[.int .i64 0, .iface 25 (.int .i64 4)] := by unfold tval; rw [if_pos h, if_pos h]
theorem cthere_any (t : Int) (w : World) : Calls Tryz.prog 46 #[.int .i64 t] w fun e w' => e = .returned (tval t) ∧ w' = w := by
  by_cases h : t < -345600000000 ∨ 345600086399 < t
  · rw [tval_no t h]; exact cthere_no t w h
  · rw [tval_ok t (by omega) (by omega)]; exact cthere_ok t w (by omega) (by omega)
theorem bmid_far (n s : Int) (w : World) (h : n < -4000000 ∨ 4000000 < n) :
    Calls Tryz.prog 45 #[.int .i64 n, .int .i64 s] w fun e w' => e = .returned (.tuple #[.int .i64 0, .iface 25 (.int .i64 4)]) ∧ w' = w := by
  have K := hide (fun W => isDay_no n W h)
  clear h
  go_enter Tryz.func45, Tryz.ntmps45
  go_wp2_with (go_at_call 72; refine (K.out _).mono ?_; rintro e w' ⟨rfl, rfl⟩)
  go_ret2
  exact ⟨rfl, rfl⟩
theorem bmid_ok (n s : Int) (w : World) (h1 : -4000000 ≤ n) (h2 : n ≤ 4000000) (s1 : -100000000000000 ≤ s) (s2 : s ≤ 100000000000000) (h3 : -345600000000 ≤ n * 86400 + s) (h4 : n * 86400 + s ≤ 345600086399) :
    Calls Tryz.prog 45 #[.int .i64 n, .int .i64 s] w fun e w' => e = .returned (.tuple #[.int .i64 (n * 86400 + s), .nilIface]) ∧ w' = w := by
  have K := hide (fun W => isDay_yes n W h1 h2)
  have KT := hide (fun W => cthere_ok (n * 86400 + s) W h3 h4)
  go_enter Tryz.func45, Tryz.ntmps45
  go_wp2_with (first | (go_at_call 72; refine (K.out _).mono ?_; rintro e w' ⟨rfl, rfl⟩) | (go_at_call 46; refine (KT.out _).mono ?_; rintro e w' ⟨rfl, rfl⟩))
  go_ret2
  exact ⟨rfl, rfl⟩
theorem bmid_late (n s : Int) (w : World) (h1 : -4000000 ≤ n) (h2 : n ≤ 4000000) (s1 : -100000000000000 ≤ s) (s2 : s ≤ 100000000000000) (h3 : n * 86400 + s < -345600000000 ∨ 345600086399 < n * 86400 + s) :
    Calls Tryz.prog 45 #[.int .i64 n, .int .i64 s] w fun e w' => e = .returned (.tuple #[.int .i64 0, .iface 25 (.int .i64 4)]) ∧ w' = w := by
  have K := hide (fun W => isDay_yes n W h1 h2)
  have KT := hide (fun W => cthere_no (n * 86400 + s) W h3)
  clear h3
  go_enter Tryz.func45, Tryz.ntmps45
  go_wp2_with (first | (go_at_call 72; refine (K.out _).mono ?_; rintro e w' ⟨rfl, rfl⟩) | (go_at_call 46; refine (KT.out _).mono ?_; rintro e w' ⟨rfl, rfl⟩))
  go_ret2
  exact ⟨rfl, rfl⟩
theorem split_ok (t : Int) (w : World) (h1 : -345600000000 ≤ t) (h2 : t ≤ 345600086399) :
    Calls Tryz.prog 43 #[.int .i64 t] w fun e w' => e = .returned (.tuple #[.int .i64 (t / 86400), .int .i64 (t % 86400), .nilIface]) ∧ w' = w := by
  have KT := hide (fun W => cthere_ok t W h1 h2)
  go_enter Tryz.func43, Tryz.ntmps43
  go_wp2_with (first | (go_at_call 46; refine (KT.out _).mono ?_; rintro e w' ⟨rfl, rfl⟩) | (go_at_call 67; refine (cfloor_any _ _ _ (by omega) (by omega) (by omega) (by omega)).mono ?_; rintro e w' ⟨rfl, rfl⟩) | (go_at_call 68; refine (cmod_any _ _ _ (by omega) (by omega)).mono ?_; rintro e w' ⟨rfl, rfl⟩))
  exact bodyPost_ret (v := .tuple #[.int .i64 (t / 86400), .int .i64 (t % 86400), .nilIface]) (by simp [results, Tryz.results43, go_sem]) rfl ⟨rfl, rfl⟩
theorem split_no (t : Int) (w : World) (h : t < -345600000000 ∨ 345600086399 < t) :
    Calls Tryz.prog 43 #[.int .i64 t] w fun e w' => e = .returned (.tuple #[.int .i64 0, .int .i64 0, .iface 25 (.int .i64 4)]) ∧ w' = w := by
  have KT := hide (fun W => cthere_no t W h)
  clear h
  go_enter Tryz.func43, Tryz.ntmps43
  go_wp2_with (go_at_call 46; refine (KT.out _).mono ?_; rintro e w' ⟨rfl, rfl⟩)
  exact bodyPost_ret (v := .tuple #[.int .i64 0, .int .i64 0, .iface 25 (.int .i64 4)]) (by simp [results, Tryz.results43, go_sem]) rfl ⟨rfl, rfl⟩
/-- what a clock shows so many seconds from midnight on -/
def clk (s : Int) : Value := .agg #[.int .i64 (s / 3600), .int .i64 (s % 3600 / 60), .int .i64 (s % 60)]
theorem clockOf_any (s : Int) (w : World) (h1 : 0 ≤ s) (h2 : s ≤ 2000000000000) :
    Calls Tryz.prog 59 #[.int .i64 s] w fun e w' => e = .returned (clk s) ∧ Below w.heap.size w w' := by
  go_enter Tryz.func59, Tryz.ntmps59
  go_wp2
  exact bodyPost_ret (v := clk s) (by simp [results, Tryz.results59, go_sem, clk]) rfl ⟨rfl, (Below.refl _ w).alloc (Nat.le_refl _) _⟩
theorem monthOf_c (c y m d : Int) (w : World) (y1 : -30000 ≤ y) (y2 : y ≤ 30000) (m1 : 1 ≤ m) (m2 : m ≤ 13) :
    Calls Tryz.prog 55 #[.agg #[.int .i64 c, .int .i64 y, .int .i64 m, .int .i64 d]] w fun e w' => e = .returned (.int .i64 (12 * y + m - 1)) ∧ Below w.heap.size w w' := by
  go_enter Tryz.func55, Tryz.ntmps55
  go_wp2
  go_ret
  exact ⟨rfl, (Below.refl _ w).alloc (Nat.le_refl _) _⟩
theorem parts_any (y m n d s : Int) (w : World) :
    Calls Tryz.prog 62 #[.agg #[.int .i64 y, .int .i64 m, .int .i64 n, .int .i64 d, .int .i64 s]] w fun e w' => e = .returned (.agg #[.int .i64 y, .int .i64 m, .int .i64 n, .int .i64 d, .int .i64 s]) ∧ Below w.heap.size w w' := by
  go_enter Tryz.func62, Tryz.ntmps62
  go_wp2
  exact bodyPost_ret (v := .agg #[.int .i64 y, .int .i64 m, .int .i64 n, .int .i64 d, .int .i64 s]) (by simp [results, Tryz.results62, go_sem]) rfl ⟨rfl, ((Below.refl _ w).alloc (Nat.le_refl _) _).alloc (by simp) _⟩
set_option maxRecDepth 100000 in
set_option maxHeartbeats 3200000 in
theorem check_ok (y m n d s : Int) (w : World) (hy : -1000000000000 ≤ y ∧ y ≤ 1000000000000) (hm : -1000000000000 ≤ m ∧ m ≤ 1000000000000) (hn : -1000000000000 ≤ n ∧ n ≤ 1000000000000) (hd : -1000000000000 ≤ d ∧ d ≤ 1000000000000) (hs : -1000000000000 ≤ s ∧ s ≤ 1000000000000) :
    Calls Tryz.prog 42 #[.agg #[.int .i64 y, .int .i64 m, .int .i64 n, .int .i64 d, .int .i64 s]] w fun e w' => e = .returned .nilIface ∧ Below w.heap.size w w' := by
  go_enter Tryz.func42, Tryz.ntmps42
  go_wp2_with fail
  refine (parts_any y m n d s _).mono ?_
  rintro e W ⟨rfl, hb⟩
  have hb0 : Below w.heap.size w W := ((Below.refl _ w).alloc (Nat.le_refl _) _).trans (hb.mono (by simp))
  have hB := hb0.alloc hb0.size (.cells #[.int .i64 y, .int .i64 m, .int .i64 n, .int .i64 d, .int .i64 s] 110)
  clear hb hb0
  go_wp2_with fail
  go_loop [7] (fun k => ∃ j : Nat, j ≤ 5 ∧ k = .int .i64 j) (fun k => 5 - (intOf k).toNat)
  case atStart => exact ⟨0, by omega, rfl⟩
  case round =>
    obtain ⟨j, hj, rfl⟩ := hrel
    rcases (show j = 0 ∨ j = 1 ∨ j = 2 ∨ j = 3 ∨ j = 4 ∨ j = 5 by omega) with rfl | rfl | rfl | rfl | rfl | rfl
    · go_wp2
      go_round
      case rel => exact ⟨1, by omega, rfl⟩
      case measure => simp [intOf]
    · go_wp2
      go_round
      case rel => exact ⟨2, by omega, rfl⟩
      case measure => simp [intOf]
    · go_wp2
      go_round
      case rel => exact ⟨3, by omega, rfl⟩
      case measure => simp [intOf]
    · go_wp2
      go_round
      case rel => exact ⟨4, by omega, rfl⟩
      case measure => simp [intOf]
    · go_wp2
      go_round
      case rel => exact ⟨5, by omega, rfl⟩
      case measure => simp [intOf]
    · go_wp2
      go_ret
      exact ⟨rfl, hB⟩
end Go.Proofs.YtafaacliphdndaaGreatDoor
