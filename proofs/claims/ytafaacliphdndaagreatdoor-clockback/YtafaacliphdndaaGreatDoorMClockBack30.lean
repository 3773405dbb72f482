/- package plain: ClockSplit, ClockJoin, ClockOf, ClockTell. -/
import Derived.Test.YtafaacliphdndaaGreatDoorMClockBack28
import Derived.Test.YtafaacliphdndaaGreatDoorMClockBack27
import Derived.Test.YtafaacliphdndaaGreatDoorMClockBack29
namespace Go.Proofs.YtafaacliphdndaaGreatDoor
open Go.RowKit Go.Shelf
set_option linter.unusedVariables false
set_option linter.unusedSimpArgs false

/-- the day with which the first week of a year begins, where weeks begin with the weekday b -/
def wone (c y b : Int) : Int := Alm.start c y + 3 - (Alm.start c y + 3 + 4 - b) % 7
theorem wone_fmon (y : Int) : wone 1 y 1 = fmon y := by unfold wone fmon; omega
theorem fieldYear (v0 v1 v2 v3 : Int) (W : World) : (Instr.field 55 (.agg #[.int .i64 v0, .int .i64 v1, .int .i64 v2, .int .i64 v3]) 1).run Tryz.prog W = .ok (.int .i64 v1) W := by kernel_rfl
theorem fmon_mono (Y : Int) : fmon Y + 364 ≤ fmon (Y + 1) := by
  have := start1_succ Y
  unfold fmon; omega
theorem rgreg_any (day Y M D : Int) (w : World) (d1 : -4000000 ≤ day) (d2 : day ≤ 4000000) (y1 : -20000 ≤ Y) (y2 : Y ≤ 20000) (hD : Alm.IsDate 1 day Y M D) :
    Calls Tryz.prog 24 #[.int .i64 day] w fun r w' => r = .returned (.agg #[.int .i64 1, .int .i64 Y, .int .i64 M, .int .i64 D]) ∧ Below w.heap.size w w' := by
  have K := hide (fun W => rof_ok 1 day Y M D W (by omega) (by omega) d1 d2 y1 y2 hD)
  clear hD
  go_enter Tryz.func24, Tryz.ntmps24
  go_wp2_with fail
  refine (K.out _).mono ?_
  rintro r W ⟨rfl, hb⟩
  obtain ⟨⟨z0, n0⟩, ⟨z1, n1⟩, ⟨z2, n2⟩, ⟨z3, n3⟩⟩ := slotD w W hb
  have hs : w.heap.size < W.heap.size := by have := hb.size; simp at this; omega
  have hB : Below w.heap.size w W := ((Below.refl _ w).alloc (Nat.le_refl _) _).trans (hb.mono (by simp))
  clear K hb
  go_wp2
  refine bodyPost_ret (v := .agg #[.int .i64 1, .int .i64 Y, .int .i64 M, .int .i64 D]) (by simp [results, Tryz.results24, go_sem, z0, z1, z2, z3, hs]) rfl ⟨rfl, ?_⟩
  exact ((((hB.setCell (Nat.le_refl _) _).setCell (Nat.le_refl _) _).setCell (Nat.le_refl _) _).setCell (Nat.le_refl _) _).alloc (by simp [World.setCell]; omega) _

/-- what OfWeek answers -/
def wval (y n d : Int) : Int := if werr y n d = 0 then fmon y + 7 * (n - 1) + d - 1 else 0
end Go.Proofs.YtafaacliphdndaaGreatDoor
namespace Go.Proofs.YtafaacliphdndaaGreatDoor
open Go.RowKit Go.Shelf
set_option linter.unusedVariables false
set_option linter.unusedSimpArgs false

/-- the quotient that Floor tells of a number of 64 bits, near the ends too -/
theorem rfloor_far (t : Int) (w : World) (h1 : -9223372036854775808 ≤ t) (h2 : t < 9223372036854775808) (h : t < -345600000000 ∨ 345600086399 < t) :
    ∃ q : Int, (q < -4000000 ∨ 4000000 < q) ∧ ∀ W, Calls Tryz.prog 25 #[.int .i64 t, .int .i64 86400] W fun e w' => e = .returned (.int .i64 q) ∧ w' = W := by
  by_cases hn : -9000000000000000000 ≤ t ∧ t ≤ 9000000000000000000
  · exact ⟨t / 86400, by omega, fun W => rfloor_any t 86400 W (by omega) (by omega) hn.1 hn.2⟩
  · refine ⟨(wrap64 (t - t % 86400)).tdiv 86400, ?_, fun W => ?_⟩
    · have hw : wrap64 (t - t % 86400) = t - t % 86400 ∨ wrap64 (t - t % 86400) = t - t % 86400 + 18446744073709551616 := by unfold wrap64; omega
      have hd := tdiv_cases (wrap64 (t - t % 86400)) 86400 (by omega)
      split at hd <;> omega
    · have hm := rmod_any t 86400 W (by omega) (by omega)
      have e1 : ¬ (86400 : Int) = 0 := by omega
      go_enter Tryz.func25, Tryz.ntmps25
      go_wp2_with (go_at_call 26; refine (rmod_any t 86400 _ (by omega) (by omega)).mono ?_; rintro e w' ⟨rfl, rfl⟩)
      go_ret
      refine ⟨ret_int (wrap64_id ?_ ?_), rfl⟩
      all_goals
        have hd := tdiv_cases (wrap64 (t - t % 86400)) 86400 (by omega)
        have hw : -9223372036854775808 ≤ wrap64 (t - t % 86400) ∧ wrap64 (t - t % 86400) < 9223372036854775808 := by unfold wrap64; omega
        split at hd <;> omega
theorem rlocal_yes (t : Int) (w : World) (h1 : -345600000000 ≤ t) (h2 : t ≤ 345600086399) :
    Calls Tryz.prog 31 #[.int .i64 t] w fun e w' => e = .returned (.bool true) ∧ w' = w := by
  go_enter Tryz.func31, Tryz.ntmps31
  go_wp2_with (go_at_call 25; refine (rfloor_any _ _ _ (by omega) (by omega) (by omega) (by omega)).mono ?_; rintro e w' ⟨rfl, rfl⟩)
  all_goals
    go_ret
    exact ⟨ret_bool (by simp <;> omega), rfl⟩
theorem rlocal_no (t : Int) (w : World) (b1 : -9223372036854775808 ≤ t) (b2 : t < 9223372036854775808) (h : t < -345600000000 ∨ 345600086399 < t) :
    Calls Tryz.prog 31 #[.int .i64 t] w fun e w' => e = .returned (.bool false) ∧ w' = w := by
  obtain ⟨q, hq, k⟩ := rfloor_far t w b1 b2 h
  have K := hide k
  clear k h
  have hh : q < -4000000 ∨ (-4000000 ≤ q ∧ 4000000 < q) := by omega
  clear hq
  rcases hh with h | ⟨h0, h⟩
  all_goals
    go_enter Tryz.func31, Tryz.ntmps31
    go_wp2_with (go_at_call 25; refine (K.out _).mono ?_; rintro e w' ⟨rfl, rfl⟩)
    go_ret
    exact ⟨ret_bool (by simp <;> omega), rfl⟩
theorem rsplit_ok (t : Int) (w : World) (h1 : -345600000000 ≤ t) (h2 : t ≤ 345600086399) :
    Calls Tryz.prog 22 #[.int .i64 t] w fun e w' => e = .returned (.tuple #[.int .i64 (t / 86400), .int .i64 (t % 86400), .int .i64 0]) ∧ w' = w := by
  have K := hide (fun W => rlocal_yes t W h1 h2)
  go_enter Tryz.func22, Tryz.ntmps22
  go_wp2_with (first | (go_at_call 31; refine (K.out _).mono ?_; rintro e w' ⟨rfl, rfl⟩) | (go_at_call 25; refine (rfloor_any _ _ _ (by omega) (by omega) (by omega) (by omega)).mono ?_; rintro e w' ⟨rfl, rfl⟩) | (go_at_call 26; refine (rmod_any _ _ _ (by omega) (by omega)).mono ?_; rintro e w' ⟨rfl, rfl⟩))
  exact bodyPost_ret (v := .tuple #[.int .i64 (t / 86400), .int .i64 (t % 86400), .int .i64 0]) (by simp [results, Tryz.results22, go_sem]) rfl ⟨rfl, rfl⟩
theorem rsplit_no (t : Int) (w : World) (b1 : -9223372036854775808 ≤ t) (b2 : t < 9223372036854775808) (h : t < -345600000000 ∨ 345600086399 < t) :
    Calls Tryz.prog 22 #[.int .i64 t] w fun e w' => e = .returned (.tuple #[.int .i64 0, .int .i64 0, .int .i64 4]) ∧ w' = w := by
  have K := hide (fun W => rlocal_no t W b1 b2 h)
  clear h
  go_enter Tryz.func22, Tryz.ntmps22
  go_wp2_with (go_at_call 31; refine (K.out _).mono ?_; rintro e w' ⟨rfl, rfl⟩)
  exact bodyPost_ret (v := .tuple #[.int .i64 0, .int .i64 0, .int .i64 4]) (by simp [results, Tryz.results22, go_sem]) rfl ⟨rfl, rfl⟩
/-- what Join answers, and its error -/
def jerr (day s : Int) : Int := if s < 0 ∨ 86400 ≤ s then 3 else if day < -4000000 ∨ 4000000 < day then 4 else 0
def jval (day s : Int) : Int := if s < 0 ∨ 86400 ≤ s then 0 else if day < -4000000 ∨ 4000000 < day then 0 else day * 86400 + s
/-- may a clock be? -/
def cbad (h m s : Int) : Prop := h < 0 ∨ (0 ≤ h ∧ 23 < h) ∨ (0 ≤ h ∧ h ≤ 23 ∧ m < 0) ∨ (0 ≤ h ∧ h ≤ 23 ∧ 0 ≤ m ∧ 59 < m) ∨ (0 ≤ h ∧ h ≤ 23 ∧ 0 ≤ m ∧ m ≤ 59 ∧ s < 0) ∨ (0 ≤ h ∧ h ≤ 23 ∧ 0 ≤ m ∧ m ≤ 59 ∧ 0 ≤ s ∧ 59 < s)
end Go.Proofs.YtafaacliphdndaaGreatDoor
namespace Go.Proofs.YtafaacliphdndaaGreatDoor
open Go.RowKit Go.Shelf
set_option linter.unusedVariables false
set_option linter.unusedSimpArgs false

theorem slotDC (w W : World) (hw : Below ((w.alloc (.cells #[.int .i64 0, .int .i64 0, .int .i64 0, .int .i64 0] 55)).alloc (.cells #[.int .i64 0, .int .i64 0, .int .i64 0] 68)).heap.size ((w.alloc (.cells #[.int .i64 0, .int .i64 0, .int .i64 0, .int .i64 0] 55)).alloc (.cells #[.int .i64 0, .int .i64 0, .int .i64 0] 68)) W) :
    (W.cell? ⟨w.heap.size, 0, none⟩ = some (.int .i64 0) ∧ W.cell? ⟨w.heap.size, 1, none⟩ = some (.int .i64 0) ∧ W.cell? ⟨w.heap.size, 2, none⟩ = some (.int .i64 0) ∧ W.cell? ⟨w.heap.size, 3, none⟩ = some (.int .i64 0)) ∧ (∀ j, W.frozen? ⟨w.heap.size, j, none⟩ = false) ∧
    (W.cell? ⟨w.heap.size + 1, 0, none⟩ = some (.int .i64 0) ∧ W.cell? ⟨w.heap.size + 1, 1, none⟩ = some (.int .i64 0) ∧ W.cell? ⟨w.heap.size + 1, 2, none⟩ = some (.int .i64 0)) ∧ (∀ j, W.frozen? ⟨w.heap.size + 1, j, none⟩ = false) ∧ w.heap.size + 1 < W.heap.size ∧ Below w.heap.size w W := by
  have c2 : ∀ k o, k < w.heap.size + 2 → W.cell? ⟨k, o, none⟩ = ((w.alloc (.cells #[.int .i64 0, .int .i64 0, .int .i64 0, .int .i64 0] 55)).alloc (.cells #[.int .i64 0, .int .i64 0, .int .i64 0] 68)).cell? ⟨k, o, none⟩ := fun k o hk => hw.cell (p := ⟨k, o, none⟩) (by simp; omega)
  have f2 : ∀ k o, k < w.heap.size + 2 → W.frozen? ⟨k, o, none⟩ = ((w.alloc (.cells #[.int .i64 0, .int .i64 0, .int .i64 0, .int .i64 0] 55)).alloc (.cells #[.int .i64 0, .int .i64 0, .int .i64 0] 68)).frozen? ⟨k, o, none⟩ := fun k o hk => hw.frozen (p := ⟨k, o, none⟩) (by simp; omega)
  refine ⟨⟨?_, ?_, ?_, ?_⟩, fun j => ?_, ⟨?_, ?_, ?_⟩, fun j => ?_, by have := hw.size; simp at this; omega, (((Below.refl _ w).alloc (Nat.le_refl _) _).alloc (by simp) _).trans (hw.mono (by simp; omega))⟩
  · rw [c2 _ _ (by omega)]; simp [go_sem]
  · rw [c2 _ _ (by omega)]; simp [go_sem]
  · rw [c2 _ _ (by omega)]; simp [go_sem]
  · rw [c2 _ _ (by omega)]; simp [go_sem]
  · rw [f2 _ _ (by omega)]; simp [go_sem]
  · rw [c2 _ _ (by omega)]; simp [go_sem]
  · rw [c2 _ _ (by omega)]; simp [go_sem]
  · rw [c2 _ _ (by omega)]; simp [go_sem]
  · rw [f2 _ _ (by omega)]; simp [go_sem]
set_option maxRecDepth 100000 in
set_option maxHeartbeats 3200000 in
theorem rtell_ok (t y m d : Int) (w : World) (t1 : -345600000000 ≤ t) (t2 : t ≤ 345600086399) (y1 : -20000 ≤ y) (y2 : y ≤ 20000) (hD : Alm.IsDate 1 (t / 86400) y m d) :
    Calls Tryz.prog 33 #[.int .i64 t] w fun e w' => e = .returned (.tuple #[.agg #[.int .i64 1, .int .i64 y, .int .i64 m, .int .i64 d], clk (t % 86400), .int .i64 0]) ∧ Below w.heap.size w w' := by
  have KG := hide (fun W => rgreg_any (t / 86400) y m d W (by omega) (by omega) y1 y2 hD)
  have KS := fun W => rsplit_ok t W t1 t2
  have s1 : 0 ≤ t % 86400 := by omega
  have s2 : t % 86400 < 86400 := by omega
  clear hD
  generalize t / 86400 = D at *
  generalize t % 86400 = s at *
  have hm := hide (show s / 60 % 60 = s % 3600 / 60 from by omega)
  go_enter Tryz.func33, Tryz.ntmps33
  go_wp2_with (go_at_call 22; refine (KS _).mono ?_; rintro e w' ⟨rfl, rfl⟩)
  refine (KG.out _).mono ?_
  rintro e W ⟨rfl, hw⟩
  obtain ⟨⟨a0, a1, a2, a3⟩, fa, ⟨b0, b1, b2⟩, fb, hs, hb⟩ := slotDC w W hw
  clear hw KG
  go_wp2
  refine bodyPost_ret (v := .tuple #[.agg #[.int .i64 1, .int .i64 y, .int .i64 m, .int .i64 d], .agg #[.int .i64 (s / 3600), .int .i64 (s / 60 % 60), .int .i64 (s % 60)], .int .i64 0]) (by simp [results, Tryz.results33, go_sem, *]) rfl ⟨by rw [hm.out]; rfl, ?_⟩
  exact ((((((hb.setCell (Nat.le_refl _) _).setCell (Nat.le_refl _) _).setCell (Nat.le_refl _) _).setCell (Nat.le_refl _) _).setCell (Nat.le_succ _) _).setCell (Nat.le_succ _) _).setCell (Nat.le_succ _) _
set_option maxRecDepth 100000 in
set_option maxHeartbeats 3200000 in
theorem rtell_no (t : Int) (w : World) (b1 : -9223372036854775808 ≤ t) (b2 : t < 9223372036854775808) (h : t < -345600000000 ∨ 345600086399 < t) :
    Calls Tryz.prog 33 #[.int .i64 t] w fun e w' => e = .returned (.tuple #[.agg #[.int .i64 0, .int .i64 0, .int .i64 0, .int .i64 0], .agg #[.int .i64 0, .int .i64 0, .int .i64 0], .int .i64 4]) ∧ Below w.heap.size w w' := by
  have KS := fun W => rsplit_no t W b1 b2 h
  have hb0 : Below w.heap.size w ((w.alloc (.cells #[.int .i64 0, .int .i64 0, .int .i64 0, .int .i64 0] 55)).alloc (.cells #[.int .i64 0, .int .i64 0, .int .i64 0] 68)) := ((Below.refl _ w).alloc (Nat.le_refl _) _).alloc (by simp) _
  clear h
  go_enter Tryz.func33, Tryz.ntmps33
  go_wp2_with (go_at_call 22; refine (KS _).mono ?_; rintro e w' ⟨rfl, rfl⟩)
  refine bodyPost_ret (v := .tuple #[.agg #[.int .i64 0, .int .i64 0, .int .i64 0, .int .i64 0], .agg #[.int .i64 0, .int .i64 0, .int .i64 0], .int .i64 4]) (by simp [results, Tryz.results33, go_sem]) rfl ⟨rfl, ?_⟩
  exact hb0

/-! ### package clock: Join, Of -/
/-- an error's value -/
def ev (k : Int) : Value := if k = 0 then .nilIface else .iface 25 (.int .i64 k)
theorem tell_ev (k : Int) (W : World) (h : Hd W) : Calls Tryz.prog 21 #[ev k] W fun e w' => e = .returned (.int .i64 k) ∧ Below W.heap.size W w' := by
  by_cases hk : k = 0
  · subst hk; exact tell_nil W
  · unfold ev; rw [if_neg hk]; exact tell_err k W h
theorem bmid_val (day s : Int) (w : World) (s1 : 0 ≤ s) (s2 : s < 86400) :
    Calls Tryz.prog 45 #[.int .i64 day, .int .i64 s] w fun e w' => e = .returned (.tuple #[.int .i64 (jval day s), ev (jerr day s)]) ∧ w' = w := by
  by_cases h2 : day < -4000000 ∨ 4000000 < day
  · rw [show jval day s = 0 from by unfold jval; rw [if_neg (by omega), if_pos h2], show jerr day s = 4 from by unfold jerr; rw [if_neg (by omega), if_pos h2]]
    exact bmid_far day s w h2
  · rw [show jval day s = day * 86400 + s from by unfold jval; rw [if_neg (by omega), if_neg h2], show jerr day s = 0 from by unfold jerr; rw [if_neg (by omega), if_neg h2]]
    exact bmid_ok day s w (by omega) (by omega) (by omega) (by omega) (by omega) (by omega)
theorem seconds_any (h m s : Int) (w : World) (x1 : 0 ≤ h) (x2 : h ≤ 99999999) (x3 : 0 ≤ m) (x4 : m ≤ 99999999) (x5 : 0 ≤ s) (x6 : s ≤ 99999999) :
    Calls Tryz.prog 92 #[.agg #[.int .i64 h, .int .i64 m, .int .i64 s]] w fun e w' => e = .returned (.int .i64 (3600 * h + 60 * m + s)) ∧ Below w.heap.size w w' := by
  go_enter Tryz.func92, Tryz.ntmps92
  go_wp2
  go_ret
  exact ⟨rfl, (Below.refl _ w).alloc (Nat.le_refl _) _⟩
end Go.Proofs.YtafaacliphdndaaGreatDoor
namespace Go.Proofs.YtafaacliphdndaaGreatDoor
open Go.RowKit Go.Shelf
set_option linter.unusedVariables false
set_option linter.unusedSimpArgs false

theorem after_tellDC (w W X w' : World) (v0 v1 v2 v3 c0 c1 c2 : Value) (n : Nat) (hX : X = ((W.alloc (.cells #[v0, v1, v2, v3] 55)).alloc (.cells #[c0, c1, c2] 68)).drewN n) (hw : Below ((w.alloc (.cells #[.int .i64 0, .int .i64 0, .int .i64 0, .int .i64 0] 55)).alloc (.cells #[.int .i64 0, .int .i64 0, .int .i64 0] 68)).heap.size ((w.alloc (.cells #[.int .i64 0, .int .i64 0, .int .i64 0, .int .i64 0] 55)).alloc (.cells #[.int .i64 0, .int .i64 0, .int .i64 0] 68)) W) (h : Below X.heap.size X w') :
    (w'.cell? ⟨w.heap.size, 0, none⟩ = some (.int .i64 0) ∧ w'.cell? ⟨w.heap.size, 1, none⟩ = some (.int .i64 0) ∧ w'.cell? ⟨w.heap.size, 2, none⟩ = some (.int .i64 0) ∧ w'.cell? ⟨w.heap.size, 3, none⟩ = some (.int .i64 0)) ∧ (∀ j, w'.frozen? ⟨w.heap.size, j, none⟩ = false) ∧
    (w'.cell? ⟨w.heap.size + 1, 0, none⟩ = some (.int .i64 0) ∧ w'.cell? ⟨w.heap.size + 1, 1, none⟩ = some (.int .i64 0) ∧ w'.cell? ⟨w.heap.size + 1, 2, none⟩ = some (.int .i64 0)) ∧ (∀ j, w'.frozen? ⟨w.heap.size + 1, j, none⟩ = false) ∧
    (w'.cell? ⟨W.heap.size, 0, none⟩ = some v0 ∧ w'.cell? ⟨W.heap.size, 1, none⟩ = some v1 ∧ w'.cell? ⟨W.heap.size, 2, none⟩ = some v2 ∧ w'.cell? ⟨W.heap.size, 3, none⟩ = some v3) ∧
    (w'.cell? ⟨W.heap.size + 1, 0, none⟩ = some c0 ∧ w'.cell? ⟨W.heap.size + 1, 1, none⟩ = some c1 ∧ w'.cell? ⟨W.heap.size + 1, 2, none⟩ = some c2) ∧ Hid (Below w.heap.size w w') := by
  subst hX
  obtain ⟨⟨a0, a1, a2, a3⟩, fa, ⟨b0, b1, b2⟩, fb, hs, hb⟩ := slotDC w W hw
  have h2 : Below ((W.alloc (.cells #[v0, v1, v2, v3] 55)).alloc (.cells #[c0, c1, c2] 68)).heap.size ((W.alloc (.cells #[v0, v1, v2, v3] 55)).alloc (.cells #[c0, c1, c2] 68)) w' := (below_drewN (Below.refl _ _) n).trans h
  have cc : ∀ k o, k < W.heap.size → w'.cell? ⟨k, o, none⟩ = W.cell? ⟨k, o, none⟩ := fun k o hk => by rw [h2.cell (p := ⟨k, o, none⟩) (by simp; omega), World.cell?_alloc_past _ _ _ (by simp; omega), World.cell?_alloc_past _ _ _ hk]
  have ff : ∀ k o, k < W.heap.size → w'.frozen? ⟨k, o, none⟩ = W.frozen? ⟨k, o, none⟩ := fun k o hk => by rw [h2.frozen (p := ⟨k, o, none⟩) (by simp; omega), World.frozen?_alloc_old _ _ ⟨k, o, none⟩ (by simp; omega), World.frozen?_alloc_old _ _ ⟨k, o, none⟩ (Nat.ne_of_lt hk)]
  refine ⟨⟨?_, ?_, ?_, ?_⟩, fun j => ?_, ⟨?_, ?_, ?_⟩, fun j => ?_, ⟨?_, ?_, ?_, ?_⟩, ⟨?_, ?_, ?_⟩, ?_⟩
  · rw [cc _ _ (by omega)]; exact a0
  · rw [cc _ _ (by omega)]; exact a1
  · rw [cc _ _ (by omega)]; exact a2
  · rw [cc _ _ (by omega)]; exact a3
  · rw [ff _ _ (by omega)]; exact fa j
  · rw [cc _ _ (by omega)]; exact b0
  · rw [cc _ _ (by omega)]; exact b1
  · rw [cc _ _ (by omega)]; exact b2
  · rw [ff _ _ (by omega)]; exact fb j
  · rw [h2.cell (p := ⟨W.heap.size, 0, none⟩) (by simp; omega)]; simp [go_sem]
  · rw [h2.cell (p := ⟨W.heap.size, 1, none⟩) (by simp; omega)]; simp [go_sem]
  · rw [h2.cell (p := ⟨W.heap.size, 2, none⟩) (by simp; omega)]; simp [go_sem]
  · rw [h2.cell (p := ⟨W.heap.size, 3, none⟩) (by simp; omega)]; simp [go_sem]
  · rw [h2.cell (p := ⟨W.heap.size + 1, 0, none⟩) (by simp)]; simp [go_sem]
  · rw [h2.cell (p := ⟨W.heap.size + 1, 1, none⟩) (by simp)]; simp [go_sem]
  · rw [h2.cell (p := ⟨W.heap.size + 1, 2, none⟩) (by simp)]; simp [go_sem]
  · exact ((hb.alloc (by omega) _).alloc (by simp; omega) _).trans (h2.mono (by simp; omega))
end Go.Proofs.YtafaacliphdndaaGreatDoor
