/- Leap years of leap years: moved by some years; the French; the Persian round. -/
import Derived.Test.YtgbbplkpepaidaaGreatDoorMCronTimes6
namespace Go.Proofs.YtgbbplkpepaidaaGreatDoor
open Go.RowKit Go.Shelf

theorem later1_any (g0 : Nat) (l0 : Array Value) (is : Int → Bool) (by_ y R : Int) (S : Nat → Prop) (p1 p2 : Nat) (w : World) (h1 : w.cell? ⟨p1, 0, none⟩ = some (fv g0 l0)) (h2 : w.cell? ⟨p2, 0, none⟩ = some (.int .i64 by_))
    (hl : FnIs (fv g0 l0) (fun y => .bool (is y)) (-R) R S w) (b1 : 0 ≤ by_) (b2 : by_ ≤ 1000) (hR : R ≤ 10000000) (y1 : -R + 1000 ≤ y) (y2 : y ≤ R - 1000) :
    Calls Tryz.prog 103 #[.int .i64 y, ptr p1, ptr p2] w fun e w' => e = .returned (.bool (is (y + by_))) ∧ ∃ q, w' = w.drewN q := by
  have en := hl.enters
  have hk := hl.calls w (y + by_) (Since.refl _ _) (by omega) (by omega)
  clear hl
  go_enter Tryz.func103, Tryz.ntmps103
  go_wp2_with (go_at_fn g0; refine hk.mono ?_; rintro e w' ⟨rfl, q, rfl⟩)
  go_ret
  exact ⟨rfl, _, rfl⟩
theorem later2_any (g1 : Nat) (l1 : Array Value) (ahead : Int → Int) (by_ y R : Int) (S : Nat → Prop) (p1 p2 : Nat) (w : World) (h1 : w.cell? ⟨p1, 1, none⟩ = some (fv g1 l1)) (h2 : w.cell? ⟨p2, 0, none⟩ = some (.int .i64 by_))
    (hl : FnIs (fv g1 l1) (fun y => .int .i64 (ahead y)) (-R) R S w) (b1 : 0 ≤ by_) (b2 : by_ ≤ 1000) (hR : R ≤ 10000000) (y1 : -R + 1001 ≤ y) (y2 : y ≤ R - 1001)
    (a1 : -100000000 ≤ ahead (y + by_)) (a2 : ahead (y + by_) ≤ 100000000) (a3 : -100000000 ≤ ahead (1 + by_)) (a4 : ahead (1 + by_) ≤ 100000000) :
    Calls Tryz.prog 104 #[.int .i64 y, ptr p1, ptr p2] w fun e w' => e = .returned (.int .i64 (ahead (y + by_) - ahead (1 + by_))) ∧ ∃ q, w' = w.drewN q := by
  have en := hl.enters
  have hk := hide (fun (q : Nat) (z : Int) => hl.calls (w.drewN q) z ((Since.refl _ _).drewN q))
  clear hl
  go_enter Tryz.func104, Tryz.ntmps104
  go_wp2_with fail
  go_quiet ((go_at_fn g1; exact Calls.quiet_of (hk.out _ _ (by omega) (by omega))))
  go_wp2
  go_ret
  exact ⟨rfl, _, rfl⟩
theorem later_any (g0 : Nat) (l0 : Array Value) (g1 : Nat) (l1 : Array Value) (is : Int → Bool) (ahead : Int → Int) (by_ R : Int) (S : Nat → Prop) (w : World) (hl : IsLeaps (fv g0 l0) (fv g1 l1) is ahead R S w) (hS : ∀ k, w.heap.size ≤ k → S k)
    (b1 : 0 ≤ by_) (b2 : by_ ≤ 1000) (hR0 : 2000 ≤ R) (hR : R ≤ 10000000) (ha : ∀ y, -R ≤ y → y ≤ R → -100000000 ≤ ahead y ∧ ahead y ≤ 100000000) :
    Calls Tryz.prog 77 #[.agg #[fv g0 l0, fv g1 l1], .int .i64 by_] w fun e w' => ∃ g0 l0 g1 l1, e = .returned (.agg #[fv g0 l0, fv g1 l1]) ∧ IsLeaps (fv g0 l0) (fv g1 l1) (fun y => is (y + by_)) (fun y => ahead (y + by_) - ahead (1 + by_)) (R - 1001) S w' ∧ Below w.heap.size w w' := by
  go_enter Tryz.func77, Tryz.ntmps77
  go_wp2
  refine bodyPost_ret (v := .agg #[fv 103 #[ptr w.heap.size, ptr (w.heap.size + 1)], fv 104 #[ptr w.heap.size, ptr (w.heap.size + 1)]])
    (by simp [results, Tryz.results77, go_sem]) rfl ⟨_, _, _, _, rfl, ⟨?_, ?_⟩, ?_⟩
  · refine ⟨_, _, rfl, enters_of Tryz.func103 (by kernel_rfl) rfl, fun W y hb h1 h2 => ?_⟩
    exact later1_any g0 l0 is by_ y R S _ _ W ((hb.cell (p := ⟨w.heap.size, 0, none⟩) (hS _ (by simp)) (by simp; omega)).trans (by simp [go_sem])) ((hb.cell (p := ⟨w.heap.size + 1, 0, none⟩) (hS _ (by simp)) (by simp)).trans (by simp [go_sem]))
      (hl.is.later (((((Since.refl _ w).alloc _).alloc _).alloc _).trans hb)) b1 b2 hR (by omega) (by omega)
  · refine ⟨_, _, rfl, enters_of Tryz.func104 (by kernel_rfl) rfl, fun W y hb h1 h2 => ?_⟩
    have z1 := ha (y + by_) (by omega) (by omega)
    have z2 := ha (1 + by_) (by omega) (by omega)
    exact later2_any g1 l1 ahead by_ y R S _ _ W ((hb.cell (p := ⟨w.heap.size, 1, none⟩) (hS _ (by simp)) (by simp; omega)).trans (by simp [go_sem])) ((hb.cell (p := ⟨w.heap.size + 1, 0, none⟩) (hS _ (by simp)) (by simp)).trans (by simp [go_sem]))
      (hl.ahead.later (((((Since.refl _ w).alloc _).alloc _).alloc _).trans hb)) b1 b2 hR (by omega) (by omega) z1.1 z1.2 z2.1 z2.2
  · exact (((Below.refl _ w).alloc (Nat.le_refl _) _).alloc (by simp) _).alloc (by simp; omega) _

/-! ### the French -/
theorem french1_any (g0 : Nat) (l0 : Array Value) (is : Int → Bool) (y R : Int) (S : Nat → Prop) (p1 : Nat) (w : World) (h1 : w.cell? ⟨p1, 0, none⟩ = some (fv g0 l0))
    (hl : FnIs (fv g0 l0) (fun y => .bool (is y)) (-R) R S w) (y1 : -R ≤ y) (y2 : y ≤ R) :
    Calls Tryz.prog 107 #[.int .i64 y, ptr p1] w fun e w' => e = .returned (.bool (is y && decide (y % 4000 ≠ 0))) ∧ ∃ q, w' = w.drewN q := by
  have en := hl.enters
  have hk := hl.calls w y (Since.refl _ _) y1 y2
  clear hl
  by_cases hi : is y = true
  all_goals
    simp only [hi] at hk
    go_enter Tryz.func107, Tryz.ntmps107
    go_wp2_with (first | (go_at_fn g0; refine hk.mono ?_; rintro e w' ⟨rfl, q, rfl⟩) | (go_at_call 92; refine (mod_any _ _ _ (by omega) (by omega)).mono ?_; rintro e w' ⟨rfl, rfl⟩))
    go_ret
    exact ⟨ret_bool (by rw [Bool.eq_iff_iff]; simp [hi]), _, rfl⟩
theorem french2_any (g1 : Nat) (l1 : Array Value) (ahead : Int → Int) (y R : Int) (S : Nat → Prop) (p1 : Nat) (w : World) (h1 : w.cell? ⟨p1, 1, none⟩ = some (fv g1 l1))
    (hl : FnIs (fv g1 l1) (fun y => .int .i64 (ahead y)) (-R) R S w) (hR : R ≤ 10000000) (y1 : -R ≤ y) (y2 : y ≤ R) (a1 : -100000000 ≤ ahead y) (a2 : ahead y ≤ 100000000) :
    Calls Tryz.prog 108 #[.int .i64 y, ptr p1] w fun e w' => e = .returned (.int .i64 (ahead y - (y - 1) / 4000)) ∧ ∃ q, w' = w.drewN q := by
  have en := hl.enters
  have hk := hl.calls w y (Since.refl _ _) y1 y2
  clear hl
  go_enter Tryz.func108, Tryz.ntmps108
  go_wp2_with (first | (go_at_fn g1; refine hk.mono ?_; rintro e w' ⟨rfl, q, rfl⟩) | (go_at_call 94; refine (floor_any _ _ _ (by omega) (by omega) (by omega) (by omega)).mono ?_; rintro e w' ⟨rfl, rfl⟩))
  go_ret
  exact ⟨rfl, _, rfl⟩
theorem gahead_bd (y : Int) (h1 : -2000000 ≤ y) (h2 : y ≤ 2000000) : -100000000 ≤ Alm.gahead y ∧ Alm.gahead y ≤ 100000000 := by unfold Alm.gahead; omega
theorem frenchLeaps_any (w : World) :
    Calls Tryz.prog 79 #[] w fun e w' => ∃ g0 l0 g1 l1, e = .returned (.agg #[fv g0 l0, fv g1 l1]) ∧ IsLeaps (fv g0 l0) (fv g1 l1) (fun y => Alm.gleap y && decide (y % 4000 ≠ 0)) (fun y => Alm.gahead y - (y - 1) / 4000) 2000000 (From w.heap.size) w' ∧ Below w.heap.size w w' := by
  go_enter Tryz.func79, Tryz.ntmps79
  go_wp2_with fail
  refine (gregorianLeaps_any _).mono ?_
  rintro e W ⟨g0, l0, g1, l1, rfl, hl, hb⟩
  obtain ⟨hc, hf⟩ := bcell hb
  have hz : w.heap.size < W.heap.size := by have := hb.size; simp at this; omega
  go_wp2
  refine bodyPost_ret (v := .agg #[fv 107 #[ptr W.heap.size], fv 108 #[ptr W.heap.size]])
    (by simp [results, Tryz.results79, go_sem, hc, hz]) rfl ⟨_, _, _, _, rfl, ?_, ?_⟩
  · refine ⟨?_, ?_⟩
    · refine ⟨_, _, rfl, enters_of Tryz.func107 (by kernel_rfl) rfl, fun W' y hb' h1 h2 => ?_⟩
      have hs := (show Since (From (w.heap.size + 1)) W _ from (by repeat (first | exact Since.refl _ _ | assumption | (refine Since.setCell ?_ (by simp <;> omega) _) | refine Since.alloc ?_ _ | refine Since.drewN ?_ _))).trans (hb'.mono (Nat.le_succ _))
      exact french1_any g0 l0 Alm.gleap y 2000000 _ _ W' ((hb'.cell (p := ⟨W.heap.size, 0, none⟩) (by simp; omega) (by simp)).trans (by simp [go_sem])) ((hl.later (by simpa using hs)).is) h1 h2
    · refine ⟨_, _, rfl, enters_of Tryz.func108 (by kernel_rfl) rfl, fun W' y hb' h1 h2 => ?_⟩
      have z := gahead_bd y h1 h2
      have hs := (show Since (From (w.heap.size + 1)) W _ from (by repeat (first | exact Since.refl _ _ | assumption | (refine Since.setCell ?_ (by simp <;> omega) _) | refine Since.alloc ?_ _ | refine Since.drewN ?_ _))).trans (hb'.mono (Nat.le_succ _))
      exact french2_any g1 l1 Alm.gahead y 2000000 _ _ W' ((hb'.cell (p := ⟨W.heap.size, 1, none⟩) (by simp; omega) (by simp)).trans (by simp [go_sem])) ((hl.later (by simpa using hs)).ahead) (by omega) h1 h2 z.1 z.2
  · exact ((((Below.refl _ w).alloc (Nat.le_refl _) _).trans (hb.mono (by simp))).setCell (Nat.le_refl _) _).setCell (Nat.le_refl _) _ |>.alloc (by simp; omega) _
end Go.Proofs.YtgbbplkpepaidaaGreatDoor
