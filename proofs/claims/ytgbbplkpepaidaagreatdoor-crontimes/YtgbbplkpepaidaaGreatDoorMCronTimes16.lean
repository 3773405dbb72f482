/- The reference's first days and rounds. -/
import Derived.Test.YtgbbplkpepaidaaGreatDoorMCronTimes7
import Derived.Deep.RegionWith
import Derived.Deep.CutRange
import Derived.Test.YtgbbplkpepaidaaGreatDoorMCronTimes10
namespace Go.Proofs.YtgbbplkpepaidaaGreatDoor
open Go.RowKit Go.Shelf
/-! ### the Persian round -/
theorem pers1_any (y : Int) (w : World) (y1 : -2000000 ≤ y) (y2 : y ≤ 2000000) :
    Calls Tryz.prog 95 #[.int .i64 y] w fun e w' => e = .returned (.int .i64 (Alm.pcyc y)) ∧ ∃ q, w' = w.drewN q := by
  go_enter Tryz.func95, Tryz.ntmps95
  go_wp2_with (go_at_call 92; refine (mod_any _ _ _ (by omega) (by omega)).mono ?_; rintro e w' ⟨rfl, rfl⟩)
  go_ret
  exact ⟨rfl, 0, rfl⟩
theorem pcyc_bd (y : Int) : 512 ≤ Alm.pcyc y ∧ Alm.pcyc y ≤ 3331 := by unfold Alm.pcyc; omega
theorem pers2_any (g1 : Nat) (l1 : Array Value) (y : Int) (S : Nat → Prop) (p1 p2 p3 : Nat) (w : World) (h1 : w.cell? ⟨p1, 0, none⟩ = some (.int .i64 683)) (h2 : w.cell? ⟨p2, 1, none⟩ = some (fv g1 l1)) (h3 : w.cell? ⟨p3, 0, none⟩ = some (fv 95 #[]))
    (hl : FnIs (fv g1 l1) (fun y => .int .i64 ((0 + 682 * (y - 1)) / 2816 - 0 / 2816)) (-2000000) 2000000 S w) (y1 : -2000000 ≤ y) (y2 : y ≤ 2000000) :
    Calls Tryz.prog 96 #[.int .i64 y, ptr p1, ptr p2, ptr p3] w fun e w' => e = .returned (.int .i64 (Alm.pahead y)) ∧ ∃ q, w' = w.drewN q := by
  have en := hl.enters
  have hz := pcyc_bd y
  have hk := hide (fun (q : Nat) (z : Int) => hl.calls (w.drewN q) z ((Since.refl _ _).drewN q))
  have hp := hide (fun (q : Nat) => pers1_any y (w.drewN q) y1 y2)
  clear hl
  go_enter Tryz.func96, Tryz.ntmps96
  go_wp2_with fail
  go_quiet (first | (go_at_fn g1; exact Calls.quiet_of (hk.out _ _ (by omega) (by omega))) | (go_at_call 95; exact Calls.quiet_of (hp.out _)) | (go_at_call 94; exact Calls.quiet_of_same (floor_any _ _ _ (by omega) (by omega) (by omega) (by omega))))
  go_wp2
  go_ret
  exact ⟨ret_int (by unfold Alm.pahead; omega), _, rfl⟩
theorem pers3_any (g0 : Nat) (l0 : Array Value) (y : Int) (S : Nat → Prop) (p2 p3 : Nat) (w : World) (h2 : w.cell? ⟨p2, 0, none⟩ = some (fv g0 l0)) (h3 : w.cell? ⟨p3, 0, none⟩ = some (fv 95 #[]))
    (hl : FnIs (fv g0 l0) (fun y => .bool (decide ((0 + 682 * y) % 2816 < 682))) (-2000000) 2000000 S w) (y1 : -2000000 ≤ y) (y2 : y ≤ 2000000) :
    Calls Tryz.prog 97 #[.int .i64 y, ptr p2, ptr p3] w fun e w' => e = .returned (.bool (decide (Alm.pcyc y * 682 % 2816 < 682))) ∧ ∃ q, w' = w.drewN q := by
  have en := hl.enters
  have hz := pcyc_bd y
  have hk := hide (fun (q : Nat) (z : Int) => hl.calls (w.drewN q) z ((Since.refl _ _).drewN q))
  have hp := hide (fun (q : Nat) => pers1_any y (w.drewN q) y1 y2)
  clear hl
  go_enter Tryz.func97, Tryz.ntmps97
  go_wp2_with fail
  go_quiet (first | (go_at_fn g0; exact Calls.quiet_of (hk.out _ _ (by omega) (by omega))) | (go_at_call 95; exact Calls.quiet_of (hp.out _)))
  go_wp2
  go_ret
  exact ⟨ret_bool (by simp only [Int.zero_add, Int.mul_comm]), _, rfl⟩
theorem pahead_bd (y : Int) (h1 : -2000000 ≤ y) (h2 : y ≤ 2000000) : -100000000 ≤ Alm.pahead y ∧ Alm.pahead y ≤ 100000000 := by
  have := pcyc_bd y
  unfold Alm.pahead; omega
theorem pers4_any (g : Nat) (lb : Array Value) (y : Int) (S : Nat → Prop) (p1 : Nat) (w : World) (h1 : w.cell? ⟨p1, 0, none⟩ = some (fv g lb))
    (hl : FnIs (fv g lb) (fun y => .int .i64 (Alm.pahead y)) (-2000000) 2000000 S w) (y1 : -2000000 ≤ y) (y2 : y ≤ 2000000) :
    Calls Tryz.prog 98 #[.int .i64 y, ptr p1] w fun e w' => e = .returned (.int .i64 (Alm.pahead y - Alm.pahead 1)) ∧ ∃ q, w' = w.drewN q := by
  have en := hl.enters
  have hz := pahead_bd y y1 y2
  have hz' := pahead_bd 1 (by omega) (by omega)
  have hk := hide (fun (q : Nat) (z : Int) => hl.calls (w.drewN q) z ((Since.refl _ _).drewN q))
  clear hl
  go_enter Tryz.func98, Tryz.ntmps98
  go_wp2_with fail
  go_quiet ((go_at_fn g; exact Calls.quiet_of (hk.out _ _ (by omega) (by omega))))
  go_wp2
  go_ret
  exact ⟨rfl, _, rfl⟩
theorem pers_end (g0 : Nat) (l0 : Array Value) (g1 : Nat) (l1 : Array Value) (B B' b : Nat) (Wf : World) (hl : IsLeaps (fv g0 l0) (fv g1 l1) (fun y => decide ((0 + 682 * y) % 2816 < 682)) (fun y => (0 + 682 * (y - 1)) / 2816 - 0 / 2816) 2000000 (From B') Wf) (hB : B ≤ b) (hB' : B ≤ B')
    (c0 : Wf.cell? ⟨b, 0, none⟩ = some (fv g0 l0)) (c1 : Wf.cell? ⟨b, 1, none⟩ = some (fv g1 l1)) (c2 : Wf.cell? ⟨b + 1, 0, none⟩ = some (.int .i64 683)) (c3 : Wf.cell? ⟨b + 1 + 1, 0, none⟩ = some (fv 95 #[]))
    (c4 : Wf.cell? ⟨b + 1 + 1 + 1, 0, none⟩ = some (fv 96 #[ptr (b + 1), ptr b, ptr (b + 1 + 1)])) (sz : b + 3 < Wf.heap.size) :
    IsLeaps (fv 97 #[ptr b, ptr (b + 1 + 1)]) (fv 98 #[ptr (b + 1 + 1 + 1)]) (fun y => decide (Alm.pcyc y * 682 % 2816 < 682)) (fun y => Alm.pahead y - Alm.pahead 1) 2000000 (From B) Wf := by
  have hl' := hl.base hB'
  refine ⟨?_, ?_⟩
  · refine ⟨_, _, rfl, enters_of Tryz.func97 (by kernel_rfl) rfl, fun W' y hb h1 h2 => ?_⟩
    exact pers3_any g0 l0 y _ _ _ W' ((hb.cell (p := ⟨b, 0, none⟩) hB (by simp; omega)).trans c0) ((hb.cell (p := ⟨b + 1 + 1, 0, none⟩) (by simp; omega) (by simp; omega)).trans c3) (hl'.is.later hb) h1 h2
  · refine ⟨_, _, rfl, enters_of Tryz.func98 (by kernel_rfl) rfl, fun W' y hb h1 h2 => ?_⟩
    refine pers4_any 96 #[ptr (b + 1), ptr b, ptr (b + 1 + 1)] y (From B) _ W' ((hb.cell (p := ⟨b + 1 + 1 + 1, 0, none⟩) (by simp; omega) (by simp; omega)).trans c4) ?_ h1 h2
    refine ⟨_, _, rfl, enters_of Tryz.func96 (by kernel_rfl) rfl, fun W'' y hb'' h1 h2 => ?_⟩
    have hb2 := hb.trans hb''
    exact pers2_any g1 l1 y _ _ _ _ W'' ((hb2.cell (p := ⟨b + 1, 0, none⟩) (by simp; omega) (by simp; omega)).trans c2) ((hb2.cell (p := ⟨b, 1, none⟩) hB (by simp; omega)).trans c1) ((hb2.cell (p := ⟨b + 1 + 1, 0, none⟩) (by simp; omega) (by simp; omega)).trans c3) (hl'.ahead.later hb2) h1 h2
/-- one block more, which holds v -/
def Fin (X : World) (v : Value) (wc : World) : Prop := Below X.heap.size X wc ∧ wc.cell? ⟨X.heap.size, 0, none⟩ = some v ∧ wc.heap.size = X.heap.size + 1 ∧ wc.frozen? ⟨X.heap.size, 0, none⟩ = false
theorem finA (X : World) (a : Nat) (v : Value) : Fin X v ((X.drewN a).alloc (.cells #[v] 3)) :=
  ⟨(below_drewN (Below.refl _ X) a).alloc (Nat.le_refl _) _, World.cell?_alloc_at (w := X.drewN a) _ _ _ 0 rfl, World.size_alloc (X.drewN a) _, World.frozen?_alloc_at (w := X.drewN a) _ _ _ 0 rfl⟩
theorem fin_set (X Y : World) (u v : Value) (h : Fin X u Y) : Fin X v (Y.setCell ⟨X.heap.size, 0, none⟩ v) := by
  obtain ⟨h1, h2, h3, h4⟩ := h
  exact ⟨h1.setCell (Nat.le_refl _) _, by simp [go_sem, h2], by simp [World.setCell, h3], by simp [go_sem, h4]⟩
theorem fin_drewN (X Y : World) (q : Nat) (u : Value) (h : Fin X u Y) : Fin X u (Y.drewN q) :=
  ⟨below_drewN h.1 q, h.2.1, h.2.2.1, h.2.2.2⟩
theorem finB (X : World) (a q b : Nat) (u v : Value) (hb : b = X.heap.size) : Fin X v ((((X.drewN a).alloc (.cells #[u] 3)).drewN q).setCell ⟨b, 0, none⟩ v) := by
  subst hb; exact fin_set X _ u v (fin_drewN X _ q u (finA X a u))
theorem finD (X : World) (q b : Nat) (u v : Value) (hb : b = X.heap.size) : Fin X v (((X.alloc (.cells #[u] 3)).drewN q).setCell ⟨b, 0, none⟩ v) := by
  subst hb; exact fin_set X _ u v (fin_drewN X _ q u (finA X 0 u))
set_option maxHeartbeats 4000000 in
theorem persianLeaps_any (w : World) :
    Calls Tryz.prog 75 #[] w fun e w' => ∃ g0 l0 g1 l1, e = .returned (.agg #[fv g0 l0, fv g1 l1]) ∧ IsLeaps (fv g0 l0) (fv g1 l1) (fun y => decide (Alm.pcyc y * 682 % 2816 < 682)) (fun y => Alm.pahead y - Alm.pahead 1) 2000000 (From w.heap.size) w' ∧ Below w.heap.size w w' := by
  go_enter Tryz.func75, Tryz.ntmps75
  go_wp2_with fail
  refine (spread_any 0 682 2816 _ (by omega) (by omega) (by omega) (by omega) (by omega) (by omega)).mono ?_
  rintro e W ⟨g0, l0, g1, l1, rfl, hl, hb⟩
  obtain ⟨hc, hf⟩ := bcell hb
  have hz : w.heap.size < W.heap.size := by have := hb.size; simp at this; omega
  have en := hl.ahead.enters
  rw [show (w.alloc (.cells #[.nilFunc, .nilFunc] 126)).heap.size = w.heap.size + 1 from by simp] at hl
  have hk := hide (fun (X : World) (h : Since (From (w.heap.size + 1)) W X) (z : Int) => (hl.ahead.later h).calls X z (Since.refl _ _))
  have Hl := hide hl
  clear hl
  go_wp2_with fail
  go_cut [2] from 6 (fun s2 wc => s2 = ptr (W.heap.size + 1) ∧ Fin (W.alloc (.cells #[fv g0 l0, fv g1 l1] 126)) (.int .i64 683) wc)
  case first =>
    go_region_with (go_at_fn g1; refine (hk.out _ (by repeat (first | exact Since.refl _ _ | assumption | (refine Since.setCell ?_ (by simp <;> omega) _) | refine Since.alloc ?_ _ | refine Since.drewN ?_ _)) _ (by omega) (by omega)).mono ?_; rintro e w' ⟨rfl, q, rfl⟩)
    all_goals (go_wp2_with fail; go_meet)
    all_goals refine ⟨rfl, ?_⟩
    all_goals first | exact finA _ _ _ | exact finB _ _ _ _ _ _ (by simp) | exact finD _ _ _ _ _ (by simp)
  case rest =>
    obtain ⟨rfl, f1, f2, f3, f4⟩ := hcut
    obtain ⟨hc2, hf2⟩ := bcell f1
    clear hk
    have hz4 : w.heap.size < W.heap.size + 1 := by omega
    have q0 : wc.cell? ⟨w.heap.size, 0, none⟩ = some .nilFunc := by rw [hc2 _ _ (by simp; omega), World.cell?_alloc_past _ _ _ hz, hc _ _ (by simp)]; simp
    have q1 : wc.cell? ⟨w.heap.size, 1, none⟩ = some .nilFunc := by rw [hc2 _ _ (by simp; omega), World.cell?_alloc_past _ _ _ hz, hc _ _ (by simp)]; simp
    have f3' : wc.heap.size = W.heap.size + 1 + 1 := by rw [f3]; simp
    have hz2 : w.heap.size < W.heap.size + 1 + 1 := by omega
    have hz3 : w.heap.size < W.heap.size + 1 + 1 + 1 := by omega
    go_wp2
    clear hc hf hc2 hf2
    refine bodyPost_ret (v := .agg #[fv 97 #[ptr W.heap.size, ptr (W.heap.size + 1 + 1)], fv 98 #[ptr (W.heap.size + 1 + 1 + 1)]])
      (by simp [results, Tryz.results75, go_sem, q0, q1, f3', hz2, hz3]) rfl ⟨_, _, _, _, rfl, ?_, ?_⟩
    · have r0 : wc.cell? ⟨W.heap.size, 0, none⟩ = some (fv g0 l0) := by rw [f1.cell (p := ⟨W.heap.size, 0, none⟩) (by simp)]; simp
      have r1 : wc.cell? ⟨W.heap.size, 1, none⟩ = some (fv g1 l1) := by rw [f1.cell (p := ⟨W.heap.size, 1, none⟩) (by simp)]; simp
      have f2' : wc.cell? ⟨W.heap.size + 1, 0, none⟩ = some (.int .i64 683) := by rw [← f2]; simp
      have hs0 : Since (From (w.heap.size + 1)) W wc := ((Since.refl _ W).alloc _).trans (Since.of_below f1)
      exact pers_end g0 l0 g1 l1 w.heap.size (w.heap.size + 1) W.heap.size _ (Hl.out.later (hs0.trans (by repeat (first | exact Since.refl _ _ | assumption | (refine Since.setCell ?_ (by simp <;> omega) _) | refine Since.alloc ?_ _ | refine Since.drewN ?_ _)))) (by omega) (by omega)
        (by simp [go_sem, f3', r0]) (by simp [go_sem, f3', r1]) (by simp [go_sem, f3', f2']) (by simp [go_sem, f3']) (by simp [go_sem, f3']) (by simp [f3', World.setCell])
    · have hb0 : Below w.heap.size w wc := (((Below.refl _ w).alloc (Nat.le_refl _) _).trans (hb.mono (by simp))).alloc (by omega) _ |>.trans (f1.mono (by simp; omega))
      exact (((hb0.setCell (Nat.le_refl _) _).setCell (Nat.le_refl _) _).alloc (by simp [World.setCell, f3']; omega) _).alloc (by simp [World.setCell, f3']; omega) _
end Go.Proofs.YtgbbplkpepaidaaGreatDoor
namespace Go.Proofs.YtgbbplkpepaidaaGreatDoor
open Go.RowKit Go.Shelf

set_option maxHeartbeats 2000000 in
theorem first_any (c : Int) (w : World) (h1 : 1 ≤ c) (h2 : c ≤ 10) : Calls Tryz.prog 64 #[.int .i64 c] w fun e w' => e = .returned (.int .i64 (Alm.first c)) ∧ Below w.heap.size w w' := by
  have hc : c = 1 ∨ c = 2 ∨ c = 3 ∨ c = 4 ∨ c = 5 ∨ c = 6 ∨ c = 7 ∨ c = 8 ∨ c = 9 ∨ c = 10 := by omega
  rcases hc with rfl | rfl | rfl | rfl | rfl | rfl | rfl | rfl | rfl | rfl
  all_goals
    go_enter Tryz.func64, Tryz.ntmps64
    go_wp2
    go_ret
    exact ⟨ret_int (by simp [Alm.first]), (Below.refl _ w).alloc (Nat.le_refl _) _⟩
set_option maxHeartbeats 2000000 in
theorem rround_any (c : Int) (w : World) (h1 : 1 ≤ c) (h2 : c ≤ 10) : Calls Tryz.prog 87 #[.int .i64 c] w fun e w' => e = .returned (.tuple #[.int .i64 (Alm.rYears c), .int .i64 (Alm.rDays c)]) ∧ w' = w := by
  have hc : c = 1 ∨ c = 2 ∨ c = 3 ∨ c = 4 ∨ c = 5 ∨ c = 6 ∨ c = 7 ∨ c = 8 ∨ c = 9 ∨ c = 10 := by omega
  rcases hc with rfl | rfl | rfl | rfl | rfl | rfl | rfl | rfl | rfl | rfl
  all_goals
    go_enter Tryz.func87, Tryz.ntmps87
    go_wp2
    go_ret2
    exact ⟨rfl, rfl⟩
end Go.Proofs.YtgbbplkpepaidaaGreatDoor
