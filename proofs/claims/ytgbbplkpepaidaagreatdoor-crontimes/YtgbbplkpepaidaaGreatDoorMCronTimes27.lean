/- calendarOf: what it hands back, calendar by calendar. -/
import Derived.Test.YtgbbplkpepaidaaGreatDoorMCronTimes26
namespace Go.Proofs.YtgbbplkpepaidaaGreatDoor
open Go.RowKit Go.Shelf

/-- the four cells of a calendar's slot, behind calls -/
theorem slot4 (w W : World) (hb : Below (w.alloc (.cells #[.nilFunc, .nilFunc, .nilFunc, .nilFunc] 94)).heap.size (w.alloc (.cells #[.nilFunc, .nilFunc, .nilFunc, .nilFunc] 94)) W) : (W.cell? ⟨w.heap.size, 0, none⟩ = some .nilFunc ∧ W.frozen? ⟨w.heap.size, 0, none⟩ = false) ∧ (W.cell? ⟨w.heap.size, 1, none⟩ = some .nilFunc ∧ W.frozen? ⟨w.heap.size, 1, none⟩ = false) ∧
    (W.cell? ⟨w.heap.size, 2, none⟩ = some .nilFunc ∧ W.frozen? ⟨w.heap.size, 2, none⟩ = false) ∧ (W.cell? ⟨w.heap.size, 3, none⟩ = some .nilFunc ∧ W.frozen? ⟨w.heap.size, 3, none⟩ = false) := by
  refine ⟨⟨?_, ?_⟩, ⟨?_, ?_⟩, ⟨?_, ?_⟩, ⟨?_, ?_⟩⟩
  · rw [hb.cell (p := ⟨w.heap.size, 0, none⟩) (by simp)]; simp
  · rw [hb.frozen (p := ⟨w.heap.size, 0, none⟩) (by simp)]; simp
  · rw [hb.cell (p := ⟨w.heap.size, 1, none⟩) (by simp)]; simp
  · rw [hb.frozen (p := ⟨w.heap.size, 1, none⟩) (by simp)]; simp
  · rw [hb.cell (p := ⟨w.heap.size, 2, none⟩) (by simp)]; simp
  · rw [hb.frozen (p := ⟨w.heap.size, 2, none⟩) (by simp)]; simp
  · rw [hb.cell (p := ⟨w.heap.size, 3, none⟩) (by simp)]; simp
  · rw [hb.frozen (p := ⟨w.heap.size, 3, none⟩) (by simp)]; simp
/-- a calendar stored into its slot -/
theorem storedAt (c : Int) (w W : World) (g0 : Nat) (l0 : Array Value) (g1 : Nat) (l1 : Array Value) (g2 : Nat) (l2 : Array Value) (g3 : Nat) (l3 : Array Value) (hb : Below (w.alloc (.cells #[.nilFunc, .nilFunc, .nilFunc, .nilFunc] 94)).heap.size (w.alloc (.cells #[.nilFunc, .nilFunc, .nilFunc, .nilFunc] 94)) W) (hc : IsCal (fv g0 l0) (fv g1 l1) (fv g2 l2) (fv g3 l3) c (From (w.heap.size + 1)) W) :
    IsCal (fv g0 l0) (fv g1 l1) (fv g2 l2) (fv g3 l3) c (From w.heap.size) ((((W.setCell ⟨w.heap.size, 0, none⟩ (fv g0 l0)).setCell ⟨w.heap.size, 1, none⟩ (fv g1 l1)).setCell ⟨w.heap.size, 2, none⟩ (fv g2 l2)).setCell ⟨w.heap.size, 3, none⟩ (fv g3 l3)) ∧
    Below w.heap.size w ((((W.setCell ⟨w.heap.size, 0, none⟩ (fv g0 l0)).setCell ⟨w.heap.size, 1, none⟩ (fv g1 l1)).setCell ⟨w.heap.size, 2, none⟩ (fv g2 l2)).setCell ⟨w.heap.size, 3, none⟩ (fv g3 l3)) := by
  constructor
  · exact (hc.later (((((Since.refl _ W).setCell (by simp) _).setCell (by simp) _).setCell (by simp) _).setCell (by simp) _)).base (fun k h _ => Nat.le_of_succ_le h)
  · have hb0 : Below w.heap.size w W := ((Below.refl _ w).alloc (Nat.le_refl _) _).trans (hb.mono (by simp))
    exact (((hb0.setCell (by simp) _).setCell (by simp) _).setCell (by simp) _).setCell (by simp) _
theorem persbd (y : Int) (h1 : -40000 ≤ y) (h2 : y ≤ 40000) : -100000000 ≤ Alm.pahead y - Alm.pahead 1 ∧ Alm.pahead y - Alm.pahead 1 ≤ 100000000 := by
  have e : Alm.pahead 1 = 9 := by decide +kernel
  have c := pcyc_bd y
  rw [e]; unfold Alm.pahead; omega
theorem sakabd (y : Int) (h1 : -40000 ≤ y) (h2 : y ≤ 40000) : -100000000 ≤ Alm.gahead (y + 78) - Alm.gahead (1 + 78) ∧ Alm.gahead (y + 78) - Alm.gahead (1 + 78) ≤ 100000000 := by
  unfold Alm.gahead; omega
theorem abd4 (r : Int) (y : Int) (y1 : -40000 ≤ y) (y2 : y ≤ 40000) : -100000000 ≤ (-r + 1 * (y - 1)) / 4 - -r / 4 ∧ (-r + 1 * (y - 1)) / 4 - -r / 4 ≤ 100000000 := by omega

set_option maxHeartbeats 1000000 in
theorem gregorian_any (w : World) :
    Calls Tryz.prog 69 #[] w fun e w' => ∃ g0 l0 g1 l1 g2 l2 g3 l3, e = .returned (.agg #[fv g0 l0, fv g1 l1, fv g2 l2, fv g3 l3]) ∧ IsCal (fv g0 l0) (fv g1 l1) (fv g2 l2) (fv g3 l3) 1 (From w.heap.size) w' ∧ Below w.heap.size w w' := by
  go_enter Tryz.func69, Tryz.ntmps69
  go_wp2_with fail
  refine (gregorianLeaps_any _).mono ?_
  rintro e W1 ⟨g0, l0, g1, l1, rfl, hl, hb1⟩
  go_wp2_with fail
  refine (roman_any (-719162) g0 l0 g1 l1 W1 _ _ _ _ hl hb1.size (by omega) (fun y h1 h2 => gahead_bd y (by omega) (by omega)) (by omega) (by omega)).mono ?_
  rintro e W ⟨g0, l0, g1, l1, g2, l2, g3, l3, rfl, hc, hb2⟩
  have hb := hb1.trans (hb2.mono hb1.size)
  have hc' : IsCal (fv g0 l0) (fv g1 l1) (fv g2 l2) (fv g3 l3) 1 (From (w.heap.size + 1)) W := by
    refine ((hc.base (S' := From (w.heap.size + 1)) (fun k h _ => by simpa using h)).as (fun y => ?_) (fun y => ?_) (fun y m h => ?_) (fun y m h => ?_) (fun y => ?_))
    · simp [Alm.leap]
    · exact months_roman 1 y (by omega)
    · rw [← months_roman 1 y (by omega)] at h; exact h
    · rw [← months_roman 1 y (by omega)] at h; rw [← mlen_roman 1 y m (by omega) h.2.2.1 h.2.2.2]; simp [Alm.leap]
    · simp [Alm.start]
  obtain ⟨⟨c0, z0⟩, ⟨c1, z1⟩, ⟨c2, z2⟩, ⟨c3, z3⟩⟩ := slot4 w W hb
  have hst := storedAt 1 w W g0 l0 g1 l1 g2 l2 g3 l3 hb hc'
  clear hc hc' hl
  go_wp2
  exact bodyPost_ret (v := .agg #[fv g0 l0, fv g1 l1, fv g2 l2, fv g3 l3]) (by simp [results, Tryz.results69, go_sem, c0, c1, c2, c3]) rfl ⟨_, _, _, _, _, _, _, _, rfl, hst.1, hst.2⟩
set_option maxHeartbeats 1000000 in
theorem calOf_1 (w : World) :
    Calls Tryz.prog 48 #[.int .i64 1] w fun e w' => ∃ g0 l0 g1 l1 g2 l2 g3 l3, e = .returned (.tuple #[.agg #[fv g0 l0, fv g1 l1, fv g2 l2, fv g3 l3], .nilIface]) ∧ IsCal (fv g0 l0) (fv g1 l1) (fv g2 l2) (fv g3 l3) 1 (From w.heap.size) w' ∧ Below w.heap.size w w' := by
  go_enter Tryz.func48, Tryz.ntmps48
  go_wp2_with fail
  refine (gregorian_any _).mono ?_
  rintro e W ⟨g0, l0, g1, l1, g2, l2, g3, l3, rfl, hc, hb⟩
  have hc' : IsCal (fv g0 l0) (fv g1 l1) (fv g2 l2) (fv g3 l3) 1 (From (w.heap.size + 1)) W := hc.base (S' := From (w.heap.size + 1)) (fun k h _ => by simpa using h)
  obtain ⟨⟨c0, z0⟩, ⟨c1, z1⟩, ⟨c2, z2⟩, ⟨c3, z3⟩⟩ := slot4 w W hb
  have hst := storedAt 1 w W g0 l0 g1 l1 g2 l2 g3 l3 hb hc'
  clear hc hc'
  go_wp2
  exact bodyPost_ret (v := .tuple #[.agg #[fv g0 l0, fv g1 l1, fv g2 l2, fv g3 l3], .nilIface]) (by simp [results, Tryz.results48, go_sem, c0, c1, c2, c3]) rfl ⟨_, _, _, _, _, _, _, _, rfl, hst.1, hst.2⟩
set_option maxHeartbeats 1000000 in
theorem calOf_2 (w : World) :
    Calls Tryz.prog 48 #[.int .i64 2] w fun e w' => ∃ g0 l0 g1 l1 g2 l2 g3 l3, e = .returned (.tuple #[.agg #[fv g0 l0, fv g1 l1, fv g2 l2, fv g3 l3], .nilIface]) ∧ IsCal (fv g0 l0) (fv g1 l1) (fv g2 l2) (fv g3 l3) 2 (From w.heap.size) w' ∧ Below w.heap.size w w' := by
  go_enter Tryz.func48, Tryz.ntmps48
  go_wp2_with fail
  refine (everyFourth_any 0 _ (by omega) (by omega)).mono ?_
  rintro e W1 ⟨g0, l0, g1, l1, rfl, hl1, hb1⟩
  go_wp2_with fail
  refine (roman_any (-719164) g0 l0 g1 l1 W1 _ _ _ _ hl1 hb1.size (by omega) (fun y h1 h2 => abd4 0 y h1 h2) (by omega) (by omega)).mono ?_
  rintro e W ⟨g0, l0, g1, l1, g2, l2, g3, l3, rfl, hc, hbz⟩
  have hb := hb1.trans (hbz.mono hb1.size)
  have hc' : IsCal (fv g0 l0) (fv g1 l1) (fv g2 l2) (fv g3 l3) 2 (From (w.heap.size + 1)) W := by
    have hlp : ∀ y, decide ((-0 + 1 * y) % 4 < 1) = Alm.leap 2 y := fun y => by simp [Alm.leap]; omega
    refine ((hc.base (S' := From (w.heap.size + 1)) (fun k h _ => by simpa using h)).as (fun y => ?_) (fun y => ?_) (fun y m h => ?_) (fun y m h => ?_) (fun y => ?_))
    · exact hlp y
    · exact months_roman 2 y (by omega)
    · rw [← months_roman 2 y (by omega)] at h; exact h
    · rw [← months_roman 2 y (by omega)] at h; rw [← mlen_roman 2 y m (by omega) h.2.2.1 h.2.2.2, ← hlp y]
    · simp [Alm.start]
  obtain ⟨⟨c0, z0⟩, ⟨c1, z1⟩, ⟨c2, z2⟩, ⟨c3, z3⟩⟩ := slot4 w W hb
  have hst := storedAt 2 w W g0 l0 g1 l1 g2 l2 g3 l3 hb hc'
  clear hc hc'
  go_wp2
  exact bodyPost_ret (v := .tuple #[.agg #[fv g0 l0, fv g1 l1, fv g2 l2, fv g3 l3], .nilIface]) (by simp [results, Tryz.results48, go_sem, c0, c1, c2, c3]) rfl ⟨_, _, _, _, _, _, _, _, rfl, hst.1, hst.2⟩
set_option maxHeartbeats 1000000 in
theorem calOf_3 (w : World) :
    Calls Tryz.prog 48 #[.int .i64 3] w fun e w' => ∃ g0 l0 g1 l1 g2 l2 g3 l3, e = .returned (.tuple #[.agg #[fv g0 l0, fv g1 l1, fv g2 l2, fv g3 l3], .nilIface]) ∧ IsCal (fv g0 l0) (fv g1 l1) (fv g2 l2) (fv g3 l3) 3 (From w.heap.size) w' ∧ Below w.heap.size w w' := by
  go_enter Tryz.func48, Tryz.ntmps48
  go_wp2_with fail
  refine (everyFourth_any 3 _ (by omega) (by omega)).mono ?_
  rintro e W1 ⟨g0, l0, g1, l1, rfl, hl1, hb1⟩
  go_wp2_with fail
  refine (thirteen_any (-615558) g0 l0 g1 l1 W1 _ _ _ _ hl1 hb1.size (by omega) (fun y h1 h2 => abd4 3 y h1 h2) (by omega) (by omega)).mono ?_
  rintro e W ⟨g0, l0, g1, l1, g2, l2, g3, l3, rfl, hc, hbz⟩
  have hb := hb1.trans (hbz.mono hb1.size)
  have hc' : IsCal (fv g0 l0) (fv g1 l1) (fv g2 l2) (fv g3 l3) 3 (From (w.heap.size + 1)) W := by
    have hlp : ∀ y, decide ((-3 + 1 * y) % 4 < 1) = Alm.leap 3 y := fun y => by simp [Alm.leap]; omega
    refine ((hc.base (S' := From (w.heap.size + 1)) (fun k h _ => by simpa using h)).as (fun y => ?_) (fun y => ?_) (fun y m h => ?_) (fun y m h => ?_) (fun y => ?_))
    · exact hlp y
    · exact months_thirteen 3 y (by omega)
    · rw [← months_thirteen 3 y (by omega)] at h; exact h
    · rw [← months_thirteen 3 y (by omega)] at h; rw [← mlen_thirteen 3 y m (by omega) h.2.2.1 h.2.2.2, ← hlp y]
    · simp [Alm.start]; omega
  obtain ⟨⟨c0, z0⟩, ⟨c1, z1⟩, ⟨c2, z2⟩, ⟨c3, z3⟩⟩ := slot4 w W hb
  have hst := storedAt 3 w W g0 l0 g1 l1 g2 l2 g3 l3 hb hc'
  clear hc hc'
  go_wp2
  exact bodyPost_ret (v := .tuple #[.agg #[fv g0 l0, fv g1 l1, fv g2 l2, fv g3 l3], .nilIface]) (by simp [results, Tryz.results48, go_sem, c0, c1, c2, c3]) rfl ⟨_, _, _, _, _, _, _, _, rfl, hst.1, hst.2⟩
set_option maxHeartbeats 1000000 in
theorem calOf_4 (w : World) :
    Calls Tryz.prog 48 #[.int .i64 4] w fun e w' => ∃ g0 l0 g1 l1 g2 l2 g3 l3, e = .returned (.tuple #[.agg #[fv g0 l0, fv g1 l1, fv g2 l2, fv g3 l3], .nilIface]) ∧ IsCal (fv g0 l0) (fv g1 l1) (fv g2 l2) (fv g3 l3) 4 (From w.heap.size) w' ∧ Below w.heap.size w w' := by
  go_enter Tryz.func48, Tryz.ntmps48
  go_wp2_with fail
  refine (everyFourth_any 3 _ (by omega) (by omega)).mono ?_
  rintro e W1 ⟨g0, l0, g1, l1, rfl, hl1, hb1⟩
  go_wp2_with fail
  refine (thirteen_any (-716367) g0 l0 g1 l1 W1 _ _ _ _ hl1 hb1.size (by omega) (fun y h1 h2 => abd4 3 y h1 h2) (by omega) (by omega)).mono ?_
  rintro e W ⟨g0, l0, g1, l1, g2, l2, g3, l3, rfl, hc, hbz⟩
  have hb := hb1.trans (hbz.mono hb1.size)
  have hc' : IsCal (fv g0 l0) (fv g1 l1) (fv g2 l2) (fv g3 l3) 4 (From (w.heap.size + 1)) W := by
    have hlp : ∀ y, decide ((-3 + 1 * y) % 4 < 1) = Alm.leap 4 y := fun y => by simp [Alm.leap]; omega
    refine ((hc.base (S' := From (w.heap.size + 1)) (fun k h _ => by simpa using h)).as (fun y => ?_) (fun y => ?_) (fun y m h => ?_) (fun y m h => ?_) (fun y => ?_))
    · exact hlp y
    · exact months_thirteen 4 y (by omega)
    · rw [← months_thirteen 4 y (by omega)] at h; exact h
    · rw [← months_thirteen 4 y (by omega)] at h; rw [← mlen_thirteen 4 y m (by omega) h.2.2.1 h.2.2.2, ← hlp y]
    · simp [Alm.start]; omega
  obtain ⟨⟨c0, z0⟩, ⟨c1, z1⟩, ⟨c2, z2⟩, ⟨c3, z3⟩⟩ := slot4 w W hb
  have hst := storedAt 4 w W g0 l0 g1 l1 g2 l2 g3 l3 hb hc'
  clear hc hc'
  go_wp2
  exact bodyPost_ret (v := .tuple #[.agg #[fv g0 l0, fv g1 l1, fv g2 l2, fv g3 l3], .nilIface]) (by simp [results, Tryz.results48, go_sem, c0, c1, c2, c3]) rfl ⟨_, _, _, _, _, _, _, _, rfl, hst.1, hst.2⟩
set_option maxHeartbeats 1000000 in
theorem calOf_5 (w : World) :
    Calls Tryz.prog 48 #[.int .i64 5] w fun e w' => ∃ g0 l0 g1 l1 g2 l2 g3 l3, e = .returned (.tuple #[.agg #[fv g0 l0, fv g1 l1, fv g2 l2, fv g3 l3], .nilIface]) ∧ IsCal (fv g0 l0) (fv g1 l1) (fv g2 l2) (fv g3 l3) 5 (From w.heap.size) w' ∧ Below w.heap.size w w' := by
  go_enter Tryz.func48, Tryz.ntmps48
  go_wp2_with fail
  refine (spread_any 14 11 30 _ (by omega) (by omega) (by omega) (by omega) (by omega) (by omega)).mono ?_
  rintro e W1 ⟨g0, l0, g1, l1, rfl, hl1, hb1⟩
  go_wp2_with fail
  have hst := fun (W : World) (a : Row islamL W1.heap.size W) (b : IsLeaps (fv g0 l0) (fv g1 l1) (fun y => decide ((14 + 11 * y) % 30 < 11)) (fun y => (14 + 11 * (y - 1)) / 30 - 14 / 30) 2000000 (From (w.alloc (.cells #[.nilFunc, .nilFunc, .nilFunc, .nilFunc] 94)).heap.size) W) (c : ∀ k, W.heap.size ≤ k → (w.alloc (.cells #[.nilFunc, .nilFunc, .nilFunc, .nilFunc] 94)).heap.size ≤ k) =>
    steady_any (-492148) 12 g0 l0 g1 l1 islamL W1.heap.size W a (by decide) (by decide) (by decide) (fun y => decide ((14 + 11 * y) % 30 < 11)) (fun y => (14 + 11 * (y - 1)) / 30 - 14 / 30) 2000000 _ b hb1.size c (by omega) (fun y h1 h2 => by omega) (by omega) (by omega)
  rw [show islamL.length = 12 from rfl] at hst
  refine (hst _ (row_new W1 islamL 3) (hl1.later ((Since.refl _ _).alloc _)) (fun k hk => by have := hb1.size; simp at this hk ⊢; omega)).mono ?_
  rintro e W ⟨g0, l0, g1, l1, g2, l2, g3, l3, rfl, hc, hbz⟩
  have hb := (hb1.alloc hb1.size _).trans (hbz.mono (by have := hb1.size; simp at this ⊢; omega))
  clear hst
  have hc' : IsCal (fv g0 l0) (fv g1 l1) (fv g2 l2) (fv g3 l3) 5 (From (w.heap.size + 1)) W := by
    have hlp : ∀ y, decide ((14 + 11 * y) % 30 < 11) = Alm.leap 5 y := fun y => by simp [Alm.leap]
    refine ((hc.base (S' := From (w.heap.size + 1)) (fun k h _ => by simpa using h)).as (fun y => ?_) (fun y => ?_) (fun y m h => ?_) (fun y m h => ?_) (fun y => ?_))
    · exact hlp y
    · exact months_islam 5 y (by omega)
    · rw [← months_islam 5 y (by omega)] at h; exact h
    · rw [← months_islam 5 y (by omega)] at h; rw [← mlen_islam 5 y m (by omega) h.2.2.1 h.2.2.2, ← hlp y]
    · simp [Alm.start, islamL]
  obtain ⟨⟨c0, z0⟩, ⟨c1, z1⟩, ⟨c2, z2⟩, ⟨c3, z3⟩⟩ := slot4 w W hb
  have hst := storedAt 5 w W g0 l0 g1 l1 g2 l2 g3 l3 hb hc'
  clear hc hc'
  go_wp2
  exact bodyPost_ret (v := .tuple #[.agg #[fv g0 l0, fv g1 l1, fv g2 l2, fv g3 l3], .nilIface]) (by simp [results, Tryz.results48, go_sem, c0, c1, c2, c3]) rfl ⟨_, _, _, _, _, _, _, _, rfl, hst.1, hst.2⟩
set_option maxHeartbeats 1000000 in
theorem calOf_6 (w : World) :
    Calls Tryz.prog 48 #[.int .i64 6] w fun e w' => ∃ g0 l0 g1 l1 g2 l2 g3 l3, e = .returned (.tuple #[.agg #[fv g0 l0, fv g1 l1, fv g2 l2, fv g3 l3], .nilIface]) ∧ IsCal (fv g0 l0) (fv g1 l1) (fv g2 l2) (fv g3 l3) 6 (From w.heap.size) w' ∧ Below w.heap.size w w' := by
  go_enter Tryz.func48, Tryz.ntmps48
  go_wp2_with fail
  refine (persianLeaps_any _).mono ?_
  rintro e W1 ⟨g0, l0, g1, l1, rfl, hl1, hb1⟩
  go_wp2_with fail
  have hst := fun (W : World) (a : Row persL W1.heap.size W) (b : IsLeaps (fv g0 l0) (fv g1 l1) (fun y => decide (Alm.pcyc y * 682 % 2816 < 682)) (fun y => Alm.pahead y - Alm.pahead 1) 2000000 (From (w.alloc (.cells #[.nilFunc, .nilFunc, .nilFunc, .nilFunc] 94)).heap.size) W) (c : ∀ k, W.heap.size ≤ k → (w.alloc (.cells #[.nilFunc, .nilFunc, .nilFunc, .nilFunc] 94)).heap.size ≤ k) =>
    steady_any (-492267) 12 g0 l0 g1 l1 persL W1.heap.size W a (by decide) (by decide) (by decide) (fun y => decide (Alm.pcyc y * 682 % 2816 < 682)) (fun y => Alm.pahead y - Alm.pahead 1) 2000000 _ b hb1.size c (by omega) (fun y h1 h2 => persbd y h1 h2) (by omega) (by omega)
  rw [show persL.length = 12 from rfl] at hst
  refine (hst _ (row_new W1 persL 3) (hl1.later ((Since.refl _ _).alloc _)) (fun k hk => by have := hb1.size; simp at this hk ⊢; omega)).mono ?_
  rintro e W ⟨g0, l0, g1, l1, g2, l2, g3, l3, rfl, hc, hbz⟩
  have hb := (hb1.alloc hb1.size _).trans (hbz.mono (by have := hb1.size; simp at this ⊢; omega))
  clear hst
  have hc' : IsCal (fv g0 l0) (fv g1 l1) (fv g2 l2) (fv g3 l3) 6 (From (w.heap.size + 1)) W := by
    have hlp : ∀ y, decide (Alm.pcyc y * 682 % 2816 < 682) = Alm.leap 6 y := fun y => rfl
    refine ((hc.base (S' := From (w.heap.size + 1)) (fun k h _ => by simpa using h)).as (fun y => ?_) (fun y => ?_) (fun y m h => ?_) (fun y m h => ?_) (fun y => ?_))
    · exact hlp y
    · exact months_pers 6 y (by omega)
    · rw [← months_pers 6 y (by omega)] at h; exact h
    · rw [← months_pers 6 y (by omega)] at h; rw [← mlen_pers 6 y m (by omega) h.2.2.1 h.2.2.2, ← hlp y]
    · simp [Alm.start, persL]
  obtain ⟨⟨c0, z0⟩, ⟨c1, z1⟩, ⟨c2, z2⟩, ⟨c3, z3⟩⟩ := slot4 w W hb
  have hst := storedAt 6 w W g0 l0 g1 l1 g2 l2 g3 l3 hb hc'
  clear hc hc'
  go_wp2
  exact bodyPost_ret (v := .tuple #[.agg #[fv g0 l0, fv g1 l1, fv g2 l2, fv g3 l3], .nilIface]) (by simp [results, Tryz.results48, go_sem, c0, c1, c2, c3]) rfl ⟨_, _, _, _, _, _, _, _, rfl, hst.1, hst.2⟩
set_option maxHeartbeats 1000000 in
theorem calOf_7 (w : World) :
    Calls Tryz.prog 48 #[.int .i64 7] w fun e w' => ∃ g0 l0 g1 l1 g2 l2 g3 l3, e = .returned (.tuple #[.agg #[fv g0 l0, fv g1 l1, fv g2 l2, fv g3 l3], .nilIface]) ∧ IsCal (fv g0 l0) (fv g1 l1) (fv g2 l2) (fv g3 l3) 7 (From w.heap.size) w' ∧ Below w.heap.size w w' := by
  go_enter Tryz.func48, Tryz.ntmps48
  go_wp2_with fail
  refine (hebrew_any _).mono ?_
  rintro e W ⟨g0, l0, g1, l1, g2, l2, g3, l3, rfl, hc, hb⟩
  have hc' : IsCal (fv g0 l0) (fv g1 l1) (fv g2 l2) (fv g3 l3) 7 (From (w.heap.size + 1)) W := hc.base (S' := From (w.heap.size + 1)) (fun k h _ => by simpa using h)
  obtain ⟨⟨c0, z0⟩, ⟨c1, z1⟩, ⟨c2, z2⟩, ⟨c3, z3⟩⟩ := slot4 w W hb
  have hst := storedAt 7 w W g0 l0 g1 l1 g2 l2 g3 l3 hb hc'
  clear hc hc'
  go_wp2
  exact bodyPost_ret (v := .tuple #[.agg #[fv g0 l0, fv g1 l1, fv g2 l2, fv g3 l3], .nilIface]) (by simp [results, Tryz.results48, go_sem, c0, c1, c2, c3]) rfl ⟨_, _, _, _, _, _, _, _, rfl, hst.1, hst.2⟩
set_option maxHeartbeats 1000000 in
theorem calOf_8 (w : World) :
    Calls Tryz.prog 48 #[.int .i64 8] w fun e w' => ∃ g0 l0 g1 l1 g2 l2 g3 l3, e = .returned (.tuple #[.agg #[fv g0 l0, fv g1 l1, fv g2 l2, fv g3 l3], .nilIface]) ∧ IsCal (fv g0 l0) (fv g1 l1) (fv g2 l2) (fv g3 l3) 8 (From w.heap.size) w' ∧ Below w.heap.size w w' := by
  go_enter Tryz.func48, Tryz.ntmps48
  go_wp2_with fail
  refine (gregorianLeaps_any _).mono ?_
  rintro e W1 ⟨g0, l0, g1, l1, rfl, hl1, hb1⟩
  go_wp2_with fail
  refine (later_any g0 l0 g1 l1 Alm.gleap Alm.gahead 78 2000000 _ W1 hl1 (fun k hk => Nat.le_trans hb1.size hk) (by omega) (by omega) (by omega) (by omega) (fun y h1 h2 => gahead_bd y h1 h2)).mono ?_
  rintro e W2 ⟨g0, l0, g1, l1, rfl, hl2, hb2⟩
  replace hb2 := hb1.trans (hb2.mono hb1.size)
  go_wp2_with fail
  have hst := fun (W : World) (a : Row sakaL W2.heap.size W) (b : IsLeaps (fv g0 l0) (fv g1 l1) (fun y => Alm.gleap (y + 78)) (fun y => Alm.gahead (y + 78) - Alm.gahead (1 + 78)) (2000000 - 1001) (From (w.alloc (.cells #[.nilFunc, .nilFunc, .nilFunc, .nilFunc] 94)).heap.size) W) (c : ∀ k, W.heap.size ≤ k → (w.alloc (.cells #[.nilFunc, .nilFunc, .nilFunc, .nilFunc] 94)).heap.size ≤ k) =>
    steady_any (-690593) 1 g0 l0 g1 l1 sakaL W2.heap.size W a (by decide) (by decide) (by decide) (fun y => Alm.gleap (y + 78)) (fun y => Alm.gahead (y + 78) - Alm.gahead (1 + 78)) (2000000 - 1001) _ b hb2.size c (by omega) (fun y h1 h2 => sakabd y h1 h2) (by omega) (by omega)
  rw [show sakaL.length = 12 from rfl] at hst
  refine (hst _ (row_new W2 sakaL 3) (hl2.later ((Since.refl _ _).alloc _)) (fun k hk => by have := hb2.size; simp at this hk ⊢; omega)).mono ?_
  rintro e W ⟨g0, l0, g1, l1, g2, l2, g3, l3, rfl, hc, hbz⟩
  have hb := (hb2.alloc hb2.size _).trans (hbz.mono (by have := hb2.size; simp at this ⊢; omega))
  clear hst
  have hc' : IsCal (fv g0 l0) (fv g1 l1) (fv g2 l2) (fv g3 l3) 8 (From (w.heap.size + 1)) W := by
    have hlp : ∀ y, Alm.gleap (y + 78) = Alm.leap 8 y := fun y => by simp [Alm.leap]
    refine ((hc.base (S' := From (w.heap.size + 1)) (fun k h _ => by simpa using h)).as (fun y => ?_) (fun y => ?_) (fun y m h => ?_) (fun y m h => ?_) (fun y => ?_))
    · exact hlp y
    · exact months_saka 8 y (by omega)
    · rw [← months_saka 8 y (by omega)] at h; exact h
    · rw [← months_saka 8 y (by omega)] at h; rw [← mlen_saka 8 y m (by omega) h.2.2.1 h.2.2.2, ← hlp y]
    · simp [Alm.start, sakaL]
  obtain ⟨⟨c0, z0⟩, ⟨c1, z1⟩, ⟨c2, z2⟩, ⟨c3, z3⟩⟩ := slot4 w W hb
  have hst := storedAt 8 w W g0 l0 g1 l1 g2 l2 g3 l3 hb hc'
  clear hc hc'
  go_wp2
  exact bodyPost_ret (v := .tuple #[.agg #[fv g0 l0, fv g1 l1, fv g2 l2, fv g3 l3], .nilIface]) (by simp [results, Tryz.results48, go_sem, c0, c1, c2, c3]) rfl ⟨_, _, _, _, _, _, _, _, rfl, hst.1, hst.2⟩
set_option maxHeartbeats 1000000 in
theorem calOf_9 (w : World) :
    Calls Tryz.prog 48 #[.int .i64 9] w fun e w' => ∃ g0 l0 g1 l1 g2 l2 g3 l3, e = .returned (.tuple #[.agg #[fv g0 l0, fv g1 l1, fv g2 l2, fv g3 l3], .nilIface]) ∧ IsCal (fv g0 l0) (fv g1 l1) (fv g2 l2) (fv g3 l3) 9 (From w.heap.size) w' ∧ Below w.heap.size w w' := by
  go_enter Tryz.func48, Tryz.ntmps48
  go_wp2_with fail
  refine (frenchLeaps_any _).mono ?_
  rintro e W1 ⟨g0, l0, g1, l1, rfl, hl1, hb1⟩
  go_wp2_with fail
  refine (thirteen_any (-64748) g0 l0 g1 l1 W1 _ _ _ _ hl1 hb1.size (by omega) (fun y h1 h2 => by have a := gahead_bd y (by omega) (by omega); unfold Alm.gahead; omega) (by omega) (by omega)).mono ?_
  rintro e W ⟨g0, l0, g1, l1, g2, l2, g3, l3, rfl, hc, hbz⟩
  have hb := hb1.trans (hbz.mono hb1.size)
  have hc' : IsCal (fv g0 l0) (fv g1 l1) (fv g2 l2) (fv g3 l3) 9 (From (w.heap.size + 1)) W := by
    have hlp : ∀ y, (Alm.gleap y && decide (y % 4000 ≠ 0)) = Alm.leap 9 y := fun y => by simp [Alm.leap]
    refine ((hc.base (S' := From (w.heap.size + 1)) (fun k h _ => by simpa using h)).as (fun y => ?_) (fun y => ?_) (fun y m h => ?_) (fun y m h => ?_) (fun y => ?_))
    · exact hlp y
    · exact months_thirteen 9 y (by omega)
    · rw [← months_thirteen 9 y (by omega)] at h; exact h
    · rw [← months_thirteen 9 y (by omega)] at h; rw [← mlen_thirteen 9 y m (by omega) h.2.2.1 h.2.2.2, ← hlp y]
    · simp [Alm.start]
  obtain ⟨⟨c0, z0⟩, ⟨c1, z1⟩, ⟨c2, z2⟩, ⟨c3, z3⟩⟩ := slot4 w W hb
  have hst := storedAt 9 w W g0 l0 g1 l1 g2 l2 g3 l3 hb hc'
  clear hc hc'
  go_wp2
  exact bodyPost_ret (v := .tuple #[.agg #[fv g0 l0, fv g1 l1, fv g2 l2, fv g3 l3], .nilIface]) (by simp [results, Tryz.results48, go_sem, c0, c1, c2, c3]) rfl ⟨_, _, _, _, _, _, _, _, rfl, hst.1, hst.2⟩
set_option maxHeartbeats 1000000 in
theorem calOf_10 (w : World) :
    Calls Tryz.prog 48 #[.int .i64 10] w fun e w' => ∃ g0 l0 g1 l1 g2 l2 g3 l3, e = .returned (.tuple #[.agg #[fv g0 l0, fv g1 l1, fv g2 l2, fv g3 l3], .nilIface]) ∧ IsCal (fv g0 l0) (fv g1 l1) (fv g2 l2) (fv g3 l3) 10 (From w.heap.size) w' ∧ Below w.heap.size w w' := by
  go_enter Tryz.func48, Tryz.ntmps48
  go_wp2_with fail
  refine (noLeaps_any _).mono ?_
  rintro e W1 ⟨g0, l0, g1, l1, rfl, hl1, hb1⟩
  go_wp2_with fail
  refine (thirteen_any (-991950) g0 l0 g1 l1 W1 _ _ _ _ hl1 hb1.size (by omega) (fun y h1 h2 => by omega) (by omega) (by omega)).mono ?_
  rintro e W ⟨g0, l0, g1, l1, g2, l2, g3, l3, rfl, hc, hbz⟩
  have hb := hb1.trans (hbz.mono hb1.size)
  have hc' : IsCal (fv g0 l0) (fv g1 l1) (fv g2 l2) (fv g3 l3) 10 (From (w.heap.size + 1)) W := by
    have hlp : ∀ y, false = Alm.leap 10 y := fun y => by simp [Alm.leap]
    refine ((hc.base (S' := From (w.heap.size + 1)) (fun k h _ => by simpa using h)).as (fun y => ?_) (fun y => ?_) (fun y m h => ?_) (fun y m h => ?_) (fun y => ?_))
    · exact hlp y
    · exact months_thirteen 10 y (by omega)
    · rw [← months_thirteen 10 y (by omega)] at h; exact h
    · rw [← months_thirteen 10 y (by omega)] at h; rw [← mlen_thirteen 10 y m (by omega) h.2.2.1 h.2.2.2, ← hlp y]
    · simp [Alm.start]
  obtain ⟨⟨c0, z0⟩, ⟨c1, z1⟩, ⟨c2, z2⟩, ⟨c3, z3⟩⟩ := slot4 w W hb
  have hst := storedAt 10 w W g0 l0 g1 l1 g2 l2 g3 l3 hb hc'
  clear hc hc'
  go_wp2
  exact bodyPost_ret (v := .tuple #[.agg #[fv g0 l0, fv g1 l1, fv g2 l2, fv g3 l3], .nilIface]) (by simp [results, Tryz.results48, go_sem, c0, c1, c2, c3]) rfl ⟨_, _, _, _, _, _, _, _, rfl, hst.1, hst.2⟩
theorem calOf_no (c : Int) (w : World) (h : c < 1 ∨ 10 < c) :
    Calls Tryz.prog 48 #[.int .i64 c] w fun e w' => e = .returned (.tuple #[.agg #[.nilFunc, .nilFunc, .nilFunc, .nilFunc], .iface 27 (.int .i64 2)]) ∧ Below w.heap.size w w' := by
  have d1 : (c == 1) = false := by simp; omega
  have d2 : (c == 2) = false := by simp; omega
  have d3 : (c == 3) = false := by simp; omega
  have d4 : (c == 4) = false := by simp; omega
  have d5 : (c == 5) = false := by simp; omega
  have d6 : (c == 6) = false := by simp; omega
  have d7 : (c == 7) = false := by simp; omega
  have d8 : (c == 8) = false := by simp; omega
  have d9 : (c == 9) = false := by simp; omega
  have d10 : (c == 10) = false := by simp; omega
  clear h
  go_enter Tryz.func48, Tryz.ntmps48
  go_wp2_with fail
  exact bodyPost_ret (v := .tuple #[.agg #[.nilFunc, .nilFunc, .nilFunc, .nilFunc], .iface 27 (.int .i64 2)]) (by simp [results, Tryz.results48, go_sem]) rfl ⟨rfl, (Below.refl _ w).alloc (Nat.le_refl _) _⟩
theorem calOf_yes (c : Int) (w : World) (h1 : 1 ≤ c) (h2 : c ≤ 10) :
    Calls Tryz.prog 48 #[.int .i64 c] w fun e w' => ∃ g0 l0 g1 l1 g2 l2 g3 l3, e = .returned (.tuple #[.agg #[fv g0 l0, fv g1 l1, fv g2 l2, fv g3 l3], .nilIface]) ∧ IsCal (fv g0 l0) (fv g1 l1) (fv g2 l2) (fv g3 l3) c (From w.heap.size) w' ∧ Below w.heap.size w w' := by
  have hc : c = 1 ∨ c = 2 ∨ c = 3 ∨ c = 4 ∨ c = 5 ∨ c = 6 ∨ c = 7 ∨ c = 8 ∨ c = 9 ∨ c = 10 := by omega
  rcases hc with rfl | rfl | rfl | rfl | rfl | rfl | rfl | rfl | rfl | rfl
  · exact calOf_1 w
  · exact calOf_2 w
  · exact calOf_3 w
  · exact calOf_4 w
  · exact calOf_5 w
  · exact calOf_6 w
  · exact calOf_7 w
  · exact calOf_8 w
  · exact calOf_9 w
  · exact calOf_10 w
end Go.Proofs.YtgbbplkpepaidaaGreatDoor
