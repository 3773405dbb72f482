/- The methods of a calendar, and calendarWithYear. -/
import Derived.Test.YtafaacliphdndaaGreatDoorMClockTexts25
import Derived.Test.YtafaacliphdndaaGreatDoorMClockTexts9
namespace Go.Proofs.YtafaacliphdndaaGreatDoor
open Go.RowKit Go.Shelf

theorem IsCal.later {v0 v1 v2 v3 : Value} {c : Int} {S : Nat → Prop} {w W : World} (h : IsCal v0 v1 v2 v3 c S w) (hb : Since S w W) : IsCal v0 v1 v2 v3 c S W := IsCalG.later h hb
theorem IsCal.base {v0 v1 v2 v3 : Value} {c : Int} {S S' : Nat → Prop} {w : World} (h : IsCal v0 v1 v2 v3 c S w) (hS : ∀ k, S k → k < w.heap.size → S' k) : IsCal v0 v1 v2 v3 c S' w := IsCalG.base h hS

set_option maxHeartbeats 1000000 in
theorem withYear_ok (c y : Int) (w : World) (h1 : 1 ≤ c) (h2 : c ≤ 10) (y1 : -20000 ≤ y) (y2 : y ≤ 20000) :
    Calls Tryz.prog 97 #[.int .i64 c, .int .i64 y] w fun e w' => ∃ g0 l0 g1 l1 g2 l2 g3 l3, e = .returned (.tuple #[.agg #[fv g0 l0, fv g1 l1, fv g2 l2, fv g3 l3], .nilIface]) ∧ IsCal (fv g0 l0) (fv g1 l1) (fv g2 l2) (fv g3 l3) c (From w.heap.size) w' ∧ Below w.heap.size w w' := by
  go_enter Tryz.func97, Tryz.ntmps97
  go_wp2_with fail
  refine (calOf_yes c _ h1 h2).mono ?_
  rintro e W ⟨g0, l0, g1, l1, g2, l2, g3, l3, rfl, hc, hb⟩
  obtain ⟨⟨c0, z0⟩, ⟨c1, z1⟩, ⟨c2, z2⟩, ⟨c3, z3⟩⟩ := slot4 w W hb
  have hz : w.heap.size < W.heap.size := by have := hb.size; simp at this; omega
  rw [show (w.alloc (.cells #[.nilFunc, .nilFunc, .nilFunc, .nilFunc] 148)).heap.size = w.heap.size + 1 from by simp] at hc
  go_wp2_with (go_at_call 134; refine (checkYear_ok y _ y1 y2).mono ?_; rintro e w' ⟨rfl, rfl⟩)
  refine bodyPost_ret (v := .tuple #[.agg #[fv g0 l0, fv g1 l1, fv g2 l2, fv g3 l3], .nilIface]) (by simp [results, Tryz.results97, go_sem, c0, c1, c2, c3, hz]) rfl ⟨_, _, _, _, _, _, _, _, rfl, ?_, ?_⟩
  · have hst := (storedAt c w W g0 l0 g1 l1 g2 l2 g3 l3 hb hc).1
    exact hst.later (Since.of_below ((Below.refl _ _).alloc (Nat.le_refl _) _))
  · have hst := (storedAt c w W g0 l0 g1 l1 g2 l2 g3 l3 hb hc).2
    exact hst.alloc (by simp [World.setCell]; omega) _
set_option maxHeartbeats 1000000 in
theorem withYear_no (c y : Int) (w : World) (h : c < 1 ∨ 10 < c ∨ y < -20000 ∨ 20000 < y) :
    Calls Tryz.prog 97 #[.int .i64 c, .int .i64 y] w fun e w' => e = .returned (.tuple #[.agg #[.nilFunc, .nilFunc, .nilFunc, .nilFunc], .iface 25 (.int .i64 (yerr c y))]) ∧ Below w.heap.size w w' := by
  by_cases hc : c < 1 ∨ 10 < c
  · have e : yerr c y = 2 := by unfold yerr; rw [if_pos hc]
    rw [e]; clear e
    go_enter Tryz.func97, Tryz.ntmps97
    go_wp2_with fail
    refine (calOf_no c _ hc).mono ?_
    rintro e W ⟨rfl, hb⟩
    obtain ⟨⟨c0, z0⟩, ⟨c1, z1⟩, ⟨c2, z2⟩, ⟨c3, z3⟩⟩ := slot4 w W hb
    have hz : w.heap.size < W.heap.size := by have := hb.size; simp at this; omega
    go_wp2
    have hb0 : Below w.heap.size w W := ((Below.refl _ w).alloc (Nat.le_refl _) _).trans (hb.mono (by simp))
    exact bodyPost_ret (v := .tuple #[.agg #[.nilFunc, .nilFunc, .nilFunc, .nilFunc], .iface 25 (.int .i64 2)]) (by simp [results, Tryz.results97, go_sem, c0, c1, c2, c3, hz]) rfl ⟨rfl,
      ((((hb0.setCell (Nat.le_refl _) _).setCell (Nat.le_refl _) _).setCell (Nat.le_refl _) _).setCell (Nat.le_refl _) _).alloc (by simp [World.setCell]; omega) _⟩
  · have hy : y < -20000 ∨ 20000 < y := by omega
    have e : yerr c y = 4 := by unfold yerr; rw [if_neg hc, if_pos hy]
    rw [e]; clear e
    go_enter Tryz.func97, Tryz.ntmps97
    go_wp2_with fail
    refine (calOf_yes c _ (by omega) (by omega)).mono ?_
    rintro e W ⟨g0, l0, g1, l1, g2, l2, g3, l3, rfl, hcal, hb⟩
    obtain ⟨⟨c0, z0⟩, ⟨c1, z1⟩, ⟨c2, z2⟩, ⟨c3, z3⟩⟩ := slot4 w W hb
    have hz : w.heap.size < W.heap.size := by have := hb.size; simp at this; omega
    have hb0 : Below w.heap.size w W := ((Below.refl _ w).alloc (Nat.le_refl _) _).trans (hb.mono (by simp))
    clear hcal
    go_wp2_with (go_at_call 134; refine (checkYear_no y _ hy).mono ?_; rintro e w' ⟨rfl, rfl⟩)
    exact bodyPost_ret (v := .tuple #[.agg #[.nilFunc, .nilFunc, .nilFunc, .nilFunc], .iface 25 (.int .i64 4)]) (by simp [results, Tryz.results97, go_sem, c0, c1, c2, c3, hz]) rfl ⟨rfl,
      ((((hb0.setCell (Nat.le_refl _) _).setCell (Nat.le_refl _) _).setCell (Nat.le_refl _) _).setCell (Nat.le_refl _) _).alloc (by simp [World.setCell]; omega) _⟩

/-- a calendar handed to a method: its four functions in the box -/
theorem box_cal (w : World) (g0 : Nat) (l0 : Array Value) (g1 : Nat) (l1 : Array Value) (g2 : Nat) (l2 : Array Value) (g3 : Nat) (l3 : Array Value) (c : Int) (S : Nat → Prop) (hc : IsCal (fv g0 l0) (fv g1 l1) (fv g2 l2) (fv g3 l3) c S w) :
    IsCal (fv g0 l0) (fv g1 l1) (fv g2 l2) (fv g3 l3) c S (w.alloc (.cells #[fv g0 l0, fv g1 l1, fv g2 l2, fv g3 l3] 148)) := hc.later ((Since.refl _ w).alloc _)

theorem lengthOf_ok (g0 : Nat) (l0 : Array Value) (g1 : Nat) (l1 : Array Value) (g2 : Nat) (l2 : Array Value) (g3 : Nat) (l3 : Array Value) (c y m : Int) (S : Nat → Prop) (w : World) (hc : IsCal (fv g0 l0) (fv g1 l1) (fv g2 l2) (fv g3 l3) c S w) (y1 : -40000 ≤ y) (y2 : y ≤ 40000) (m1 : 1 ≤ m) (m2 : m ≤ Alm.months c y) :
    Calls Tryz.prog 98 #[.agg #[fv g0 l0, fv g1 l1, fv g2 l2, fv g3 l3], .int .i64 y, .int .i64 m] w fun e w' => e = .returned (.tuple #[.int .i64 (Alm.mlen c y m), .nilIface]) ∧ Below w.heap.size w w' := by
  have hB := box_cal w g0 l0 g1 l1 g2 l2 g3 l3 c S hc
  clear hc
  have en1 := hB.months.enters
  have en2 := hB.len.enters
  have k1 := hB.months.calls _ y (Since.refl _ _) y1 y2
  have k2 := hide (fun q => hB.len.calls _ y m ((Since.refl _ _).drewN q) ⟨y1, y2, m1, m2⟩)
  clear hB
  generalize (Alm.months c y : Int) = mo at *
  go_enter Tryz.func98, Tryz.ntmps98
  go_wp2_with fail
  refine k1.mono ?_
  rintro e w' ⟨rfl, q, rfl⟩
  go_wp2_with fail
  refine (k2.out q).mono ?_
  rintro e w' ⟨rfl, q2, rfl⟩
  go_wp2
  go_ret2
  exact ⟨rfl, below_drewN ((Below.refl _ w).alloc (Nat.le_refl _) _) _⟩
theorem lengthOf_no (g0 : Nat) (l0 : Array Value) (g1 : Nat) (l1 : Array Value) (g2 : Nat) (l2 : Array Value) (g3 : Nat) (l3 : Array Value) (c y m : Int) (S : Nat → Prop) (w : World) (hc : IsCal (fv g0 l0) (fv g1 l1) (fv g2 l2) (fv g3 l3) c S w) (y1 : -40000 ≤ y) (y2 : y ≤ 40000) (hm : m < 1 ∨ Alm.months c y < m) :
    Calls Tryz.prog 98 #[.agg #[fv g0 l0, fv g1 l1, fv g2 l2, fv g3 l3], .int .i64 y, .int .i64 m] w fun e w' => e = .returned (.tuple #[.int .i64 0, .iface 25 (.int .i64 3)]) ∧ Below w.heap.size w w' := by
  have hB := box_cal w g0 l0 g1 l1 g2 l2 g3 l3 c S hc
  clear hc
  have en1 := hB.months.enters
  have k1 := hB.months.calls _ y (Since.refl _ _) y1 y2
  clear hB
  generalize (Alm.months c y : Int) = mo at *
  by_cases m1 : m < 1
  · clear k1 hm
    go_enter Tryz.func98, Tryz.ntmps98
    go_wp2
    go_ret2
    exact ⟨rfl, (Below.refl _ w).alloc (Nat.le_refl _) _⟩
  · have m2 : mo < m := by omega
    clear hm
    go_enter Tryz.func98, Tryz.ntmps98
    go_wp2_with fail
    refine k1.mono ?_
    rintro e w' ⟨rfl, q, rfl⟩
    go_wp2
    go_ret2
    exact ⟨rfl, below_drewN ((Below.refl _ w).alloc (Nat.le_refl _) _) _⟩
end Go.Proofs.YtafaacliphdndaaGreatDoor
