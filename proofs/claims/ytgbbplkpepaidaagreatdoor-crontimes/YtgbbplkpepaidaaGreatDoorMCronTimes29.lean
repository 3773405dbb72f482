/- days.Of by its contracts. -/
import Derived.Test.YtgbbplkpepaidaaGreatDoorMCronTimes28
import Derived.Test.YtgbbplkpepaidaaGreatDoorMCronTimes12
namespace Go.Proofs.YtgbbplkpepaidaaGreatDoor
open Go.RowKit Go.Shelf

/-- what is wrong with a month -/
def merr (c y m : Int) : Int := if c < 1 ∨ 10 < c then 2 else if y < -20000 ∨ 20000 < y then 4 else if m < 1 ∨ Alm.months c y < m then 3 else 0
theorem length_ok (c y m : Int) (w : World) (h1 : 1 ≤ c) (h2 : c ≤ 10) (y1 : -20000 ≤ y) (y2 : y ≤ 20000) (m1 : 1 ≤ m) (m2 : m ≤ Alm.months c y) :
    Calls Tryz.prog 35 #[.int .i64 c, .int .i64 y, .int .i64 m] w fun e w' => e = .returned (.tuple #[.int .i64 (Alm.mlen c y m), .nilIface]) ∧ Below w.heap.size w w' := by
  go_enter Tryz.func35, Tryz.ntmps35
  go_wp2_with fail
  refine (withYear_ok c y _ h1 h2 y1 y2).mono ?_
  rintro e W ⟨g0, l0, g1, l1, g2, l2, g3, l3, rfl, hc, hb⟩
  have hk := lengthOf_ok g0 l0 g1 l1 g2 l2 g3 l3 c y m _ _ (hc.later ((Since.refl _ W).alloc (.cells #[fv g0 l0, fv g1 l1, fv g2 l2, fv g3 l3] 94))) (by omega) (by omega) m1 m2
  have hs := hb.size
  clear hc m2
  go_wp2_with fail
  refine hk.mono ?_
  rintro e w' ⟨rfl, hb2⟩
  go_wp2
  go_ret2
  exact ⟨rfl, (hb.alloc hs _).trans (hb2.mono (by simp; omega))⟩
theorem length_no (c y m : Int) (w : World) (h : c < 1 ∨ 10 < c ∨ y < -20000 ∨ 20000 < y ∨ m < 1 ∨ Alm.months c y < m) :
    Calls Tryz.prog 35 #[.int .i64 c, .int .i64 y, .int .i64 m] w fun e w' => e = .returned (.tuple #[.int .i64 0, .iface 27 (.int .i64 (merr c y m))]) ∧ Below w.heap.size w w' := by
  by_cases hc : c < 1 ∨ 10 < c ∨ y < -20000 ∨ 20000 < y
  · have e : merr c y m = yerr c y := by unfold merr yerr; (repeat' split) <;> first | rfl | omega
    rw [e]
    go_enter Tryz.func35, Tryz.ntmps35
    go_wp2_with fail
    refine (withYear_no c y _ hc).mono ?_
    rintro e W ⟨rfl, hb⟩
    have hs := hb.size
    clear e h hc
    go_wp2
    go_ret2
    exact ⟨rfl, hb.alloc hs _⟩
  · have hm : m < 1 ∨ Alm.months c y < m := by omega
    have e : merr c y m = 3 := by unfold merr; rw [if_neg (by omega), if_neg (by omega), if_pos hm]
    rw [e]
    go_enter Tryz.func35, Tryz.ntmps35
    go_wp2_with fail
    refine (withYear_ok c y _ (by omega) (by omega) (by omega) (by omega)).mono ?_
    rintro e W ⟨g0, l0, g1, l1, g2, l2, g3, l3, rfl, hcal, hb⟩
    have hk := lengthOf_no g0 l0 g1 l1 g2 l2 g3 l3 c y m _ _ (hcal.later ((Since.refl _ W).alloc (.cells #[fv g0 l0, fv g1 l1, fv g2 l2, fv g3 l3] 94))) (by omega) (by omega) hm
    have hs := hb.size
    clear hcal h hc hm e
    go_wp2_with fail
    refine hk.mono ?_
    rintro e w' ⟨rfl, hb2⟩
    go_wp2
    go_ret2
    exact ⟨rfl, (hb.alloc hs _).trans (hb2.mono (by simp; omega))⟩
end Go.Proofs.YtgbbplkpepaidaaGreatDoor
namespace Go.Proofs.YtgbbplkpepaidaaGreatDoor
open Go.RowKit Go.Shelf

end Go.Proofs.YtgbbplkpepaidaaGreatDoor
namespace Go.Proofs.YtgbbplkpepaidaaGreatDoor
open Go.RowKit Go.Shelf

/-- the number of a date -/
def dnum (c y m d : Int) : Int := Alm.start c y + d - 1 + Alm.cum c y (m - 1).toNat
/-- what is wrong with a date: 0, if nothing is -/
def derr (c y m d : Int) : Int :=
  if c < 1 ∨ 10 < c then 2 else if y < -20000 ∨ 20000 < y then 4 else if m < 1 ∨ Alm.months c y < m then 3 else if d < 1 ∨ Alm.mlen c y m < d then 3 else if dnum c y m d < -4000000 ∨ 4000000 < dnum c y m d then 4 else 0
theorem derr_zero (c y m d : Int) (h : derr c y m d = 0) : (1 ≤ c ∧ c ≤ 10) ∧ (-20000 ≤ y ∧ y ≤ 20000) ∧ (1 ≤ m ∧ m ≤ Alm.months c y) ∧ (1 ≤ d ∧ d ≤ Alm.mlen c y m) ∧ (-4000000 ≤ dnum c y m d ∧ dnum c y m d ≤ 4000000) := by
  unfold derr at h
  (repeat' split at h) <;> first | omega | simp at h

theorem derr_bd (c y m d : Int) : 0 ≤ derr c y m d ∧ derr c y m d ≤ 4 := by unfold derr; (repeat' split) <;> omega
end Go.Proofs.YtgbbplkpepaidaaGreatDoor
namespace Go.Proofs.YtgbbplkpepaidaaGreatDoor
open Go.RowKit Go.Shelf

/-- the four cells of a date's slot, behind calls -/
theorem slotD (w W : World) (hb : Below (w.alloc (.cells #[.int .i64 0, .int .i64 0, .int .i64 0, .int .i64 0] 60)).heap.size (w.alloc (.cells #[.int .i64 0, .int .i64 0, .int .i64 0, .int .i64 0] 60)) W) : (W.cell? ⟨w.heap.size, 0, none⟩ = some (.int .i64 0) ∧ W.frozen? ⟨w.heap.size, 0, none⟩ = false) ∧ (W.cell? ⟨w.heap.size, 1, none⟩ = some (.int .i64 0) ∧ W.frozen? ⟨w.heap.size, 1, none⟩ = false) ∧
    (W.cell? ⟨w.heap.size, 2, none⟩ = some (.int .i64 0) ∧ W.frozen? ⟨w.heap.size, 2, none⟩ = false) ∧ (W.cell? ⟨w.heap.size, 3, none⟩ = some (.int .i64 0) ∧ W.frozen? ⟨w.heap.size, 3, none⟩ = false) := by
  refine ⟨⟨?_, ?_⟩, ⟨?_, ?_⟩, ⟨?_, ?_⟩, ⟨?_, ?_⟩⟩
  · rw [hb.cell (p := ⟨w.heap.size, 0, none⟩) (by simp)]; simp
  · rw [hb.frozen (p := ⟨w.heap.size, 0, none⟩) (by simp)]; simp
  · rw [hb.cell (p := ⟨w.heap.size, 1, none⟩) (by simp)]; simp
  · rw [hb.frozen (p := ⟨w.heap.size, 1, none⟩) (by simp)]; simp
  · rw [hb.cell (p := ⟨w.heap.size, 2, none⟩) (by simp)]; simp
  · rw [hb.frozen (p := ⟨w.heap.size, 2, none⟩) (by simp)]; simp
  · rw [hb.cell (p := ⟨w.heap.size, 3, none⟩) (by simp)]; simp
  · rw [hb.frozen (p := ⟨w.heap.size, 3, none⟩) (by simp)]; simp

set_option maxRecDepth 100000 in
set_option maxHeartbeats 2000000 in
theorem of_ok (c day : Int) (w : World) (h1 : 1 ≤ c) (h2 : c ≤ 10) (d1 : -4000000 ≤ day) (d2 : day ≤ 4000000) :
    Calls Tryz.prog 34 #[.int .i64 c, .int .i64 day] w fun e w' => ∃ y m d, e = .returned (.tuple #[.agg #[.int .i64 c, .int .i64 y, .int .i64 m, .int .i64 d], .nilIface]) ∧ Alm.IsDate c day y m d ∧ -20000 ≤ y ∧ y ≤ 20000 ∧ Below w.heap.size w w' := by
  obtain ⟨y, hy, y1, y2⟩ := yr_ex c day h1 h2 (by omega) (by omega)
  have sb := Alm.start_bd c y h1 h2 (by omega) (by omega)
  have hyl := Alm.start_succ c y h1 h2
  have ylb := Alm.ylen_bd c y
  have ha1 : 0 ≤ day - Alm.start c y := by have := hy.1; omega
  have ha2 : day - Alm.start c y < Alm.ylen c y := by have := hy.2; omega
  go_enter Tryz.func34, Tryz.ntmps34
  go_wp2_with fail
  refine (calOf_yes c _ h1 h2).mono ?_
  rintro e W ⟨g0, l0, g1, l1, g2, l2, g3, l3, rfl, hc, hb⟩
  obtain ⟨⟨z0, n0⟩, ⟨z1, n1⟩, ⟨z2, n2⟩, ⟨z3, n3⟩⟩ := slotD w W hb
  have hs : w.heap.size < W.heap.size := by have := hb.size; simp at this; omega
  rw [show (w.alloc (.cells #[.int .i64 0, .int .i64 0, .int .i64 0, .int .i64 0] 60)).heap.size = w.heap.size + 1 from by simp] at hc
  have hB := hc.later ((Since.refl _ W).alloc (.cells #[fv g0 l0, fv g1 l1, fv g2 l2, fv g3 l3] 94))
  have k1 := hide (yearOf_any g0 l0 g1 l1 g2 l2 g3 l3 c day y _ _ hB (fun k hk => by simp at hk ⊢; omega) h1 h2 hy y1 (by omega))
  have k2 := hide (fun X h => (hB.later h).start.calls X y (Since.refl _ _) (by omega) (by omega))
  have k3 := hide (fun X h => monthOf_any g0 l0 g1 l1 g2 l2 g3 l3 c y (day - Alm.start c y) _ X (hB.later h) (by omega) (by omega) ha1 ha2)
  have en := hB.start.enters
  have Hid1 := hide (show Alm.start c y + (day - Alm.start c y) = day by omega)
  have hbW : Below w.heap.size w (W.alloc (.cells #[fv g0 l0, fv g1 l1, fv g2 l2, fv g3 l3] 94)) := ((Below.refl _ w).alloc (Nat.le_refl _) _).trans (hb.mono (by simp)) |>.alloc (by omega) _
  clear hc hB hyl ylb ha1 ha2 hy
  generalize Alm.start c y = st at *
  go_wp2_with (first | (go_at_call 49; refine (checkDay_ok day _ d1 d2).mono ?_; rintro e w' ⟨rfl, rfl⟩))
  refine k1.out.mono ?_
  rintro e W2 ⟨rfl, hb2⟩
  have hbW2 := hbW.trans (hb2.mono hbW.size)
  have hz : W.heap.size < W2.heap.size := by have := hb2.size; simp at this; omega
  have hB2 : ∀ k o, k < W.heap.size + 1 → W2.cell? ⟨k, o, none⟩ = (W.alloc (.cells #[fv g0 l0, fv g1 l1, fv g2 l2, fv g3 l3] 94)).cell? ⟨k, o, none⟩ := fun k o h => hb2.cell (p := ⟨k, o, none⟩) (by simpa using h)
  have f2 : ∀ k o, k < W.heap.size + 1 → W2.frozen? ⟨k, o, none⟩ = (W.alloc (.cells #[fv g0 l0, fv g1 l1, fv g2 l2, fv g3 l3] 94)).frozen? ⟨k, o, none⟩ := fun k o h => hb2.frozen (p := ⟨k, o, none⟩) (by simpa using h)
  have c0 : W2.cell? ⟨W.heap.size, 0, none⟩ = some (fv g0 l0) := by rw [hB2 _ _ (by omega)]; simp
  have c1 : W2.cell? ⟨W.heap.size, 1, none⟩ = some (fv g1 l1) := by rw [hB2 _ _ (by omega)]; simp
  have c2 : W2.cell? ⟨W.heap.size, 2, none⟩ = some (fv g2 l2) := by rw [hB2 _ _ (by omega)]; simp
  have c3 : W2.cell? ⟨W.heap.size, 3, none⟩ = some (fv g3 l3) := by rw [hB2 _ _ (by omega)]; simp
  have x0 : W2.cell? ⟨w.heap.size, 0, none⟩ = some (.int .i64 0) := by rw [hB2 _ _ (by omega), World.cell?_alloc_past _ _ _ hs]; exact z0
  have x1 : W2.cell? ⟨w.heap.size, 1, none⟩ = some (.int .i64 0) := by rw [hB2 _ _ (by omega), World.cell?_alloc_past _ _ _ hs]; exact z1
  have x2 : W2.cell? ⟨w.heap.size, 2, none⟩ = some (.int .i64 0) := by rw [hB2 _ _ (by omega), World.cell?_alloc_past _ _ _ hs]; exact z2
  have x3 : W2.cell? ⟨w.heap.size, 3, none⟩ = some (.int .i64 0) := by rw [hB2 _ _ (by omega), World.cell?_alloc_past _ _ _ hs]; exact z3
  have v0 : W2.frozen? ⟨w.heap.size, 0, none⟩ = false := by rw [f2 _ _ (by omega), World.frozen?_alloc_old _ _ ⟨w.heap.size, 0, none⟩ (Nat.ne_of_lt hs)]; exact n0
  have v1 : W2.frozen? ⟨w.heap.size, 1, none⟩ = false := by rw [f2 _ _ (by omega), World.frozen?_alloc_old _ _ ⟨w.heap.size, 1, none⟩ (Nat.ne_of_lt hs)]; exact n1
  have v2 : W2.frozen? ⟨w.heap.size, 2, none⟩ = false := by rw [f2 _ _ (by omega), World.frozen?_alloc_old _ _ ⟨w.heap.size, 2, none⟩ (Nat.ne_of_lt hs)]; exact n2
  have v3 : W2.frozen? ⟨w.heap.size, 3, none⟩ = false := by rw [f2 _ _ (by omega), World.frozen?_alloc_old _ _ ⟨w.heap.size, 3, none⟩ (Nat.ne_of_lt hs)]; exact n3
  clear hB2 f2 z0 z1 z2 z3 n0 n1 n2 n3 k1
  have Hw := hide (show IntKind.i64.wrap (day - st) = day - st from by rw [IntKind.wrap_i64]; omega)
  have Hs2 := hide (Since.of_below (S := From (w.heap.size + 1)) hb2)
  go_wp2_with fail
  go_cut [10, 11] from 30 (fun s10 s11 wc => ∃ m d : Int, s10 = .int .i64 m ∧ s11 = .int .i64 d ∧ Hid (Alm.IsDate c day y m d ∧ Below W2.heap.size W2 wc))
  case first =>
    go_region_with (first | (go_at_fn g3; refine (k2.out _ (Hs2.out.trans (by repeat (first | exact Since.refl _ _ | refine Since.drewN ?_ _)))).mono ?_; rintro e w' ⟨rfl, q, rfl⟩) | (go_at_call 51; rw [Hw.out]; refine (k3.out _ (Hs2.out.trans (by repeat (first | exact Since.refl _ _ | refine Since.drewN ?_ _)))).mono ?_; rintro e w' ⟨m, d, rfl, hd, hb3⟩; rw [Hid1.out] at hd; have hb4 : Below W2.heap.size W2 w' := (below_drewN (Below.refl _ W2) _).trans hb3; have hdm := hide (And.intro hd hb4); clear hd hb3 hb4))
    all_goals (go_wp2_with fail; go_meet)
    all_goals exact ⟨_, _, rfl, rfl, by assumption⟩
  case rest =>
    obtain ⟨m, d, rfl, rfl, hdb⟩ := hcut
    obtain ⟨hd, hb4⟩ := hdb.out
    clear hdb
    have hz2 : w.heap.size < W2.heap.size := by omega
    have y0 : wc.cell? ⟨w.heap.size, 0, none⟩ = some (.int .i64 0) := (hb4.cell (p := ⟨w.heap.size, 0, none⟩) hz2).trans x0
    have y1' : wc.cell? ⟨w.heap.size, 1, none⟩ = some (.int .i64 0) := (hb4.cell (p := ⟨w.heap.size, 1, none⟩) hz2).trans x1
    have y2' : wc.cell? ⟨w.heap.size, 2, none⟩ = some (.int .i64 0) := (hb4.cell (p := ⟨w.heap.size, 2, none⟩) hz2).trans x2
    have y3 : wc.cell? ⟨w.heap.size, 3, none⟩ = some (.int .i64 0) := (hb4.cell (p := ⟨w.heap.size, 3, none⟩) hz2).trans x3
    have u0 : wc.frozen? ⟨w.heap.size, 0, none⟩ = false := (hb4.frozen (p := ⟨w.heap.size, 0, none⟩) hz2).trans v0
    have u1 : wc.frozen? ⟨w.heap.size, 1, none⟩ = false := (hb4.frozen (p := ⟨w.heap.size, 1, none⟩) hz2).trans v1
    have u2 : wc.frozen? ⟨w.heap.size, 2, none⟩ = false := (hb4.frozen (p := ⟨w.heap.size, 2, none⟩) hz2).trans v2
    have u3 : wc.frozen? ⟨w.heap.size, 3, none⟩ = false := (hb4.frozen (p := ⟨w.heap.size, 3, none⟩) hz2).trans v3
    have hbc := hbW2.trans (hb4.mono hbW2.size)
    clear k2 k3 x0 x1 x2 x3 v0 v1 v2 v3 c0 c1 c2 c3
    go_wp2
    refine bodyPost_ret (v := .tuple #[.agg #[.int .i64 c, .int .i64 y, .int .i64 m, .int .i64 d], .nilIface]) (by simp [results, Tryz.results34, go_sem, y0, y1', y2', y3]) rfl ⟨_, _, _, rfl, hd, by omega, by omega, ?_⟩
    exact (((hbc.setCell (Nat.le_refl _) _).setCell (Nat.le_refl _) _).setCell (Nat.le_refl _) _).setCell (Nat.le_refl _) _
end Go.Proofs.YtgbbplkpepaidaaGreatDoor
