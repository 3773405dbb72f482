/- days.Of by its contracts. -/
import Derived.Test.YtafaacliphdndaaGreatDoorMClockTexts30
namespace Go.Proofs.YtafaacliphdndaaGreatDoor
open Go.RowKit Go.Shelf

/-- the four cells of a date's slot, behind calls -/
theorem slotD (w W : World) (hb : Below (w.alloc (.cells #[.int .i64 0, .int .i64 0, .int .i64 0, .int .i64 0] 55)).heap.size (w.alloc (.cells #[.int .i64 0, .int .i64 0, .int .i64 0, .int .i64 0] 55)) W) : (W.cell? ⟨w.heap.size, 0, none⟩ = some (.int .i64 0) ∧ W.frozen? ⟨w.heap.size, 0, none⟩ = false) ∧ (W.cell? ⟨w.heap.size, 1, none⟩ = some (.int .i64 0) ∧ W.frozen? ⟨w.heap.size, 1, none⟩ = false) ∧
    (W.cell? ⟨w.heap.size, 2, none⟩ = some (.int .i64 0) ∧ W.frozen? ⟨w.heap.size, 2, none⟩ = false) ∧ (W.cell? ⟨w.heap.size, 3, none⟩ = some (.int .i64 0) ∧ W.frozen? ⟨w.heap.size, 3, none⟩ = false) := by
  refine ⟨⟨?_, ?_⟩, ⟨?_, ?_⟩, ⟨?_, ?_⟩, ⟨?_, ?_⟩⟩
  · rw [hb.cell (p := ⟨w.heap.size, 0, none⟩) (by simp)]; simp
  · rw [hb.frozen (p := ⟨w.heap.size, 0, none⟩) (by simp)]; simp
  · rw [hb.cell (p := ⟨w.heap.size, 1, none⟩) (by simp)]; simp
  · rw [hb.frozen (p := ⟨w.heap.size, 1, none⟩) (by simp)]; simp
  · rw [hb.cell (p := ⟨w.heap.size, 2, none⟩) (by simp)]; simp
  · rw [hb.frozen (p := ⟨w.heap.size, 2, none⟩) (by simp)]; simp
  · rw [hb.cell (p := ⟨w.heap.size, 3, none⟩) (by simp)]; simp
  · rw [hb.frozen (p := ⟨w.heap.size, 3, none⟩) (by simp)]; simp

set_option maxRecDepth 100000 in
set_option maxHeartbeats 2000000 in
theorem of_ok (c day : Int) (w : World) (h1 : 1 ≤ c) (h2 : c ≤ 10) (d1 : -4000000 ≤ day) (d2 : day ≤ 4000000) :
    Calls Tryz.prog 69 #[.int .i64 c, .int .i64 day] w fun e w' => ∃ y m d, e = .returned (.tuple #[.agg #[.int .i64 c, .int .i64 y, .int .i64 m, .int .i64 d], .nilIface]) ∧ Alm.IsDate c day y m d ∧ -20000 ≤ y ∧ y ≤ 20000 ∧ Below w.heap.size w w' := by
  obtain ⟨y, hy, y1, y2⟩ := yr_ex c day h1 h2 (by omega) (by omega)
  have sb := Alm.start_bd c y h1 h2 (by omega) (by omega)
  have hyl := Alm.start_succ c y h1 h2
  have ylb := Alm.ylen_bd c y
  have ha1 : 0 ≤ day - Alm.start c y := by have := hy.1; omega
  have ha2 : day - Alm.start c y < Alm.ylen c y := by have := hy.2; omega
  go_enter Tryz.func69, Tryz.ntmps69
  go_wp2_with fail
  refine (calOf_yes c _ h1 h2).mono ?_
  rintro e W ⟨g0, l0, g1, l1, g2, l2, g3, l3, rfl, hc, hb⟩
  obtain ⟨⟨z0, n0⟩, ⟨z1, n1⟩, ⟨z2, n2⟩, ⟨z3, n3⟩⟩ := slotD w W hb
  have hs : w.heap.size < W.heap.size := by have := hb.size; simp at this; omega
  rw [show (w.alloc (.cells #[.int .i64 0, .int .i64 0, .int .i64 0, .int .i64 0] 55)).heap.size = w.heap.size + 1 from by simp] at hc
  have hB := hc.later ((Since.refl _ W).alloc (.cells #[fv g0 l0, fv g1 l1, fv g2 l2, fv g3 l3] 148))
  have k1 := hide (yearOf_any g0 l0 g1 l1 g2 l2 g3 l3 c day y _ _ hB (fun k hk => by simp at hk ⊢; omega) h1 h2 hy y1 (by omega))
  have k2 := hide (fun X h => (hB.later h).start.calls X y (Since.refl _ _) (by omega) (by omega))
  have k3 := hide (fun X h => monthOf_any g0 l0 g1 l1 g2 l2 g3 l3 c y (day - Alm.start c y) _ X (hB.later h) (by omega) (by omega) ha1 ha2)
  have en := hB.start.enters
  have Hid1 := hide (show Alm.start c y + (day - Alm.start c y) = day by omega)
  have hbW : Below w.heap.size w (W.alloc (.cells #[fv g0 l0, fv g1 l1, fv g2 l2, fv g3 l3] 148)) := ((Below.refl _ w).alloc (Nat.le_refl _) _).trans (hb.mono (by simp)) |>.alloc (by omega) _
  clear hc hB hyl ylb ha1 ha2 hy
  generalize Alm.start c y = st at *
  go_wp2_with (first | (go_at_call 94; refine (checkDay_ok day _ d1 d2).mono ?_; rintro e w' ⟨rfl, rfl⟩))
  refine k1.out.mono ?_
  rintro e W2 ⟨rfl, hb2⟩
  have hbW2 := hbW.trans (hb2.mono hbW.size)
  have hz : W.heap.size < W2.heap.size := by have := hb2.size; simp at this; omega
  have hB2 : ∀ k o, k < W.heap.size + 1 → W2.cell? ⟨k, o, none⟩ = (W.alloc (.cells #[fv g0 l0, fv g1 l1, fv g2 l2, fv g3 l3] 148)).cell? ⟨k, o, none⟩ := fun k o h => hb2.cell (p := ⟨k, o, none⟩) (by simpa using h)
  have f2 : ∀ k o, k < W.heap.size + 1 → W2.frozen? ⟨k, o, none⟩ = (W.alloc (.cells #[fv g0 l0, fv g1 l1, fv g2 l2, fv g3 l3] 148)).frozen? ⟨k, o, none⟩ := fun k o h => hb2.frozen (p := ⟨k, o, none⟩) (by simpa using h)
  have c0 : W2.cell? ⟨W.heap.size, 0, none⟩ = some (fv g0 l0) := by rw [hB2 _ _ (by omega)]; simp
  have c1 : W2.cell? ⟨W.heap.size, 1, none⟩ = some (fv g1 l1) := by rw [hB2 _ _ (by omega)]; simp
  have c2 : W2.cell? ⟨W.heap.size, 2, none⟩ = some (fv g2 l2) := by rw [hB2 _ _ (by omega)]; simp
  have c3 : W2.cell? ⟨W.heap.size, 3, none⟩ = some (fv g3 l3) := by rw [hB2 _ _ (by omega)]; simp
  have x0 : W2.cell? ⟨w.heap.size, 0, none⟩ = some (.int .i64 0) := by rw [hB2 _ _ (by omega), World.cell?_alloc_past _ _ _ hs]; exact z0
  have x1 : W2.cell? ⟨w.heap.size, 1, none⟩ = some (.int .i64 0) := by rw [hB2 _ _ (by omega), World.cell?_alloc_past _ _ _ hs]; exact z1
  have x2 : W2.cell? ⟨w.heap.size, 2, none⟩ = some (.int .i64 0) := by rw [hB2 _ _ (by omega), World.cell?_alloc_past _ _ _ hs]; exact z2
  have x3 : W2.cell? ⟨w.heap.size, 3, none⟩ = some (.int .i64 0) := by rw [hB2 _ _ (by omega), World.cell?_alloc_past _ _ _ hs]; exact z3
  have v0 : W2.frozen? ⟨w.heap.size, 0, none⟩ = false := by rw [f2 _ _ (by omega), World.frozen?_alloc_old _ _ ⟨w.heap.size, 0, none⟩ (Nat.ne_of_lt hs)]; exact n0
  have v1 : W2.frozen? ⟨w.heap.size, 1, none⟩ = false := by rw [f2 _ _ (by omega), World.frozen?_alloc_old _ _ ⟨w.heap.size, 1, none⟩ (Nat.ne_of_lt hs)]; exact n1
  have v2 : W2.frozen? ⟨w.heap.size, 2, none⟩ = false := by rw [f2 _ _ (by omega), World.frozen?_alloc_old _ _ ⟨w.heap.size, 2, none⟩ (Nat.ne_of_lt hs)]; exact n2
  have v3 : W2.frozen? ⟨w.heap.size, 3, none⟩ = false := by rw [f2 _ _ (by omega), World.frozen?_alloc_old _ _ ⟨w.heap.size, 3, none⟩ (Nat.ne_of_lt hs)]; exact n3
  clear hB2 f2 z0 z1 z2 z3 n0 n1 n2 n3 k1
  have Hw := hide (show IntKind.i64.wrap (day - st) = day - st from by rw [IntKind.wrap_i64]; omega)
  have Hs2 := hide (Since.of_below (S := From (w.heap.size + 1)) hb2)
  go_wp2_with fail
  go_cut [10, 11] from 30 (fun s10 s11 wc => ∃ m d : Int, s10 = .int .i64 m ∧ s11 = .int .i64 d ∧ Hid (Alm.IsDate c day y m d ∧ Below W2.heap.size W2 wc))
  case first =>
    go_region_with (first | (go_at_fn g3; refine (k2.out _ (Hs2.out.trans (by repeat (first | exact Since.refl _ _ | refine Since.drewN ?_ _)))).mono ?_; rintro e w' ⟨rfl, q, rfl⟩) | (go_at_call 96; rw [Hw.out]; refine (k3.out _ (Hs2.out.trans (by repeat (first | exact Since.refl _ _ | refine Since.drewN ?_ _)))).mono ?_; rintro e w' ⟨m, d, rfl, hd, hb3⟩; rw [Hid1.out] at hd; have hb4 : Below W2.heap.size W2 w' := (below_drewN (Below.refl _ W2) _).trans hb3; have hdm := hide (And.intro hd hb4); clear hd hb3 hb4))
    all_goals (go_wp2_with fail; go_meet)
    all_goals exact ⟨_, _, rfl, rfl, by assumption⟩
  case rest =>
    obtain ⟨m, d, rfl, rfl, hdb⟩ := hcut
    obtain ⟨hd, hb4⟩ := hdb.out
    clear hdb
    have hz2 : w.heap.size < W2.heap.size := by omega
    have y0 : wc.cell? ⟨w.heap.size, 0, none⟩ = some (.int .i64 0) := (hb4.cell (p := ⟨w.heap.size, 0, none⟩) hz2).trans x0
    have y1' : wc.cell? ⟨w.heap.size, 1, none⟩ = some (.int .i64 0) := (hb4.cell (p := ⟨w.heap.size, 1, none⟩) hz2).trans x1
    have y2' : wc.cell? ⟨w.heap.size, 2, none⟩ = some (.int .i64 0) := (hb4.cell (p := ⟨w.heap.size, 2, none⟩) hz2).trans x2
    have y3 : wc.cell? ⟨w.heap.size, 3, none⟩ = some (.int .i64 0) := (hb4.cell (p := ⟨w.heap.size, 3, none⟩) hz2).trans x3
    have u0 : wc.frozen? ⟨w.heap.size, 0, none⟩ = false := (hb4.frozen (p := ⟨w.heap.size, 0, none⟩) hz2).trans v0
    have u1 : wc.frozen? ⟨w.heap.size, 1, none⟩ = false := (hb4.frozen (p := ⟨w.heap.size, 1, none⟩) hz2).trans v1
    have u2 : wc.frozen? ⟨w.heap.size, 2, none⟩ = false := (hb4.frozen (p := ⟨w.heap.size, 2, none⟩) hz2).trans v2
    have u3 : wc.frozen? ⟨w.heap.size, 3, none⟩ = false := (hb4.frozen (p := ⟨w.heap.size, 3, none⟩) hz2).trans v3
    have hbc := hbW2.trans (hb4.mono hbW2.size)
    clear k2 k3 x0 x1 x2 x3 v0 v1 v2 v3 c0 c1 c2 c3
    go_wp2
    refine bodyPost_ret (v := .tuple #[.agg #[.int .i64 c, .int .i64 y, .int .i64 m, .int .i64 d], .nilIface]) (by simp [results, Tryz.results69, go_sem, y0, y1', y2', y3]) rfl ⟨_, _, _, rfl, hd, by omega, by omega, ?_⟩
    exact (((hbc.setCell (Nat.le_refl _) _).setCell (Nat.le_refl _) _).setCell (Nat.le_refl _) _).setCell (Nat.le_refl _) _
end Go.Proofs.YtafaacliphdndaaGreatDoor
