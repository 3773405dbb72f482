/- days.Day by its contracts. -/
import Derived.Test.YtafaacliphdndaaGreatDoorMClockTexts28
namespace Go.Proofs.YtafaacliphdndaaGreatDoor
open Go.RowKit Go.Shelf

/-- the number of a date -/
def dnum (c y m d : Int) : Int := Alm.start c y + d - 1 + Alm.cum c y (m - 1).toNat
/-- what is wrong with a date: 0, if nothing is -/
def derr (c y m d : Int) : Int :=
  if c < 1 ∨ 10 < c then 2 else if y < -20000 ∨ 20000 < y then 4 else if m < 1 ∨ Alm.months c y < m then 3 else if d < 1 ∨ Alm.mlen c y m < d then 3 else if dnum c y m d < -4000000 ∨ 4000000 < dnum c y m d then 4 else 0
theorem derr_zero (c y m d : Int) (h : derr c y m d = 0) : (1 ≤ c ∧ c ≤ 10) ∧ (-20000 ≤ y ∧ y ≤ 20000) ∧ (1 ≤ m ∧ m ≤ Alm.months c y) ∧ (1 ≤ d ∧ d ≤ Alm.mlen c y m) ∧ (-4000000 ≤ dnum c y m d ∧ dnum c y m d ≤ 4000000) := by
  unfold derr at h
  (repeat' split at h) <;> first | omega | simp at h

theorem day_any' (g0 : Nat) (l0 : Array Value) (g1 : Nat) (l1 : Array Value) (g2 : Nat) (l2 : Array Value) (g3 : Nat) (l3 : Array Value) (c y m d : Int) (S : Nat → Prop) (w : World) (hc : IsCal (fv g0 l0) (fv g1 l1) (fv g2 l2) (fv g3 l3) c S w) (h1 : 1 ≤ c) (h2 : c ≤ 10) (y1 : -40000 ≤ y) (y2 : y ≤ 40000) (m1 : 1 ≤ m) (m2 : m ≤ Alm.months c y) (d1 : 0 ≤ d) (d2 : d ≤ 100) :
    Calls Tryz.prog 100 #[.agg #[fv g0 l0, fv g1 l1, fv g2 l2, fv g3 l3], .int .i64 y, .int .i64 m, .int .i64 d] w fun e w' => e = .returned (.int .i64 (dnum c y m d)) ∧ Below w.heap.size w w' :=
  day_any g0 l0 g1 l1 g2 l2 g3 l3 c y m d S w hc h1 h2 y1 y2 m1 m2 d1 d2

set_option maxHeartbeats 1000000 in
theorem day_steps (c y m d : Int) (w : World) (h1 : 1 ≤ c) (h2 : c ≤ 10) (y1 : -20000 ≤ y) (y2 : y ≤ 20000) (m1 : 1 ≤ m) (m2 : m ≤ Alm.months c y) (d1 : 1 ≤ d) (d2 : d ≤ Alm.mlen c y m) (v1 v2 : Value)
    (hth : ∀ W, Calls Tryz.prog 99 #[.int .i64 (dnum c y m d)] W fun e w' => e = .returned (.tuple #[v1, v2]) ∧ w' = W) :
    Calls Tryz.prog 71 #[.agg #[.int .i64 c, .int .i64 y, .int .i64 m, .int .i64 d]] w fun e w' => e = .returned (.tuple #[v1, v2]) ∧ Below w.heap.size w w' := by
  have ml := Alm.mlen_bd c y m m1 m2
  go_enter Tryz.func71, Tryz.ntmps71
  go_wp2_with fail
  refine (withYear_ok c y _ h1 h2 y1 y2).mono ?_
  rintro e W ⟨g0, l0, g1, l1, g2, l2, g3, l3, rfl, hc, hb⟩
  have hB := hc.later ((Since.refl _ W).alloc (.cells #[fv g0 l0, fv g1 l1, fv g2 l2, fv g3 l3] 148))
  have k1 := hide (lengthOf_ok g0 l0 g1 l1 g2 l2 g3 l3 c y m _ _ hB (by omega) (by omega) m1 m2)
  have k2 := hide (fun X h => day_any' g0 l0 g1 l1 g2 l2 g3 l3 c y m d _ X (hB.later h) h1 h2 (by omega) (by omega) m1 m2 (by omega) (by omega))
  have hs : w.heap.size < W.heap.size := by have := hb.size; simp at this; omega
  have q0 : ∀ j, W.cell? ⟨w.heap.size, j, none⟩ = (w.alloc (.cells #[.int .i64 c, .int .i64 y, .int .i64 m, .int .i64 d] 55)).cell? ⟨w.heap.size, j, none⟩ := fun j => hb.cell (p := ⟨w.heap.size, j, none⟩) (by simp)
  have e1 : W.cell? ⟨w.heap.size, 1, none⟩ = some (.int .i64 y) := by rw [q0]; simp
  have e2 : W.cell? ⟨w.heap.size, 2, none⟩ = some (.int .i64 m) := by rw [q0]; simp
  have e3 : W.cell? ⟨w.heap.size, 3, none⟩ = some (.int .i64 d) := by rw [q0]; simp
  clear hc hB q0 m2
  go_wp2_with fail
  refine k1.out.mono ?_
  rintro e W2 ⟨rfl, hb2⟩
  have hW2 : ∀ k o, k < W.heap.size + 1 → W2.cell? ⟨k, o, none⟩ = (W.alloc (.cells #[fv g0 l0, fv g1 l1, fv g2 l2, fv g3 l3] 148)).cell? ⟨k, o, none⟩ := fun k o h => hb2.cell (p := ⟨k, o, none⟩) (by simpa using h)
  have x1 : W2.cell? ⟨w.heap.size, 1, none⟩ = some (.int .i64 y) := by rw [hW2 _ _ (by omega), World.cell?_alloc_past _ _ _ hs]; exact e1
  have x2 : W2.cell? ⟨w.heap.size, 2, none⟩ = some (.int .i64 m) := by rw [hW2 _ _ (by omega), World.cell?_alloc_past _ _ _ hs]; exact e2
  have x3 : W2.cell? ⟨w.heap.size, 3, none⟩ = some (.int .i64 d) := by rw [hW2 _ _ (by omega), World.cell?_alloc_past _ _ _ hs]; exact e3
  have c0 : W2.cell? ⟨W.heap.size, 0, none⟩ = some (fv g0 l0) := by rw [hW2 _ _ (by omega)]; simp
  have c1 : W2.cell? ⟨W.heap.size, 1, none⟩ = some (fv g1 l1) := by rw [hW2 _ _ (by omega)]; simp
  have c2 : W2.cell? ⟨W.heap.size, 2, none⟩ = some (fv g2 l2) := by rw [hW2 _ _ (by omega)]; simp
  have c3 : W2.cell? ⟨W.heap.size, 3, none⟩ = some (fv g3 l3) := by rw [hW2 _ _ (by omega)]; simp
  have hbW : Below w.heap.size w W2 := (((Below.refl _ w).alloc (Nat.le_refl _) _).trans (hb.mono (by simp))).alloc (by omega) _ |>.trans (hb2.mono (by simp; omega))
  clear hW2 e1 e2 e3 k1
  go_wp2_with fail
  refine (k2.out W2 (Since.of_below hb2)).mono ?_
  rintro e W3 ⟨rfl, hb3⟩
  clear k2 x1 x2 x3 c0 c1 c2 c3
  go_wp2_with (go_at_call 99; refine (hth _).mono ?_; rintro e w' ⟨rfl, rfl⟩)
  go_ret2
  exact ⟨rfl, hbW.trans (hb3.mono hbW.size)⟩

theorem day_ok (c y m d : Int) (w : World) (h : derr c y m d = 0) :
    Calls Tryz.prog 71 #[.agg #[.int .i64 c, .int .i64 y, .int .i64 m, .int .i64 d]] w fun e w' => e = .returned (.tuple #[.int .i64 (dnum c y m d), .nilIface]) ∧ Below w.heap.size w w' := by
  obtain ⟨⟨h1, h2⟩, ⟨y1, y2⟩, ⟨m1, m2⟩, ⟨d1, d2⟩, ⟨n1, n2⟩⟩ := derr_zero c y m d h
  exact day_steps c y m d w h1 h2 y1 y2 m1 m2 d1 d2 _ _ (fun W => ifThere_ok _ W n1 n2)
set_option maxHeartbeats 2000000 in
theorem day_no (c y m d : Int) (w : World) (h : derr c y m d ≠ 0) :
    Calls Tryz.prog 71 #[.agg #[.int .i64 c, .int .i64 y, .int .i64 m, .int .i64 d]] w fun e w' => e = .returned (.tuple #[.int .i64 0, .iface 25 (.int .i64 (derr c y m d))]) ∧ Below w.heap.size w w' := by
  by_cases hy : c < 1 ∨ 10 < c ∨ y < -20000 ∨ 20000 < y
  · have e : derr c y m d = yerr c y := by unfold derr yerr; (repeat' split) <;> first | rfl | omega
    rw [e]; clear e h
    have k := withYear_no c y (w.alloc (.cells #[.int .i64 c, .int .i64 y, .int .i64 m, .int .i64 d] 55)) hy
    clear hy
    go_enter Tryz.func71, Tryz.ntmps71
    go_wp2_with fail
    refine k.mono ?_
    rintro e W ⟨rfl, hb⟩
    have hs := hb.size
    go_wp2
    go_ret2
    exact ⟨rfl, (((Below.refl _ w).alloc (Nat.le_refl _) _).trans (hb.mono (by simp))).alloc (by simp at hs; omega) _⟩
  · have hy1 : 1 ≤ c ∧ c ≤ 10 ∧ -20000 ≤ y ∧ y ≤ 20000 := by omega
    obtain ⟨h1, h2, y1, y2⟩ := hy1
    clear hy
    by_cases hm : m < 1 ∨ Alm.months c y < m
    · have e : derr c y m d = 3 := by unfold derr; rw [if_neg (by omega), if_neg (by omega), if_pos hm]
      rw [e]; clear e h
      go_enter Tryz.func71, Tryz.ntmps71
      go_wp2_with fail
      refine (withYear_ok c y _ h1 h2 y1 y2).mono ?_
      rintro e W ⟨g0, l0, g1, l1, g2, l2, g3, l3, rfl, hc, hb⟩
      have hB := hc.later ((Since.refl _ W).alloc (.cells #[fv g0 l0, fv g1 l1, fv g2 l2, fv g3 l3] 148))
      have k1 := hide (lengthOf_no g0 l0 g1 l1 g2 l2 g3 l3 c y m _ _ hB (by omega) (by omega) hm)
      have hs : w.heap.size < W.heap.size := by have := hb.size; simp at this; omega
      have q0 : ∀ j, W.cell? ⟨w.heap.size, j, none⟩ = (w.alloc (.cells #[.int .i64 c, .int .i64 y, .int .i64 m, .int .i64 d] 55)).cell? ⟨w.heap.size, j, none⟩ := fun j => hb.cell (p := ⟨w.heap.size, j, none⟩) (by simp)
      have e1 : W.cell? ⟨w.heap.size, 1, none⟩ = some (.int .i64 y) := by rw [q0]; simp
      have e2 : W.cell? ⟨w.heap.size, 2, none⟩ = some (.int .i64 m) := by rw [q0]; simp
      clear hc hB q0 hm
      go_wp2_with fail
      refine k1.out.mono ?_
      rintro e W2 ⟨rfl, hb2⟩
      clear k1 e1 e2
      go_wp2
      go_ret2
      exact ⟨rfl, (((Below.refl _ w).alloc (Nat.le_refl _) _).trans (hb.mono (by simp))).alloc (by omega) _ |>.trans (hb2.mono (by simp; omega))⟩
    · have m1 : 1 ≤ m := by omega
      have m2 : m ≤ Alm.months c y := by omega
      by_cases hd : d < 1 ∨ Alm.mlen c y m < d
      · have e : derr c y m d = 3 := by unfold derr; rw [if_neg (by omega), if_neg (by omega), if_neg hm, if_pos hd]
        rw [e]; clear e h hm
        have ml := Alm.mlen_bd c y m m1 m2
        go_enter Tryz.func71, Tryz.ntmps71
        go_wp2_with fail
        refine (withYear_ok c y _ h1 h2 y1 y2).mono ?_
        rintro e W ⟨g0, l0, g1, l1, g2, l2, g3, l3, rfl, hc, hb⟩
        have hB := hc.later ((Since.refl _ W).alloc (.cells #[fv g0 l0, fv g1 l1, fv g2 l2, fv g3 l3] 148))
        have k1 := hide (lengthOf_ok g0 l0 g1 l1 g2 l2 g3 l3 c y m _ _ hB (by omega) (by omega) m1 m2)
        have hs : w.heap.size < W.heap.size := by have := hb.size; simp at this; omega
        have q0 : ∀ j, W.cell? ⟨w.heap.size, j, none⟩ = (w.alloc (.cells #[.int .i64 c, .int .i64 y, .int .i64 m, .int .i64 d] 55)).cell? ⟨w.heap.size, j, none⟩ := fun j => hb.cell (p := ⟨w.heap.size, j, none⟩) (by simp)
        have e1 : W.cell? ⟨w.heap.size, 1, none⟩ = some (.int .i64 y) := by rw [q0]; simp
        have e2 : W.cell? ⟨w.heap.size, 2, none⟩ = some (.int .i64 m) := by rw [q0]; simp
        have e3 : W.cell? ⟨w.heap.size, 3, none⟩ = some (.int .i64 d) := by rw [q0]; simp
        clear hc hB q0 m2
        go_wp2_with fail
        refine k1.out.mono ?_
        rintro e W2 ⟨rfl, hb2⟩
        have x3 : W2.cell? ⟨w.heap.size, 3, none⟩ = some (.int .i64 d) := by rw [hb2.cell (p := ⟨w.heap.size, 3, none⟩) (by simp; omega), World.cell?_alloc_past _ _ _ hs]; exact e3
        have hbW : Below w.heap.size w W2 := (((Below.refl _ w).alloc (Nat.le_refl _) _).trans (hb.mono (by simp))).alloc (by omega) _ |>.trans (hb2.mono (by simp; omega))
        clear e1 e2 e3 k1
        generalize Alm.mlen c y m = mlv at *
        rcases hd with hd | hd
        · go_wp2
          go_ret2
          exact ⟨rfl, hbW⟩
        · have hd1 : 1 ≤ d := by omega
          go_wp2
          go_ret2
          exact ⟨rfl, hbW⟩
      · have hr : dnum c y m d < -4000000 ∨ 4000000 < dnum c y m d := by
          rcases Decidable.em (dnum c y m d < -4000000 ∨ 4000000 < dnum c y m d) with hr | hr
          · exact hr
          · exfalso; apply h; unfold derr; rw [if_neg (by omega), if_neg (by omega), if_neg hm, if_neg hd, if_neg hr]
        have e : derr c y m d = 4 := by unfold derr; rw [if_neg (by omega), if_neg (by omega), if_neg hm, if_neg hd, if_pos hr]
        rw [e]
        exact day_steps c y m d w h1 h2 y1 y2 m1 m2 (by omega) (by omega) _ _ (fun W => ifThere_no _ W hr)
theorem derr_bd (c y m d : Int) : 0 ≤ derr c y m d ∧ derr c y m d ≤ 4 := by unfold derr; (repeat' split) <;> omega
end Go.Proofs.YtafaacliphdndaaGreatDoor
