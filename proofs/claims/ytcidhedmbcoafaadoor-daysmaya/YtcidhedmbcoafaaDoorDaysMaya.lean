/- DaysMaya: what the Maya call a day. -/
import Derived.Test.YtcidhedmbcoafaaDoorRefJ
import Derived.Deep.RegionHeld
namespace Go.Proofs.YtcidhedmbcoafaaDoor
open Go.RowKit Go.Shelf
set_option linter.unusedVariables false
set_option linter.unusedSimpArgs false

theorem least (P : Nat → Prop) (m : Nat) (h : P m) : ∃ K, K ≤ m ∧ P K ∧ ∀ k, k < K → ¬ P k := by
  have key : ∀ n : Nat, (∃ K, K < n ∧ P K ∧ ∀ k, k < K → ¬ P k) ∨ (∀ k, k < n → ¬ P k) := by
    intro n
    induction n with
    | zero => right; intro k hk; omega
    | succ n ih =>
      rcases ih with ⟨K, a, b, c⟩ | ih
      · left; exact ⟨K, by omega, b, c⟩
      · by_cases hp : P n
        · left; exact ⟨n, by omega, hp, ih⟩
        · right
          intro k hk
          by_cases e : k = n
          · subst e; exact hp
          · exact ih k (by omega)
  rcases key (m + 1) with ⟨K, a, b, c⟩ | hn
  · exact ⟨K, by omega, b, c⟩
  · exact absurd h (hn m (by omega))
set_option maxHeartbeats 800000 in
theorem pnext_gen (r0 r1 r2 r3 day n g : Int) (ev : Value) (w : World)
    (kn : ∀ W, Calls Tryd.prog 62 #[.agg #[.int .i64 r0, .int .i64 r1, .int .i64 r2, .int .i64 r3], .int .i64 day] W fun e w' => e = .returned (.tuple #[.int .i64 n, ev]) ∧ Below W.heap.size W w')
    (htl : ∀ W, Below w.heap.size w W → Calls Tryd.prog 39 #[ev] W fun e w' => e = .returned (.int .i64 g) ∧ Below W.heap.size W w') :
    Calls Tryd.prog 36 #[.agg #[.int .i64 r0, .int .i64 r1, .int .i64 r2, .int .i64 r3], .int .i64 day] w fun e w' => e = .returned (.tuple #[.int .i64 n, .int .i64 g]) ∧ Below w.heap.size w w' := by
  go_enter Tryd.func36, Tryd.ntmps36
  go_wp2_with fail
  refine (kn _).mono ?_
  rintro e W ⟨rfl, hb⟩
  have hb1 : Below w.heap.size w W := by first | exact hb | exact ((Below.refl _ w).alloc (Nat.le_refl _) _).trans (hb.mono (by simp))
  go_wp2_with fail
  refine (htl _ hb1).mono ?_
  rintro e W2 ⟨rfl, hb2⟩
  go_wp2
  go_ret2
  exact ⟨rfl, hb1.trans (hb2.mono hb1.size)⟩
set_option maxHeartbeats 800000 in
theorem next_out (r0 r1 r2 r3 day : Int) (w : World) (h : day < -1856305 ∨ 4000000 < day) :
    Calls Tryd.prog 62 #[.agg #[.int .i64 r0, .int .i64 r1, .int .i64 r2, .int .i64 r3], .int .i64 day] w fun e w' => e = .returned (.tuple #[.int .i64 0, .iface 23 (.int .i64 4)]) ∧ Below w.heap.size w w' := by
  have KC := hide (fun W => count_no day W h)
  clear h
  go_enter Tryd.func62, Tryd.ntmps62
  go_wp2_with fail
  refine (KC.out _).mono ?_
  rintro e w' ⟨rfl, rfl⟩
  go_wp2
  go_ret2
  exact ⟨rfl, (Below.refl _ w).alloc (Nat.le_refl _) _⟩
theorem next_both (r0 r1 r2 r3 day : Int) : ∃ v q : Int,
    (∀ W, Hd W → Calls Tryd.prog 36 #[.agg #[.int .i64 r0, .int .i64 r1, .int .i64 r2, .int .i64 r3], .int .i64 day] W fun e w' => e = .returned (.tuple #[.int .i64 v, .int .i64 q]) ∧ Below W.heap.size W w') ∧
    (∀ W, Calls Tryd.prog 37 #[.agg #[.int .i64 r0, .int .i64 r1, .int .i64 r2, .int .i64 r3], .int .i64 day] W fun e w' => e = .returned (.tuple #[.int .i64 v, .int .i64 q]) ∧ Below W.heap.size W w') := by
  by_cases h : day < -1856305 ∨ 4000000 < day
  · exact ⟨0, 4, fun W hW => pnext_gen _ _ _ _ day 0 4 _ W (fun W' => next_out r0 r1 r2 r3 day W' h) (fun W' hb => tell_err _ W' (hW.later hb)), fun W => rnext_out r0 r1 r2 r3 day W h⟩
  · obtain ⟨K, k1, k2, k3⟩ := least (fun k => k = 18980 ∨ 4000000 < day + k ∨ rq (day + 1856305 + k) r0 r1 r2 r3 = true) 18980 (.inl rfl)
    have a1 : ∀ k : Nat, k < K → day + k ≤ 4000000 := fun k hk => by have := k3 k hk; omega
    have a2 : ∀ k : Nat, k < K → rq (day + 1856305 + k) r0 r1 r2 r3 = false := fun k hk => by
      have := k3 k hk
      cases hq : rq (day + 1856305 + k) r0 r1 r2 r3
      · rfl
      · exact absurd (.inr (.inr hq)) this
    by_cases e1 : K = 18980
    · exact ⟨0, 12, fun W hW => pnext_gen _ _ _ _ day 0 12 _ W (fun W' => next_any r0 r1 r2 r3 day W' (by omega) (by omega) K k1 a1 a2 _ _ (.inl ⟨e1, rfl, rfl⟩)) (fun W' hb => tell_err _ W' (hW.later hb)), fun W => rnext_any r0 r1 r2 r3 day W (by omega) (by omega) K k1 a1 a2 _ _ (.inl ⟨e1, rfl, rfl⟩)⟩
    · by_cases e2 : 4000000 < day + K
      · exact ⟨0, 4, fun W hW => pnext_gen _ _ _ _ day 0 4 _ W (fun W' => next_any r0 r1 r2 r3 day W' (by omega) (by omega) K k1 a1 a2 _ _ (.inr (.inl ⟨by omega, e2, rfl, rfl⟩))) (fun W' hb => tell_err _ W' (hW.later hb)), fun W => rnext_any r0 r1 r2 r3 day W (by omega) (by omega) K k1 a1 a2 _ _ (.inr (.inl ⟨by omega, e2, rfl, rfl⟩))⟩
      · have e3 : rq (day + 1856305 + K) r0 r1 r2 r3 = true := by
          rcases k2 with k2 | k2 | k2
          · exact absurd k2 e1
          · exact absurd k2 e2
          · exact k2
        exact ⟨day + K, 0, fun W hW => pnext_gen _ _ _ _ day _ 0 _ W (fun W' => next_any r0 r1 r2 r3 day W' (by omega) (by omega) K k1 a1 a2 _ _ (.inr (.inr ⟨by omega, by omega, e3, rfl, rfl⟩))) (fun W' _ => tell_nil W'), fun W => rnext_any r0 r1 r2 r3 day W (by omega) (by omega) K k1 a1 a2 _ _ (.inr (.inr ⟨by omega, by omega, e3, rfl, rfl⟩))⟩

set_option maxRecDepth 100000 in
set_option maxHeartbeats 4000000 in
theorem dmaya_steps (day fr r0 r1 r2 r3 v0 v1 v2 v3 v4 v5 v6 v7 v8 q : Int) (near : Bool) (w : World) (hd : Hd w)
    (k1 : ∀ W, Hd W → Calls Tryd.prog 34 #[.int .i64 day] W fun e w' => e = .returned (.tuple #[.agg #[.int .i64 v0, .int .i64 v1, .int .i64 v2, .int .i64 v3, .int .i64 v4, .int .i64 v5, .int .i64 v6, .int .i64 v7, .int .i64 v8], .int .i64 q]) ∧ Below W.heap.size W w')
    (k2 : ∀ W, Calls Tryd.prog 35 #[.int .i64 day] W fun e w' => e = .returned (.tuple #[.agg #[.int .i64 v0, .int .i64 v1, .int .i64 v2, .int .i64 v3, .int .i64 v4, .int .i64 v5, .int .i64 v6, .int .i64 v7, .int .i64 v8], .int .i64 q]) ∧ Below W.heap.size W w') :
    Calls Tryd.prog 8 #[.int .i64 day, .int .i64 fr, .agg #[.int .i64 r0, .int .i64 r1, .int .i64 r2, .int .i64 r3], .bool near] w fun e w' => e = .returned (.bool true) ∧ Below w.heap.size w w' := by
  have hB0 : Below w.heap.size w (w.alloc (.cells #[.int .i64 r0, .int .i64 r1, .int .i64 r2, .int .i64 r3] 46)) := (Below.refl _ w).alloc (Nat.le_refl _) _
  have K1 := hide (k1 _ (hd.later hB0))
  have K2 := hide k2
  clear k1 k2
  go_enter Tryd.func8, Tryd.ntmps8
  go_wp2_with fail
  refine K1.out.mono ?_
  rintro e W ⟨rfl, hb⟩
  have hs : w.heap.size < W.heap.size := by have := hb.size; simp at this; omega
  have c0 : ∀ j, W.cell? ⟨w.heap.size, j, none⟩ = (w.alloc (.cells #[.int .i64 r0, .int .i64 r1, .int .i64 r2, .int .i64 r3] 46)).cell? ⟨w.heap.size, j, none⟩ := fun j => hb.cell (p := ⟨w.heap.size, j, none⟩) (by simp)
  have f0 : ∀ j, W.frozen? ⟨w.heap.size, j, none⟩ = (w.alloc (.cells #[.int .i64 r0, .int .i64 r1, .int .i64 r2, .int .i64 r3] 46)).frozen? ⟨w.heap.size, j, none⟩ := fun j => hb.frozen (p := ⟨w.heap.size, j, none⟩) (by simp)
  have hB1 := hB0.trans (hb.mono (by simp))
  clear hb K1
  go_wp2_with fail
  refine (K2.out _).mono ?_
  rintro e W2 ⟨rfl, hb2⟩
  have hs2 : W.heap.size < W2.heap.size := by have := hb2.size; simp at this; omega
  have d0 : W2.cell? ⟨w.heap.size, 0, none⟩ = some (.int .i64 r0) := by rw [hb2.cell (p := ⟨w.heap.size, 0, none⟩) (by simp; omega), World.cell?_alloc_past _ _ _ hs, c0]; simp
  have d1 : W2.cell? ⟨w.heap.size, 1, none⟩ = some (.int .i64 r1) := by rw [hb2.cell (p := ⟨w.heap.size, 1, none⟩) (by simp; omega), World.cell?_alloc_past _ _ _ hs, c0]; simp
  have d2 : W2.cell? ⟨w.heap.size, 2, none⟩ = some (.int .i64 r2) := by rw [hb2.cell (p := ⟨w.heap.size, 2, none⟩) (by simp; omega), World.cell?_alloc_past _ _ _ hs, c0]; simp
  have d3 : W2.cell? ⟨w.heap.size, 3, none⟩ = some (.int .i64 r3) := by rw [hb2.cell (p := ⟨w.heap.size, 3, none⟩) (by simp; omega), World.cell?_alloc_past _ _ _ hs, c0]; simp
  have u0 : ∀ j, W2.frozen? ⟨w.heap.size, j, none⟩ = false := fun j => by rw [hb2.frozen (p := ⟨w.heap.size, j, none⟩) (by simp; omega), World.frozen?_alloc_old _ _ ⟨w.heap.size, j, none⟩ (Nat.ne_of_lt hs), f0]; simp
  have a0 : ∀ j, W2.cell? ⟨W.heap.size, j, none⟩ = (W.alloc (.cells #[.int .i64 v0, .int .i64 v1, .int .i64 v2, .int .i64 v3, .int .i64 v4, .int .i64 v5, .int .i64 v6, .int .i64 v7, .int .i64 v8] 48)).cell? ⟨W.heap.size, j, none⟩ := fun j => hb2.cell (p := ⟨W.heap.size, j, none⟩) (by simp)
  have hB2 : Below w.heap.size w W2 := (hB1.alloc (Nat.le_of_lt hs) _).trans (hb2.mono (by simp; omega))
  clear hb2 K2 c0 f0 hB1 hB0
  have hz : w.heap.size < W2.heap.size := by omega
  cases near
  · obtain ⟨n, g, kp, kr⟩ := next_both r0 r1 r2 r3 fr
    have KP := hide kp
    have KR := hide kr
    clear kp kr
    go_wp2_with fail
    have hBX := hB2.alloc (Nat.le_of_lt hz) (.cells #[.int .i64 v0, .int .i64 v1, .int .i64 v2, .int .i64 v3, .int .i64 v4, .int .i64 v5, .int .i64 v6, .int .i64 v7, .int .i64 v8] 48)
    refine (KP.out _ (hd.later hBX)).mono ?_
    rintro e W3 ⟨rfl, hb3⟩
    have hs3 : W2.heap.size < W3.heap.size := by have := hb3.size; simp at this; omega
    have z0 : W3.cell? ⟨w.heap.size, 0, none⟩ = some (.int .i64 r0) := by rw [hb3.cell (p := ⟨w.heap.size, 0, none⟩) (by simp; omega)]; rw [World.cell?_alloc_past _ _ _ hz]; exact d0
    have z1 : W3.cell? ⟨w.heap.size, 1, none⟩ = some (.int .i64 r1) := by rw [hb3.cell (p := ⟨w.heap.size, 1, none⟩) (by simp; omega)]; rw [World.cell?_alloc_past _ _ _ hz]; exact d1
    have z2 : W3.cell? ⟨w.heap.size, 2, none⟩ = some (.int .i64 r2) := by rw [hb3.cell (p := ⟨w.heap.size, 2, none⟩) (by simp; omega)]; rw [World.cell?_alloc_past _ _ _ hz]; exact d2
    have z3 : W3.cell? ⟨w.heap.size, 3, none⟩ = some (.int .i64 r3) := by rw [hb3.cell (p := ⟨w.heap.size, 3, none⟩) (by simp; omega)]; rw [World.cell?_alloc_past _ _ _ hz]; exact d3
    have A3 : ∀ j, W3.cell? ⟨W.heap.size, j, none⟩ = (W.alloc (.cells #[.int .i64 v0, .int .i64 v1, .int .i64 v2, .int .i64 v3, .int .i64 v4, .int .i64 v5, .int .i64 v6, .int .i64 v7, .int .i64 v8] 48)).cell? ⟨W.heap.size, j, none⟩ := fun j => by rw [hb3.cell (p := ⟨W.heap.size, j, none⟩) (by simp; omega)]; rw [World.cell?_alloc_past _ _ _ hs2, a0]
    have B3 : ∀ j, W3.cell? ⟨W2.heap.size, j, none⟩ = (W2.alloc (.cells #[.int .i64 v0, .int .i64 v1, .int .i64 v2, .int .i64 v3, .int .i64 v4, .int .i64 v5, .int .i64 v6, .int .i64 v7, .int .i64 v8] 48)).cell? ⟨W2.heap.size, j, none⟩ := fun j => by rw [hb3.cell (p := ⟨W2.heap.size, j, none⟩) (by simp)]
    have hB3 := hBX.trans (hb3.mono (by simp; omega))
    clear hb3 KP
    go_wp2_with fail
    refine (KR.out _).mono ?_
    rintro e W4 ⟨rfl, hb4⟩
    have A4 : ∀ j, W4.cell? ⟨W.heap.size, j, none⟩ = (W.alloc (.cells #[.int .i64 v0, .int .i64 v1, .int .i64 v2, .int .i64 v3, .int .i64 v4, .int .i64 v5, .int .i64 v6, .int .i64 v7, .int .i64 v8] 48)).cell? ⟨W.heap.size, j, none⟩ := fun j => (hb4.cell (p := ⟨W.heap.size, j, none⟩) (Nat.lt_trans hs2 hs3)).trans (A3 j)
    have B4 : ∀ j, W4.cell? ⟨W2.heap.size, j, none⟩ = (W2.alloc (.cells #[.int .i64 v0, .int .i64 v1, .int .i64 v2, .int .i64 v3, .int .i64 v4, .int .i64 v5, .int .i64 v6, .int .i64 v7, .int .i64 v8] 48)).cell? ⟨W2.heap.size, j, none⟩ := fun j => (hb4.cell (p := ⟨W2.heap.size, j, none⟩) hs3).trans (B3 j)
    have x0 : W4.cell? ⟨W.heap.size, 0, none⟩ = some (.int .i64 v0) := by rw [A4]; simp
    have x1 : W4.cell? ⟨W.heap.size, 1, none⟩ = some (.int .i64 v1) := by rw [A4]; simp
    have x2 : W4.cell? ⟨W.heap.size, 2, none⟩ = some (.int .i64 v2) := by rw [A4]; simp
    have x3 : W4.cell? ⟨W.heap.size, 3, none⟩ = some (.int .i64 v3) := by rw [A4]; simp
    have x4 : W4.cell? ⟨W.heap.size, 4, none⟩ = some (.int .i64 v4) := by rw [A4]; simp
    have x5 : W4.cell? ⟨W.heap.size, 5, none⟩ = some (.int .i64 v5) := by rw [A4]; simp
    have x6 : W4.cell? ⟨W.heap.size, 6, none⟩ = some (.int .i64 v6) := by rw [A4]; simp
    have x7 : W4.cell? ⟨W.heap.size, 7, none⟩ = some (.int .i64 v7) := by rw [A4]; simp
    have x8 : W4.cell? ⟨W.heap.size, 8, none⟩ = some (.int .i64 v8) := by rw [A4]; simp
    have y0 : W4.cell? ⟨W2.heap.size, 0, none⟩ = some (.int .i64 v0) := by rw [B4]; simp
    have y1 : W4.cell? ⟨W2.heap.size, 1, none⟩ = some (.int .i64 v1) := by rw [B4]; simp
    have y2 : W4.cell? ⟨W2.heap.size, 2, none⟩ = some (.int .i64 v2) := by rw [B4]; simp
    have y3 : W4.cell? ⟨W2.heap.size, 3, none⟩ = some (.int .i64 v3) := by rw [B4]; simp
    have y4 : W4.cell? ⟨W2.heap.size, 4, none⟩ = some (.int .i64 v4) := by rw [B4]; simp
    have y5 : W4.cell? ⟨W2.heap.size, 5, none⟩ = some (.int .i64 v5) := by rw [B4]; simp
    have y6 : W4.cell? ⟨W2.heap.size, 6, none⟩ = some (.int .i64 v6) := by rw [B4]; simp
    have y7 : W4.cell? ⟨W2.heap.size, 7, none⟩ = some (.int .i64 v7) := by rw [B4]; simp
    have y8 : W4.cell? ⟨W2.heap.size, 8, none⟩ = some (.int .i64 v8) := by rw [B4]; simp
    have hB4 := hB3.trans (hb4.mono hB3.size)
    clear A3 B3 A4 B4 a0 d0 d1 d2 d3 u0 KR hb4 hB3 hBX z0 z1 z2 z3
    go_wp2
    go_ret
    exact ⟨rfl, hB4⟩
  · obtain ⟨n, g, kp, kr⟩ := next_both v5 v6 v7 v8 fr
    have KP := hide kp
    have KR := hide kr
    clear kp kr
    go_wp2_with fail
    obtain ⟨Y, hY⟩ : ∃ Y : World, Y = (((W2.setCell ⟨w.heap.size, 0, none⟩ (.int .i64 v5)).setCell ⟨w.heap.size, 1, none⟩ (.int .i64 v6)).setCell ⟨w.heap.size, 2, none⟩ (.int .i64 v7)).setCell ⟨w.heap.size, 3, none⟩ (.int .i64 v8) := ⟨_, rfl⟩
    rw [← hY]
    have hYs : Y.heap.size = W2.heap.size := by rw [hY]; simp [World.setCell]
    have q0 : Y.cell? ⟨w.heap.size, 0, none⟩ = some (.int .i64 v5) := by rw [hY]; simp [go_sem, d0, d1, d2, d3]
    have q1 : Y.cell? ⟨w.heap.size, 1, none⟩ = some (.int .i64 v6) := by rw [hY]; simp [go_sem, d0, d1, d2, d3]
    have q2 : Y.cell? ⟨w.heap.size, 2, none⟩ = some (.int .i64 v7) := by rw [hY]; simp [go_sem, d0, d1, d2, d3]
    have q3 : Y.cell? ⟨w.heap.size, 3, none⟩ = some (.int .i64 v8) := by rw [hY]; simp [go_sem, d0, d1, d2, d3]
    have aY : ∀ j, Y.cell? ⟨W.heap.size, j, none⟩ = (W.alloc (.cells #[.int .i64 v0, .int .i64 v1, .int .i64 v2, .int .i64 v3, .int .i64 v4, .int .i64 v5, .int .i64 v6, .int .i64 v7, .int .i64 v8] 48)).cell? ⟨W.heap.size, j, none⟩ := fun j => by
      rw [hY, World.cell?_setCell_far _ _ _ _ (by simp; omega), World.cell?_setCell_far _ _ _ _ (by simp; omega), World.cell?_setCell_far _ _ _ _ (by simp; omega), World.cell?_setCell_far _ _ _ _ (by simp; omega), a0]
    have hBY : Below w.heap.size w Y := by rw [hY]; exact (((hB2.setCell (Nat.le_refl _) _).setCell (Nat.le_refl _) _).setCell (Nat.le_refl _) _).setCell (Nat.le_refl _) _
    clear hY a0 d0 d1 d2 d3 u0
    have hBX := hBY.alloc (by omega) (.cells #[.int .i64 v0, .int .i64 v1, .int .i64 v2, .int .i64 v3, .int .i64 v4, .int .i64 v5, .int .i64 v6, .int .i64 v7, .int .i64 v8] 48)
    refine (KP.out _ (hd.later hBX)).mono ?_
    rintro e W3 ⟨rfl, hb3⟩
    have hs3 : W2.heap.size < W3.heap.size := by have := hb3.size; simp at this; omega
    have z0 : W3.cell? ⟨w.heap.size, 0, none⟩ = some (.int .i64 v5) := by rw [hb3.cell (p := ⟨w.heap.size, 0, none⟩) (by simp; omega), World.cell?_alloc_past _ _ _ (by omega)]; exact q0
    have z1 : W3.cell? ⟨w.heap.size, 1, none⟩ = some (.int .i64 v6) := by rw [hb3.cell (p := ⟨w.heap.size, 1, none⟩) (by simp; omega), World.cell?_alloc_past _ _ _ (by omega)]; exact q1
    have z2 : W3.cell? ⟨w.heap.size, 2, none⟩ = some (.int .i64 v7) := by rw [hb3.cell (p := ⟨w.heap.size, 2, none⟩) (by simp; omega), World.cell?_alloc_past _ _ _ (by omega)]; exact q2
    have z3 : W3.cell? ⟨w.heap.size, 3, none⟩ = some (.int .i64 v8) := by rw [hb3.cell (p := ⟨w.heap.size, 3, none⟩) (by simp; omega), World.cell?_alloc_past _ _ _ (by omega)]; exact q3
    have A3 : ∀ j, W3.cell? ⟨W.heap.size, j, none⟩ = (W.alloc (.cells #[.int .i64 v0, .int .i64 v1, .int .i64 v2, .int .i64 v3, .int .i64 v4, .int .i64 v5, .int .i64 v6, .int .i64 v7, .int .i64 v8] 48)).cell? ⟨W.heap.size, j, none⟩ := fun j => by rw [hb3.cell (p := ⟨W.heap.size, j, none⟩) (by simp; omega), World.cell?_alloc_past _ _ _ (by omega), aY]
    have B3 : ∀ j, W3.cell? ⟨W2.heap.size, j, none⟩ = (Y.alloc (.cells #[.int .i64 v0, .int .i64 v1, .int .i64 v2, .int .i64 v3, .int .i64 v4, .int .i64 v5, .int .i64 v6, .int .i64 v7, .int .i64 v8] 48)).cell? ⟨W2.heap.size, j, none⟩ := fun j => by rw [hb3.cell (p := ⟨W2.heap.size, j, none⟩) (by simp; omega)]
    have hB3 := hBX.trans (hb3.mono (by simp; omega))
    clear hb3 KP
    go_wp2_with fail
    refine (KR.out _).mono ?_
    rintro e W4 ⟨rfl, hb4⟩
    have A4 : ∀ j, W4.cell? ⟨W.heap.size, j, none⟩ = (W.alloc (.cells #[.int .i64 v0, .int .i64 v1, .int .i64 v2, .int .i64 v3, .int .i64 v4, .int .i64 v5, .int .i64 v6, .int .i64 v7, .int .i64 v8] 48)).cell? ⟨W.heap.size, j, none⟩ := fun j => (hb4.cell (p := ⟨W.heap.size, j, none⟩) (Nat.lt_trans hs2 hs3)).trans (A3 j)
    have B4 : ∀ j, W4.cell? ⟨W2.heap.size, j, none⟩ = (Y.alloc (.cells #[.int .i64 v0, .int .i64 v1, .int .i64 v2, .int .i64 v3, .int .i64 v4, .int .i64 v5, .int .i64 v6, .int .i64 v7, .int .i64 v8] 48)).cell? ⟨W2.heap.size, j, none⟩ := fun j => (hb4.cell (p := ⟨W2.heap.size, j, none⟩) hs3).trans (B3 j)
    have x0 : W4.cell? ⟨W.heap.size, 0, none⟩ = some (.int .i64 v0) := by rw [A4]; simp
    have x1 : W4.cell? ⟨W.heap.size, 1, none⟩ = some (.int .i64 v1) := by rw [A4]; simp
    have x2 : W4.cell? ⟨W.heap.size, 2, none⟩ = some (.int .i64 v2) := by rw [A4]; simp
    have x3 : W4.cell? ⟨W.heap.size, 3, none⟩ = some (.int .i64 v3) := by rw [A4]; simp
    have x4 : W4.cell? ⟨W.heap.size, 4, none⟩ = some (.int .i64 v4) := by rw [A4]; simp
    have x5 : W4.cell? ⟨W.heap.size, 5, none⟩ = some (.int .i64 v5) := by rw [A4]; simp
    have x6 : W4.cell? ⟨W.heap.size, 6, none⟩ = some (.int .i64 v6) := by rw [A4]; simp
    have x7 : W4.cell? ⟨W.heap.size, 7, none⟩ = some (.int .i64 v7) := by rw [A4]; simp
    have x8 : W4.cell? ⟨W.heap.size, 8, none⟩ = some (.int .i64 v8) := by rw [A4]; simp
    have y0 : W4.cell? ⟨W2.heap.size, 0, none⟩ = some (.int .i64 v0) := by rw [B4, World.cell?_alloc_at _ _ _ _ hYs.symm]; simp
    have y1 : W4.cell? ⟨W2.heap.size, 1, none⟩ = some (.int .i64 v1) := by rw [B4, World.cell?_alloc_at _ _ _ _ hYs.symm]; simp
    have y2 : W4.cell? ⟨W2.heap.size, 2, none⟩ = some (.int .i64 v2) := by rw [B4, World.cell?_alloc_at _ _ _ _ hYs.symm]; simp
    have y3 : W4.cell? ⟨W2.heap.size, 3, none⟩ = some (.int .i64 v3) := by rw [B4, World.cell?_alloc_at _ _ _ _ hYs.symm]; simp
    have y4 : W4.cell? ⟨W2.heap.size, 4, none⟩ = some (.int .i64 v4) := by rw [B4, World.cell?_alloc_at _ _ _ _ hYs.symm]; simp
    have y5 : W4.cell? ⟨W2.heap.size, 5, none⟩ = some (.int .i64 v5) := by rw [B4, World.cell?_alloc_at _ _ _ _ hYs.symm]; simp
    have y6 : W4.cell? ⟨W2.heap.size, 6, none⟩ = some (.int .i64 v6) := by rw [B4, World.cell?_alloc_at _ _ _ _ hYs.symm]; simp
    have y7 : W4.cell? ⟨W2.heap.size, 7, none⟩ = some (.int .i64 v7) := by rw [B4, World.cell?_alloc_at _ _ _ _ hYs.symm]; simp
    have y8 : W4.cell? ⟨W2.heap.size, 8, none⟩ = some (.int .i64 v8) := by rw [B4, World.cell?_alloc_at _ _ _ _ hYs.symm]; simp
    have hB4 := hB3.trans (hb4.mono hB3.size)
    clear A3 B3 A4 B4 aY KR hb4 hB3 hBX z0 z1 z2 z3 q0 q1 q2 q3
    go_wp2
    go_ret
    exact ⟨rfl, hB4⟩
theorem dmaya_walk (day fr r0 r1 r2 r3 : Int) (near : Bool) (w : World) (hd : Hd w) :
    Calls Tryd.prog 8 #[.int .i64 day, .int .i64 fr, .agg #[.int .i64 r0, .int .i64 r1, .int .i64 r2, .int .i64 r3], .bool near] w fun e w' => e = .returned (.bool true) ∧ Below w.heap.size w w' := by
  by_cases h : day < -1856305 ∨ 4000000 < day
  · exact dmaya_steps day fr r0 r1 r2 r3 _ _ _ _ _ _ _ _ _ _ near w hd (fun W hW => pmaya_no day W hW h) (fun W => rmaya_no day W h)
  · exact dmaya_steps day fr r0 r1 r2 r3 _ _ _ _ _ _ _ _ _ _ near w hd (fun W _ => pmaya_ok day W (by omega) (by omega)) (fun W => rmaya_ok day W (by omega) (by omega))
end Go.Proofs.YtcidhedmbcoafaaDoor
