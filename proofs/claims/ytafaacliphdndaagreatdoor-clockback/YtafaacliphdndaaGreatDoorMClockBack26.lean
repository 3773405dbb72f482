/- The reference: the day of a date. -/
import Derived.Test.YtafaacliphdndaaGreatDoorMClockBack9
import Derived.Test.YtafaacliphdndaaGreatDoorMClockBack24
namespace Go.Proofs.YtafaacliphdndaaGreatDoor
open Go.RowKit Go.Shelf
set_option linter.unusedVariables false
set_option linter.unusedSimpArgs false

theorem yerr_zero (c y : Int) (h1 : 1 ≤ c) (h2 : c ≤ 10) (y1 : -20000 ≤ y) (y2 : y ≤ 20000) : yerr c y = 0 := by
  unfold yerr; rw [if_neg (by omega), if_neg (by omega)]
theorem yerr_ne (c y : Int) (h : c < 1 ∨ 10 < c ∨ y < -20000 ∨ 20000 < y) : yerr c y ≠ 0 := by
  unfold yerr; (repeat' split) <;> omega
theorem rlength_ok (c y m : Int) (w : World) (h1 : 1 ≤ c) (h2 : c ≤ 10) (y1 : -20000 ≤ y) (y2 : y ≤ 20000) (m1 : 1 ≤ m) (m2 : m ≤ Alm.months c y) :
    Calls Tryz.prog 52 #[.int .i64 c, .int .i64 y, .int .i64 m] w fun e w' => e = .returned (.tuple #[.int .i64 (Alm.mlen c y m), .int .i64 0]) ∧ Below w.heap.size w w' := by
  have k := fun W => year_any c y W
  rw [yerr_zero c y h1 h2 y1 y2] at k
  obtain ⟨j, rfl⟩ : ∃ j : Nat, m = (j : Int) + 1 := ⟨(m - 1).toNat, by omega⟩
  have em : Alm.months c y = (Alm.lens c y).length := rfl
  have mo := Alm.months_bd c y
  have hj : j < (Alm.lens c y).length := by omega
  have hg := mlen_get c y j hj
  have KL := hide (fun W => lens_any c y W h1 h2 (by omega) (by omega))
  go_enter Tryz.func52, Tryz.ntmps52
  go_wp2_with (go_at_call 27; refine (k _).mono ?_; rintro e w' ⟨rfl, rfl⟩)
  refine (KL.out _).mono ?_
  rintro e W ⟨b, cap, rfl, hR, hc1, hc2, hbb, hb⟩
  have hcell := hR j hj
  rw [hg] at hcell
  have n1 : ¬ ((j : Int) + 1 < 1) := by omega
  have n2 : ¬ (((Alm.lens c y).length : Int) < (j : Int) + 1) := by omega
  have n3 : (j : Int) < (Alm.lens c y).length := by omega
  have n4 : (Alm.lens c y).length ≤ 13 := by omega
  unfold maxLen at hc2
  clear hR KL k em mo hg m2
  generalize (Alm.lens c y).length = n at *
  go_wp2
  go_ret2
  exact ⟨rfl, hb⟩
theorem rlength_no (c y m : Int) (w : World) (h : c < 1 ∨ 10 < c ∨ y < -20000 ∨ 20000 < y ∨ m < 1 ∨ Alm.months c y < m) :
    Calls Tryz.prog 52 #[.int .i64 c, .int .i64 y, .int .i64 m] w fun e w' => e = .returned (.tuple #[.int .i64 0, .int .i64 (merr c y m)]) ∧ Below w.heap.size w w' := by
  by_cases hc : c < 1 ∨ 10 < c ∨ y < -20000 ∨ 20000 < y
  · have e : merr c y m = yerr c y := by unfold merr yerr; (repeat' split) <;> first | rfl | omega
    rw [e]
    have k := fun W => year_any c y W
    have hk := yerr_ne c y hc
    clear e
    generalize yerr c y = q at *
    have g : (q != 0) = true := by simpa using hk
    clear hk h hc
    go_enter Tryz.func52, Tryz.ntmps52
    go_wp2_with (go_at_call 27; refine (k _).mono ?_; rintro e w' ⟨rfl, rfl⟩)
    go_ret2
    exact ⟨rfl, Below.refl _ _⟩
  · have hm : m < 1 ∨ Alm.months c y < m := by omega
    have e : merr c y m = 3 := by unfold merr; rw [if_neg (by omega), if_neg (by omega), if_pos hm]
    rw [e]
    have k := fun W => year_any c y W
    rw [yerr_zero c y (by omega) (by omega) (by omega) (by omega)] at k
    have KL := hide (fun W => lens_any c y W (by omega) (by omega) (by omega) (by omega))
    have em : Alm.months c y = (Alm.lens c y).length := rfl
    have mo := Alm.months_bd c y
    rw [em] at hm mo
    have hm' : m < 1 ∨ (1 ≤ m ∧ ((Alm.lens c y).length : Int) < m) := by omega
    clear h hc e em hm
    rcases hm' with hm | ⟨hm0, hm⟩
    all_goals
      go_enter Tryz.func52, Tryz.ntmps52
      go_wp2_with (go_at_call 27; refine (k _).mono ?_; rintro e w' ⟨rfl, rfl⟩)
      refine (KL.out _).mono ?_
      rintro e W ⟨b, cap, rfl, hR, hc1, hc2, hbb, hb⟩
      unfold maxLen at hc2
      clear hR KL k
      generalize (Alm.lens c y).length = n at *
      go_wp2
      go_ret2
      exact ⟨rfl, hb⟩
end Go.Proofs.YtafaacliphdndaaGreatDoor
namespace Go.Proofs.YtafaacliphdndaaGreatDoor
open Go.RowKit Go.Shelf
set_option linter.unusedVariables false
set_option linter.unusedSimpArgs false

theorem rthere_any (n : Int) (w : World) (v e : Int) (h : (-4000000 ≤ n ∧ n ≤ 4000000 ∧ v = n ∧ e = 0) ∨ ((n < -4000000 ∨ 4000000 < n) ∧ v = 0 ∧ e = 4)) :
    Calls Tryz.prog 30 #[.int .i64 n] w fun r w' => r = .returned (.tuple #[.int .i64 v, .int .i64 e]) ∧ w' = w := by
  rcases h with ⟨a, b, rfl, rfl⟩ | ⟨a, rfl, rfl⟩
  · exact there_ok v w a b
  · exact there_no n w a
set_option maxHeartbeats 1600000 in
theorem rday_steps (c y m d v e : Int) (w : World) (h1 : 1 ≤ c) (h2 : c ≤ 10) (y1 : -20000 ≤ y) (y2 : y ≤ 20000) (m1 : 1 ≤ m) (m2 : m ≤ Alm.months c y) (d1 : 1 ≤ d) (d2 : d ≤ Alm.mlen c y m)
    (h : (-4000000 ≤ dnum c y m d ∧ dnum c y m d ≤ 4000000 ∧ v = dnum c y m d ∧ e = 0) ∨ ((dnum c y m d < -4000000 ∨ 4000000 < dnum c y m d) ∧ v = 0 ∧ e = 4)) :
    Calls Tryz.prog 29 #[.agg #[.int .i64 c, .int .i64 y, .int .i64 m, .int .i64 d]] w fun r w' => r = .returned (.tuple #[.int .i64 v, .int .i64 e]) ∧ Below w.heap.size w w' := by
  have KT := hide (fun W => rthere_any (dnum c y m d) W v e h)
  have KL := hide (fun W => rlength_ok c y m W h1 h2 y1 y2 m1 m2)
  have KS := hide (fun W => ystart_any c y W h1 h2 (by omega) (by omega))
  have KM := hide (fun W => lens_any c y W h1 h2 (by omega) (by omega))
  have sb := Alm.start_bd c y h1 h2 (by omega) (by omega)
  have ml := Alm.mlen_bd c y m m1 m2
  have n1 : ¬ (d < 1) := by omega
  have n2 : ¬ (Alm.mlen c y m < d) := by omega
  have ed := hide (show dnum c y m d = Alm.start c y + d - 1 + Alm.cum c y (m - 1).toNat from rfl)
  clear h
  generalize dnum c y m d = N at *
  generalize Alm.mlen c y m = l at *
  go_enter Tryz.func29, Tryz.ntmps29
  go_wp2_with fail
  refine (KL.out _).mono ?_
  rintro r W ⟨rfl, hb⟩
  have q0 : ∀ j, W.cell? ⟨w.heap.size, j, none⟩ = (w.alloc (.cells #[.int .i64 c, .int .i64 y, .int .i64 m, .int .i64 d] 55)).cell? ⟨w.heap.size, j, none⟩ := fun j => hb.cell (p := ⟨w.heap.size, j, none⟩) (by simp)
  have e0 : W.cell? ⟨w.heap.size, 0, none⟩ = some (.int .i64 c) := by rw [q0]; simp
  have e1 : W.cell? ⟨w.heap.size, 1, none⟩ = some (.int .i64 y) := by rw [q0]; simp
  have e2 : W.cell? ⟨w.heap.size, 2, none⟩ = some (.int .i64 m) := by rw [q0]; simp
  have e3 : W.cell? ⟨w.heap.size, 3, none⟩ = some (.int .i64 d) := by rw [q0]; simp
  have hs : w.heap.size < W.heap.size := by have := hb.size; simp at this; omega
  have hb0 : Below w.heap.size w W := ((Below.refl _ w).alloc (Nat.le_refl _) _).trans (hb.mono (by simp))
  clear q0 hb KL
  go_wp2_with fail
  have hs0 := hs
  go_region_held3 (fun W' => W'.cell? ⟨w.heap.size, 0, none⟩ = some (.int .i64 c) ∧ W'.cell? ⟨w.heap.size, 1, none⟩ = some (.int .i64 y) ∧ W'.cell? ⟨w.heap.size, 2, none⟩ = some (.int .i64 m) ∧ W'.cell? ⟨w.heap.size, 3, none⟩ = some (.int .i64 d) ∧ w.heap.size < W'.heap.size ∧ Below w.heap.size w W')
    (first | (refine ⟨e0, e1, e2, e3, hs, Below.drew hb0⟩) | (go_split_ands; refine ⟨?_, ?_, ?_, ?_, ?_, ?_⟩ <;> first | (refine (hb2.cell ?_).trans ?_ <;> assumption) | exact Nat.lt_of_lt_of_le (by assumption) hb2.size | exact (by assumption : Below _ _ _).trans (hb2.mono (Nat.le_of_lt (by assumption)))))
    ((go_at_call 53; refine (KS.out _).mono ?_; rintro r W2 ⟨rfl, hb2⟩))
  have hs2 : w.heap.size < W2.heap.size := Nat.lt_of_lt_of_le hs hb2.size
  have f0 : W2.cell? ⟨w.heap.size, 0, none⟩ = some (.int .i64 c) := (hb2.cell (p := ⟨w.heap.size, 0, none⟩) hs).trans e0
  have f1 : W2.cell? ⟨w.heap.size, 1, none⟩ = some (.int .i64 y) := (hb2.cell (p := ⟨w.heap.size, 1, none⟩) hs).trans e1
  have f2 : W2.cell? ⟨w.heap.size, 2, none⟩ = some (.int .i64 m) := (hb2.cell (p := ⟨w.heap.size, 2, none⟩) hs).trans e2
  have hB2 : Below w.heap.size w W2 := hb0.drew.trans (hb2.mono (Nat.le_of_lt hs))
  clear e0 e1 e2 e3 hb2 KS hb0
  go_wp2_with fail
  refine (KM.out _).mono ?_
  rintro r W3 ⟨b, cap, rfl, hR, hc1, hc2, hbb, hb3⟩
  have g2 : W3.cell? ⟨w.heap.size, 2, none⟩ = some (.int .i64 m) := (hb3.cell (p := ⟨w.heap.size, 2, none⟩) hs2).trans f2
  have hB3 : Below w.heap.size w W3 := hB2.trans (hb3.mono (Nat.le_of_lt hs2))
  have hcell : ∀ k, k < (Alm.lens c y).length → W3.cell? ⟨b, k, none⟩ = some (.int .i64 (Alm.mlen c y (k + 1))) := fun k hk => by rw [hR k hk, mlen_get c y k hk]
  have hmo := Alm.months_bd c y
  have hcs := fun k hk => Alm.cum_succ c y k hk
  have hcb := fun k hk => Alm.cum_bd c y k hk
  have hml := fun k hk1 hk2 => Alm.mlen_bd c y k hk1 hk2
  have em : Alm.months c y = (Alm.lens c y).length := rfl
  rw [em] at hmo hcs hcb hml m2
  clear hR em f0 f1 f2 KM
  generalize (Alm.lens c y).length = n at *
  have HC := hide hcell
  have HS := hide hcs
  clear hcell hcs
  unfold maxLen at hc2
  go_wp2_with fail
  go_loop [6, 8] (fun s i => ∃ k : Nat, (k : Int) + 1 ≤ m ∧ i = .int .i64 (k + 1) ∧ s = .int .i64 (Alm.start c y + d - 1 + Alm.cum c y k)) (fun _ i => (13 - intOf i).toNat)
  case atStart => exact ⟨0, by omega, rfl, by simp [Alm.cum]; rw [show IntKind.i64.wrap (Alm.start c y + d) = Alm.start c y + d from by rw [IntKind.wrap_i64]; omega, IntKind.wrap_i64]; omega⟩
  case round =>
    obtain ⟨k, hk, rfl, rfl⟩ := hrel
    have b1 := hcb k (by omega)
    by_cases hlt : (k : Int) + 1 < m
    · have hk1 := HC.out k (by omega)
      have b2 := hml (k + 1) (by omega) (by omega)
      have HE := hide (HS.out k (by omega))
      clear hcb hml
      generalize Alm.mlen c y (k + 1) = mm at *
      generalize Alm.cum c y k = cu at *
      go_wp2
      go_round
      case rel => exact ⟨k + 1, by omega, by simp, by rw [HE.out, Int.add_assoc]⟩
      case measure => simp [intOf]; omega
    · have ek : (m - 1).toNat = k := by omega
      have hN : N = Alm.start c y + d - 1 + Alm.cum c y k := by rw [ed.out, ek]
      rw [← hN] at *
      clear hcb hml ek hN b1
      go_wp2_with fail
      refine (KT.out _).mono ?_
      rintro r w' ⟨rfl, rfl⟩
      go_wp2
      go_ret2
      exact ⟨rfl, hB3⟩
/-- ref.Day where the year or the month is wrong, or the day -/
theorem rday_bad (c y m d k l q : Int) (w : World) (hq : q ≠ 0) (h : (k = q ∧ l = 0) ∨ (k = 0 ∧ q = 3 ∧ (d < 1 ∨ (1 ≤ d ∧ l < d))))
    (kl : ∀ W, Calls Tryz.prog 52 #[.int .i64 c, .int .i64 y, .int .i64 m] W fun r w' => r = .returned (.tuple #[.int .i64 l, .int .i64 k]) ∧ Below W.heap.size W w') :
    Calls Tryz.prog 29 #[.agg #[.int .i64 c, .int .i64 y, .int .i64 m, .int .i64 d]] w fun r w' => r = .returned (.tuple #[.int .i64 0, .int .i64 q]) ∧ Below w.heap.size w w' := by
  have KL := hide kl
  clear kl
  have hh : (k = q ∧ l = 0) ∨ (k = 0 ∧ q = 3 ∧ d < 1) ∨ (k = 0 ∧ q = 3 ∧ (1 ≤ d ∧ l < d)) := by omega
  clear h
  rcases hh with ⟨rfl, rfl⟩ | ⟨rfl, rfl, h⟩ | ⟨rfl, rfl, hd, h⟩
  · have g1 : (k == 0) = false := beq_eq_false_iff_ne.2 hq
    have g2 : (k != 0) = true := by simpa using hq
    clear hq
    go_enter Tryz.func29, Tryz.ntmps29
    go_wp2_with fail
    refine (KL.out _).mono ?_
    rintro r W ⟨rfl, hb⟩
    have hb0 : Below w.heap.size w W := ((Below.refl _ w).alloc (Nat.le_refl _) _).trans (hb.mono (by simp))
    clear hb KL
    go_wp2
    go_ret2
    exact ⟨rfl, hb0⟩
  all_goals
    go_enter Tryz.func29, Tryz.ntmps29
    go_wp2_with fail
    refine (KL.out _).mono ?_
    rintro r W ⟨rfl, hb⟩
    have e3 : W.cell? ⟨w.heap.size, 3, none⟩ = some (.int .i64 d) := by rw [hb.cell (p := ⟨w.heap.size, 3, none⟩) (by simp)]; simp
    have hb0 : Below w.heap.size w W := ((Below.refl _ w).alloc (Nat.le_refl _) _).trans (hb.mono (by simp))
    clear hb KL
    go_wp2
    go_ret2
    exact ⟨rfl, hb0⟩
theorem rday_ok (c y m d : Int) (w : World) (h : derr c y m d = 0) :
    Calls Tryz.prog 29 #[.agg #[.int .i64 c, .int .i64 y, .int .i64 m, .int .i64 d]] w fun r w' => r = .returned (.tuple #[.int .i64 (dnum c y m d), .int .i64 0]) ∧ Below w.heap.size w w' := by
  obtain ⟨⟨h1, h2⟩, ⟨y1, y2⟩, ⟨m1, m2⟩, ⟨d1, d2⟩, ⟨n1, n2⟩⟩ := derr_zero c y m d h
  exact rday_steps c y m d _ _ w h1 h2 y1 y2 m1 m2 d1 d2 (.inl ⟨n1, n2, rfl, rfl⟩)
theorem rday_no (c y m d : Int) (w : World) (h : derr c y m d ≠ 0) :
    Calls Tryz.prog 29 #[.agg #[.int .i64 c, .int .i64 y, .int .i64 m, .int .i64 d]] w fun r w' => r = .returned (.tuple #[.int .i64 0, .int .i64 (derr c y m d)]) ∧ Below w.heap.size w w' := by
  by_cases hm : c < 1 ∨ 10 < c ∨ y < -20000 ∨ 20000 < y ∨ m < 1 ∨ Alm.months c y < m
  · have e : derr c y m d = merr c y m := by unfold derr merr; (repeat' split) <;> first | rfl | omega
    rw [e] at h ⊢
    exact rday_bad c y m d _ 0 _ w h (.inl ⟨rfl, rfl⟩) (fun W => rlength_no c y m W hm)
  · have k := fun W => rlength_ok c y m W (by omega) (by omega) (by omega) (by omega) (by omega) (by omega)
    by_cases hd : d < 1 ∨ Alm.mlen c y m < d
    · have e : derr c y m d = 3 := by unfold derr; rw [if_neg (by omega), if_neg (by omega), if_neg (by omega), if_pos hd]
      rw [e]
      exact rday_bad c y m d 0 _ 3 w (by omega) (.inr ⟨rfl, rfl, by omega⟩) k
    · have hn : dnum c y m d < -4000000 ∨ 4000000 < dnum c y m d := by
        unfold derr at h
        rw [if_neg (by omega), if_neg (by omega), if_neg (by omega), if_neg (by omega)] at h
        by_cases hz : dnum c y m d < -4000000 ∨ 4000000 < dnum c y m d
        · exact hz
        · rw [if_neg hz] at h; omega
      have e : derr c y m d = 4 := by unfold derr; rw [if_neg (by omega), if_neg (by omega), if_neg (by omega), if_neg (by omega), if_pos hn]
      rw [e]
      exact rday_steps c y m d _ _ w (by omega) (by omega) (by omega) (by omega) (by omega) (by omega) (by omega) (by omega) (.inr ⟨hn, rfl, rfl⟩)
end Go.Proofs.YtafaacliphdndaaGreatDoor
