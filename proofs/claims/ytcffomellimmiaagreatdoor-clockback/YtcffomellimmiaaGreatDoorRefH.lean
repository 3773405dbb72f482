/- The reference: weeks. -/
import Derived.Test.YtcffomellimmiaaGreatDoorRefG
import Derived.Test.YtcffomellimmiaaGreatDoorWeekC
namespace Go.Proofs.YtcffomellimmiaaGreatDoor
open Go.RowKit Go.Shelf
set_option linter.unusedVariables false
set_option linter.unusedSimpArgs false

/-- the day with which the first week of a year begins, where weeks begin with the weekday b -/
def wone (c y b : Int) : Int := Alm.start c y + 3 - (Alm.start c y + 3 + 4 - b) % 7
theorem wone_fmon (y : Int) : wone 1 y 1 = fmon y := by unfold wone fmon; omega
theorem wone_any (c y b : Int) (w : World) (h1 : 1 ≤ c) (h2 : c ≤ 10) (y1 : -30000 ≤ y) (y2 : y ≤ 30000) (b1 : 1 ≤ b) (b2 : b ≤ 7) :
    Calls Tryz.prog 75 #[.int .i64 c, .int .i64 y, .int .i64 b] w fun r w' => r = .returned (.int .i64 (wone c y b)) ∧ Below w.heap.size w w' := by
  have KS := hide (fun W => ystart_any c y W h1 h2 y1 y2)
  have sb := Alm.start_bd c y h1 h2 (by omega) (by omega)
  have hw := hide (show wone c y b = Alm.start c y + 3 - (Alm.start c y + 3 + 4 - b) % 7 from rfl)
  generalize wone c y b = V at *
  generalize Alm.start c y = s at *
  go_enter Tryz.func75, Tryz.ntmps75
  go_wp2_with fail
  refine (KS.out _).mono ?_
  rintro r W ⟨rfl, hb⟩
  clear KS
  go_wp2_with fail
  go_loop [7] (fun d => ∃ k : Int, 0 ≤ k ∧ k ≤ (s + 3 + 4 - b) % 7 ∧ d = .int .i64 (s + 3 - k)) (fun d => (intOf d + 50000000).toNat)
  case atStart => exact ⟨0, by omega, by omega, by simp⟩
  case round =>
    obtain ⟨k, ka, kb, rfl⟩ := hrel
    by_cases hlt : k < (s + 3 + 4 - b) % 7
    · have hne : ((s + 3 - k + 3) % 7 + 1 != b) = true := by rw [bne_iff_ne]; omega
      have hne' : ((s + 3 - k + 3) % 7 + 1 == b) = false := by rw [beq_eq_false_iff_ne]; omega
      go_wp2_with (go_at_call 113; refine (rweekday_any _ _).mono ?_; rintro e w' ⟨rfl, rfl⟩)
      go_round
      case rel => exact ⟨k + 1, by omega, by omega, by simp; omega⟩
      case measure => simp [intOf]; omega
    · have ek : s + 3 - k = V := by rw [hw.out]; omega
      have hne : (s + 3 - k + 3) % 7 + 1 = b := by omega
      rw [ek] at hne ⊢
      have hv : -50000000 ≤ V ∧ V ≤ 50000000 := by omega
      have hne2 : ((V + 3) % 7 + 1 != b) = false := by simpa using hne
      have hne3 : ((V + 3) % 7 + 1 == b) = true := by simpa using hne
      clear ek hne
      go_wp2_with (go_at_call 113; refine (rweekday_any _ _).mono ?_; rintro e w' ⟨rfl, rfl⟩)
      go_ret
      exact ⟨rfl, hb⟩
theorem fieldYear (v0 v1 v2 v3 : Int) (W : World) : (Instr.field 51 (.agg #[.int .i64 v0, .int .i64 v1, .int .i64 v2, .int .i64 v3]) 1).run Tryz.prog W = .ok (.int .i64 v1) W := by kernel_rfl
theorem fmon_mono (Y : Int) : fmon Y + 364 ≤ fmon (Y + 1) := by
  have := start1_succ Y
  unfold fmon; omega
theorem rgreg_any (day Y M D : Int) (w : World) (d1 : -4000000 ≤ day) (d2 : day ≤ 4000000) (y1 : -20000 ≤ Y) (y2 : Y ≤ 20000) (hD : Alm.IsDate 1 day Y M D) :
    Calls Tryz.prog 39 #[.int .i64 day] w fun r w' => r = .returned (.agg #[.int .i64 1, .int .i64 Y, .int .i64 M, .int .i64 D]) ∧ Below w.heap.size w w' := by
  have K := hide (fun W => rof_ok 1 day Y M D W (by omega) (by omega) d1 d2 y1 y2 hD)
  clear hD
  go_enter Tryz.func39, Tryz.ntmps39
  go_wp2_with fail
  refine (K.out _).mono ?_
  rintro r W ⟨rfl, hb⟩
  obtain ⟨⟨z0, n0⟩, ⟨z1, n1⟩, ⟨z2, n2⟩, ⟨z3, n3⟩⟩ := slotD w W hb
  have hs : w.heap.size < W.heap.size := by have := hb.size; simp at this; omega
  have hB : Below w.heap.size w W := ((Below.refl _ w).alloc (Nat.le_refl _) _).trans (hb.mono (by simp))
  clear K hb
  go_wp2
  refine bodyPost_ret (v := .agg #[.int .i64 1, .int .i64 Y, .int .i64 M, .int .i64 D]) (by simp [results, Tryz.results39, go_sem, z0, z1, z2, z3, hs]) rfl ⟨rfl, ?_⟩
  exact ((((hB.setCell (Nat.le_refl _) _).setCell (Nat.le_refl _) _).setCell (Nat.le_refl _) _).setCell (Nat.le_refl _) _).alloc (by simp [World.setCell]; omega) _

theorem rweeks_ok (y : Int) (w : World) (y1 : -20000 ≤ y) (y2 : y ≤ 20000) :
    Calls Tryz.prog 74 #[.int .i64 y] w fun r w' => r = .returned (.tuple #[.int .i64 ((fmon (y + 1) - fmon y) / 7), .int .i64 0]) ∧ Below w.heap.size w w' := by
  have k := fun W => year_any 1 y W
  rw [yerr_zero 1 y (by omega) (by omega) y1 y2] at k
  have K1 := hide (fun W => wone_fmon (y + 1) ▸ wone_any 1 (y + 1) 1 W (by omega) (by omega) (by omega) (by omega) (by omega) (by omega))
  have K0 := hide (fun W => wone_fmon y ▸ wone_any 1 y 1 W (by omega) (by omega) (by omega) (by omega) (by omega) (by omega))
  have fb := fmon_bd y (by omega) (by omega)
  have fb1 := fmon_bd (y + 1) (by omega) (by omega)
  have fm := fmon_mono y
  have hq := hide (show (fmon (y + 1) - fmon y).tdiv 7 = (fmon (y + 1) - fmon y) / 7 from Int.tdiv_eq_ediv_of_nonneg (by omega))
  generalize fmon (y + 1) = b at *
  generalize fmon y = a at *
  have ha : a ≤ b := by omega
  go_enter Tryz.func74, Tryz.ntmps74
  go_wp2_with (go_at_call 112; refine (k _).mono ?_; rintro e w' ⟨rfl, rfl⟩)
  refine (K1.out _).mono ?_
  rintro r W ⟨rfl, hb⟩
  go_wp2_with fail
  refine (K0.out _).mono ?_
  rintro r W2 ⟨rfl, hb2⟩
  have hB2 := hb.trans (hb2.mono hb.size)
  go_wp2
  go_ret2
  exact ⟨rfl, hB2⟩
theorem rweeks_no (y : Int) (w : World) (h : y < -20000 ∨ 20000 < y) :
    Calls Tryz.prog 74 #[.int .i64 y] w fun r w' => r = .returned (.tuple #[.int .i64 0, .int .i64 4]) ∧ Below w.heap.size w w' := by
  have k := fun W => year_any 1 y W
  rw [show yerr 1 y = 4 from by unfold yerr; rw [if_neg (by omega), if_pos h]] at k
  clear h
  go_enter Tryz.func74, Tryz.ntmps74
  go_wp2_with (go_at_call 112; refine (k _).mono ?_; rintro e w' ⟨rfl, rfl⟩)
  go_ret2
  exact ⟨rfl, Below.refl _ _⟩

set_option maxHeartbeats 1000000 in
theorem rofWeek_any (y n d v q : Int) (w : World) (y1 : -20000 ≤ y) (y2 : y ≤ 20000)
    (h : (q = 3 ∧ v = 0 ∧ (n < 1 ∨ (1 ≤ n ∧ (fmon (y + 1) - fmon y) / 7 < n) ∨ (1 ≤ n ∧ n ≤ (fmon (y + 1) - fmon y) / 7 ∧ d < 1) ∨ (1 ≤ n ∧ n ≤ (fmon (y + 1) - fmon y) / 7 ∧ 1 ≤ d ∧ 7 < d))) ∨
      (1 ≤ n ∧ n ≤ (fmon (y + 1) - fmon y) / 7 ∧ 1 ≤ d ∧ d ≤ 7 ∧ ((-4000000 ≤ fmon y + 7 * (n - 1) + d - 1 ∧ fmon y + 7 * (n - 1) + d - 1 ≤ 4000000 ∧ v = fmon y + 7 * (n - 1) + d - 1 ∧ q = 0) ∨ ((fmon y + 7 * (n - 1) + d - 1 < -4000000 ∨ 4000000 < fmon y + 7 * (n - 1) + d - 1) ∧ v = 0 ∧ q = 4)))) :
    Calls Tryz.prog 46 #[.int .i64 y, .int .i64 n, .int .i64 d] w fun r w' => r = .returned (.tuple #[.int .i64 v, .int .i64 q]) ∧ Below w.heap.size w w' := by
  have KW := hide (fun W => rweeks_ok y W y1 y2)
  have K0 := hide (fun W => wone_fmon y ▸ wone_any 1 y 1 W (by omega) (by omega) (by omega) (by omega) (by omega) (by omega))
  have fb := fmon_bd y (by omega) (by omega)
  have fb1 := fmon_bd (y + 1) (by omega) (by omega)
  have kb : (fmon (y + 1) - fmon y) / 7 ≤ 5000000 := by omega
  generalize (fmon (y + 1) - fmon y) / 7 = k at *
  generalize fmon y = fm at *
  rcases h with ⟨rfl, rfl, h⟩ | ⟨n1, n2, e1, e2, h⟩
  · rcases h with h | ⟨h0, h⟩ | ⟨h0, h3, h⟩ | ⟨h0, h3, h4, h⟩
    all_goals
      go_enter Tryz.func46, Tryz.ntmps46
      go_wp2_with fail
      refine (KW.out _).mono ?_
      rintro e W ⟨rfl, hb⟩
      go_wp2
      go_ret2
      exact ⟨rfl, hb⟩
  · have KT := hide (fun W => rthere_any (fm + 7 * (n - 1) + d - 1) W v q h)
    clear h
    have nb : n ≤ 10000000 := by omega
    go_enter Tryz.func46, Tryz.ntmps46
    go_wp2_with fail
    refine (KW.out _).mono ?_
    rintro e W ⟨rfl, hb⟩
    go_wp2_with fail
    refine (K0.out _).mono ?_
    rintro e W2 ⟨rfl, hb2⟩
    go_wp2_with fail
    refine (KT.out _).mono ?_
    rintro e w' ⟨rfl, rfl⟩
    go_wp2
    go_ret2
    exact ⟨rfl, hb.trans (hb2.mono hb.size)⟩
theorem rofWeek_out (y n d : Int) (w : World) (h : y < -20000 ∨ 20000 < y) :
    Calls Tryz.prog 46 #[.int .i64 y, .int .i64 n, .int .i64 d] w fun r w' => r = .returned (.tuple #[.int .i64 0, .int .i64 4]) ∧ Below w.heap.size w w' := by
  have KW := hide (fun W => rweeks_no y W h)
  clear h
  go_enter Tryz.func46, Tryz.ntmps46
  go_wp2_with fail
  refine (KW.out _).mono ?_
  rintro e W ⟨rfl, hb⟩
  go_wp2
  go_ret2
  exact ⟨rfl, hb⟩
/-- what OfWeek answers -/
def wval (y n d : Int) : Int := if werr y n d = 0 then fmon y + 7 * (n - 1) + d - 1 else 0
theorem rofWeek_val (y n d : Int) (w : World) :
    Calls Tryz.prog 46 #[.int .i64 y, .int .i64 n, .int .i64 d] w fun r w' => r = .returned (.tuple #[.int .i64 (wval y n d), .int .i64 (werr y n d)]) ∧ Below w.heap.size w w' := by
  by_cases hy : y < -20000 ∨ 20000 < y
  · have e : werr y n d = 4 := by unfold werr; rw [if_pos hy]
    have e2 : wval y n d = 0 := by unfold wval; rw [e]; rfl
    rw [e, e2]
    exact rofWeek_out y n d w hy
  · refine rofWeek_any y n d _ _ w (by omega) (by omega) ?_
    unfold wval werr
    rw [if_neg hy]
    generalize (fmon (y + 1) - fmon y) / 7 = k
    generalize fmon y = fm
    by_cases h1 : n < 1 ∨ k < n ∨ d < 1 ∨ 7 < d
    · left
      rw [if_pos h1]
      refine ⟨rfl, rfl, by omega⟩
    · right
      rw [if_neg h1]
      refine ⟨by omega, by omega, by omega, by omega, ?_⟩
      by_cases h2 : fm + 7 * (n - 1) + d - 1 < -4000000 ∨ 4000000 < fm + 7 * (n - 1) + d - 1
      · right; rw [if_pos h2]; exact ⟨h2, rfl, rfl⟩
      · left; rw [if_neg h2]; exact ⟨by omega, by omega, rfl, rfl⟩
end Go.Proofs.YtcffomellimmiaaGreatDoor
