/- The reference: Add, where months are added. -/
import Derived.Test.YtafaacliphdndaaGreatDoorMClockSince27
namespace Go.Proofs.YtafaacliphdndaaGreatDoor
open Go.RowKit Go.Shelf
set_option linter.unusedVariables false
set_option linter.unusedSimpArgs false

set_option maxRecDepth 100000 in
set_option maxHeartbeats 600000 in
theorem radd_great (t Y M N D S : Int) (w : World) (b1 : -9223372036854775808 ≤ t) (b2 : t < 9223372036854775808) (hp : ¬ Small Y M N D S) :
    Calls Tryz.prog 8 #[.int .i64 t, .agg #[.int .i64 Y, .int .i64 M, .int .i64 N, .int .i64 D, .int .i64 S]] w fun e w' => e = .returned (.tuple #[.int .i64 0, .int .i64 4]) ∧ Below w.heap.size w w' := by
  have KM := hide (fun W => rsmall_no Y M N D S W hp)
  have hb0 : Below w.heap.size w (w.alloc (.cells #[.int .i64 Y, .int .i64 M, .int .i64 N, .int .i64 D, .int .i64 S] 24)) := (Below.refl _ w).alloc (Nat.le_refl _) _
  clear hp
  by_cases ht : t < -345600000000 ∨ 345600086399 < t
  · have KS := fun W => rsplit_no t W b1 b2 ht
    clear ht
    go_enter Tryz.func8, Tryz.ntmps8
    go_wp2_with (go_at_call 22; refine (KS _).mono ?_; rintro e w' ⟨rfl, rfl⟩)
    refine (KM.out _).mono ?_
    rintro e W1 ⟨rfl, hx⟩
    have hB := hb0.trans (hx.mono (by simp))
    clear hx hb0 KM
    go_wp2
    go_ret2
    exact ⟨rfl, hB⟩
  · have KS := fun W => rsplit_ok t W (by omega) (by omega)
    clear ht
    go_enter Tryz.func8, Tryz.ntmps8
    go_wp2_with (go_at_call 22; refine (KS _).mono ?_; rintro e w' ⟨rfl, rfl⟩)
    refine (KM.out _).mono ?_
    rintro e W1 ⟨rfl, hx⟩
    have hB := hb0.trans (hx.mono (by simp))
    clear hx hb0 KM
    go_wp2
    go_ret2
    exact ⟨rfl, hB⟩
set_option maxRecDepth 100000 in
set_option maxHeartbeats 600000 in
theorem radd_late (t Y M N D S : Int) (w : World) (b1 : -9223372036854775808 ≤ t) (b2 : t < 9223372036854775808) (ht : t < -345600000000 ∨ 345600086399 < t) (hp : Small Y M N D S) :
    Calls Tryz.prog 8 #[.int .i64 t, .agg #[.int .i64 Y, .int .i64 M, .int .i64 N, .int .i64 D, .int .i64 S]] w fun e w' => e = .returned (.tuple #[.int .i64 0, .int .i64 4]) ∧ Below w.heap.size w w' := by
  obtain ⟨py, pm, pn, pd, ps⟩ := hp
  have KM := hide (fun W => rsmall_ok Y M N D S W py pm pn pd ps)
  have hb0 : Below w.heap.size w (w.alloc (.cells #[.int .i64 Y, .int .i64 M, .int .i64 N, .int .i64 D, .int .i64 S] 24)) := (Below.refl _ w).alloc (Nat.le_refl _) _
  have KS := fun W => rsplit_no t W b1 b2 ht
  clear ht
  go_enter Tryz.func8, Tryz.ntmps8
  go_wp2_with (go_at_call 22; refine (KS _).mono ?_; rintro e w' ⟨rfl, rfl⟩)
  refine (KM.out _).mono ?_
  rintro e W1 ⟨rfl, hx⟩
  have hB := hb0.trans (hx.mono (by simp))
  clear hx hb0 KM
  go_wp2
  go_ret2
  exact ⟨rfl, hB⟩
set_option maxRecDepth 100000 in
set_option maxHeartbeats 600000 in
theorem radd_same (t N D S v V E : Int) (w : World) (t1 : -345600000000 ≤ t) (t2 : t ≤ 345600086399) (hp : Small 0 0 N D S) (hv : v = t / 86400)
    (ht : ((v + 7 * N + D < -4000000 ∨ 4000000 < v + 7 * N + D) ∧ V = 0 ∧ E = 4) ∨ ((-4000000 ≤ v + 7 * N + D ∧ v + 7 * N + D ≤ 4000000) ∧ ((((v + 7 * N + D) * 86400 + t % 86400 + S < -345600000000 ∨ 345600086399 < (v + 7 * N + D) * 86400 + t % 86400 + S) ∧ V = 0 ∧ E = 4) ∨ ((-345600000000 ≤ (v + 7 * N + D) * 86400 + t % 86400 + S ∧ (v + 7 * N + D) * 86400 + t % 86400 + S ≤ 345600086399) ∧ V = (v + 7 * N + D) * 86400 + t % 86400 + S ∧ E = 0)))) :
    Calls Tryz.prog 8 #[.int .i64 t, .agg #[.int .i64 0, .int .i64 0, .int .i64 N, .int .i64 D, .int .i64 S]] w fun e w' => e = .returned (.tuple #[.int .i64 V, .int .i64 E]) ∧ Below w.heap.size w w' := by
  obtain ⟨py, pm, pn, pd, ps⟩ := hp
  have KS := fun W => rsplit_ok t W t1 t2
  have s1 : 0 ≤ t % 86400 := by omega
  have s2 : t % 86400 < 86400 := by omega
  have KM := hide (fun W => rsmall_ok 0 0 N D S W py pm pn pd ps)
  have hb0 : Below w.heap.size w (w.alloc (.cells #[.int .i64 0, .int .i64 0, .int .i64 N, .int .i64 D, .int .i64 S] 24)) := (Below.refl _ w).alloc (Nat.le_refl _) _
  have v1 : -4000000 ≤ v ∧ v ≤ 4000000 := by omega
  rw [← hv] at KS
  have HT := hide ht
  clear ht hv
  generalize t % 86400 = s at *
  go_enter Tryz.func8, Tryz.ntmps8
  go_wp2_with (go_at_call 22; refine (KS _).mono ?_; rintro e w' ⟨rfl, rfl⟩)
  refine (KM.out _).mono ?_
  rintro e W1 ⟨rfl, hx⟩
  obtain ⟨⟨a0, a1, a2, a3, a4⟩, fz, hs⟩ := box5 w W1 _ _ _ _ _ _ hx
  have hB := hb0.trans (hx.mono (by simp))
  clear hx fz hb0 KM
  rcases HT.out with ⟨hk, rfl, rfl⟩ | ⟨⟨k1, k2⟩, ⟨hk, rfl, rfl⟩ | ⟨⟨k3, k4⟩, hv, rfl⟩⟩
  · have KT := hide (fun W => there_no (v + 7 * N + D) W hk)
    clear HT hk
    go_wp2_with (go_at_call 30; refine (KT.out _).mono ?_; rintro e w' ⟨rfl, rfl⟩)
    go_ret2
    exact ⟨rfl, hB⟩
  · have KT := hide (fun W => there_ok (v + 7 * N + D) W k1 k2)
    have KL := hide (fun W => rlocal_no ((v + 7 * N + D) * 86400 + s + S) W (by omega) (by omega) hk)
    clear HT hk
    go_wp2_with (first | (go_at_call 30; refine (KT.out _).mono ?_; rintro e w' ⟨rfl, rfl⟩) | (go_at_call 31; refine (KL.out _).mono ?_; rintro e w' ⟨rfl, rfl⟩))
    go_ret2
    exact ⟨rfl, hB⟩
  · have KT := hide (fun W => there_ok (v + 7 * N + D) W k1 k2)
    have KL := hide (fun W => rlocal_yes ((v + 7 * N + D) * 86400 + s + S) W k3 k4)
    have HV := hide hv
    clear HT hv
    go_wp2_with (first | (go_at_call 30; refine (KT.out _).mono ?_; rintro e w' ⟨rfl, rfl⟩) | (go_at_call 31; refine (KL.out _).mono ?_; rintro e w' ⟨rfl, rfl⟩))
    go_ret2
    exact ⟨by rw [HV.out]; rfl, hB⟩
end Go.Proofs.YtafaacliphdndaaGreatDoor
namespace Go.Proofs.YtafaacliphdndaaGreatDoor
open Go.RowKit Go.Shelf
set_option linter.unusedVariables false
set_option linter.unusedSimpArgs false

set_option maxRecDepth 100000 in
set_option maxHeartbeats 1600000 in
theorem radd_far (t y mo d Y M N D S : Int) (w : World) (t1 : -345600000000 ≤ t) (t2 : t ≤ 345600086399) (hp : Small Y M N D S) (hYM : Y ≠ 0 ∨ M ≠ 0) (y1 : -20000 ≤ y) (y2 : y ≤ 20000) (m1 : 1 ≤ mo) (m2 : mo ≤ 12) (J : Int) (hJ : J = y * 12 + mo - 1 + 12 * Y + M)
    (kg : ∀ W, Calls Tryz.prog 24 #[.int .i64 (t / 86400)] W fun r w' => r = .returned (.agg #[.int .i64 1, .int .i64 y, .int .i64 mo, .int .i64 d]) ∧ Below W.heap.size W w')
    (ky : ∀ W, Calls Tryz.prog 27 #[.int .i64 1, .int .i64 (J / 12)] W fun r w' => r = .returned (.int .i64 4) ∧ w' = W) :
    Calls Tryz.prog 8 #[.int .i64 t, .agg #[.int .i64 Y, .int .i64 M, .int .i64 N, .int .i64 D, .int .i64 S]] w fun e w' => e = .returned (.tuple #[.int .i64 0, .int .i64 4]) ∧ Below w.heap.size w w' := by
  obtain ⟨py, pm, pn, pd, ps⟩ := hp
  have KS := fun W => rsplit_ok t W t1 t2
  have s1 : 0 ≤ t % 86400 := by omega
  have s2 : t % 86400 < 86400 := by omega
  have KM := hide (fun W => rsmall_ok Y M N D S W py pm pn pd ps)
  have hb0 : Below w.heap.size w (w.alloc (.cells #[.int .i64 Y, .int .i64 M, .int .i64 N, .int .i64 D, .int .i64 S] 24)) := (Below.refl _ w).alloc (Nat.le_refl _) _
  have hh : (Y != 0) = true ∨ ((Y != 0) = false ∧ (M != 0) = true) := by
    by_cases h0 : Y = 0
    · right; exact ⟨by simp [h0], by simp; omega⟩
    · left; simpa using h0
  have KG := hide kg
  have HJ := hide (show y * 12 + mo - 1 + 12 * Y + M = J from hJ.symm)
  clear kg hJ hYM
  generalize t % 86400 = s at *
  generalize t / 86400 = day at *
  have KY := hide ky
  clear ky
  rcases hh with hh | ⟨hh, hh2⟩
  all_goals
    go_enter Tryz.func8, Tryz.ntmps8
    go_wp2_with (go_at_call 22; refine (KS _).mono ?_; rintro e w' ⟨rfl, rfl⟩)
    refine (KM.out _).mono ?_
    rintro e W1 ⟨rfl, hx⟩
    obtain ⟨⟨a0, a1, a2, a3, a4⟩, fz, hs⟩ := box5 w W1 _ _ _ _ _ _ hx
    have hB := hb0.trans (hx.mono (by simp))
    clear hx fz hb0 KM
    go_wp2_with fail
    refine (KG.out _).mono ?_
    rintro e W2 ⟨rfl, hx⟩
    have hs2 : w.heap.size < W2.heap.size := Nat.lt_of_lt_of_le hs hx.size
    have c0 := (hx.cell (p := ⟨w.heap.size, 0, none⟩) hs).trans a0
    have c1 := (hx.cell (p := ⟨w.heap.size, 1, none⟩) hs).trans a1
    have c2 := (hx.cell (p := ⟨w.heap.size, 2, none⟩) hs).trans a2
    have c3 := (hx.cell (p := ⟨w.heap.size, 3, none⟩) hs).trans a3
    have c4 := (hx.cell (p := ⟨w.heap.size, 4, none⟩) hs).trans a4
    have hB2 := hB.trans (hx.mono (Nat.le_of_lt hs))
    clear hx a0 a1 a2 a3 a4 hB KG
    go_wp2_with (first | (go_at_call 25; refine (rfloor_any _ _ _ (by omega) (by omega) (by omega) (by omega)).mono ?_; rintro e w' ⟨rfl, rfl⟩) | (go_at_call 26; refine (rmod_any _ _ _ (by omega) (by omega)).mono ?_; rintro e w' ⟨rfl, rfl⟩))
    rw [HJ.out]
    refine (KY.out _).mono ?_
    rintro e w' ⟨rfl, rfl⟩
    go_wp2
    go_ret2
    exact ⟨rfl, hB2.alloc (by omega) _⟩
end Go.Proofs.YtafaacliphdndaaGreatDoor
