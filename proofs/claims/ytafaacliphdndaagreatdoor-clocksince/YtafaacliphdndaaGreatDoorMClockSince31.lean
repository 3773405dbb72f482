/- The reference: Add, where months are added. -/
import Derived.Test.YtafaacliphdndaaGreatDoorMClockSince28
import Derived.Deep.RegionWith
namespace Go.Proofs.YtafaacliphdndaaGreatDoor
open Go.RowKit Go.Shelf
set_option linter.unusedVariables false
set_option linter.unusedSimpArgs false

set_option maxRecDepth 100000 in
set_option maxHeartbeats 16000000 in
theorem radd_moved3 (t y mo d Y M N D S v V E l k : Int) (m' : Nat) (w : World) (t1 : -345600000000 ≤ t) (t2 : t ≤ 345600086399) (hp : Small Y M N D S) (hh : (Y != 0) = false) (hh2 : (M != 0) = true) (hdl : d ≤ l) (y1 : -20000 ≤ y) (y2 : y ≤ 20000) (m1 : 1 ≤ mo) (m2 : mo ≤ 12) (J : Int) (hJ : J = y * 12 + mo - 1 + 12 * Y + M)
    (kg : ∀ W, Calls Tryz.prog 24 #[.int .i64 (t / 86400)] W fun r w' => r = .returned (.agg #[.int .i64 1, .int .i64 y, .int .i64 mo, .int .i64 d]) ∧ Below W.heap.size W w')
    (ky : ∀ W, Calls Tryz.prog 27 #[.int .i64 1, .int .i64 (J / 12)] W fun r w' => r = .returned (.int .i64 0) ∧ w' = W)
    (hm' : J % 12 = (m' : Int)) (hA1 : -20000 ≤ J / 12) (hA2 : J / 12 ≤ 20000) (hl : Alm.mlen 1 (J / 12) (m' + 1) = l)
    (kd : ∀ W, Calls Tryz.prog 29 #[.agg #[.int .i64 1, .int .i64 (J / 12), .int .i64 (m' + 1), .int .i64 (min d l)]] W fun r w' => r = .returned (.tuple #[.int .i64 v, .int .i64 k]) ∧ Below W.heap.size W w')
    (hk : k ≠ 0 ∧ V = 0 ∧ E = k ∨ k = 0 ∧ -4000000 ≤ v ∧ v ≤ 4000000 ∧ (((v + 7 * N + D < -4000000 ∨ 4000000 < v + 7 * N + D) ∧ V = 0 ∧ E = 4) ∨ ((-4000000 ≤ v + 7 * N + D ∧ v + 7 * N + D ≤ 4000000) ∧ ((((v + 7 * N + D) * 86400 + t % 86400 + S < -345600000000 ∨ 345600086399 < (v + 7 * N + D) * 86400 + t % 86400 + S) ∧ V = 0 ∧ E = 4) ∨ ((-345600000000 ≤ (v + 7 * N + D) * 86400 + t % 86400 + S ∧ (v + 7 * N + D) * 86400 + t % 86400 + S ≤ 345600086399) ∧ V = (v + 7 * N + D) * 86400 + t % 86400 + S ∧ E = 0))))) :
    Calls Tryz.prog 8 #[.int .i64 t, .agg #[.int .i64 Y, .int .i64 M, .int .i64 N, .int .i64 D, .int .i64 S]] w fun e w' => e = .returned (.tuple #[.int .i64 V, .int .i64 E]) ∧ Below w.heap.size w w' := by
  obtain ⟨py, pm, pn, pd, ps⟩ := hp
  have KS := fun W => rsplit_ok t W t1 t2
  have s1 : 0 ≤ t % 86400 := by omega
  have s2 : t % 86400 < 86400 := by omega
  have KM := hide (fun W => rsmall_ok Y M N D S W py pm pn pd ps)
  have hb0 : Below w.heap.size w (w.alloc (.cells #[.int .i64 Y, .int .i64 M, .int .i64 N, .int .i64 D, .int .i64 S] 24)) := (Below.refl _ w).alloc (Nat.le_refl _) _
  have KG := hide kg
  have HJ := hide (show y * 12 + mo - 1 + 12 * Y + M = J from hJ.symm)
  clear kg hJ
  generalize t % 86400 = s at *
  generalize t / 86400 = day at *
  have KY := hide ky
  have KD := hide kd
  have HK := hide hk
  have HM := hide hm'
  have HL := hide hl
  have hmb : m' < 12 := by omega
  have KL := hide (fun W => lens_any 1 (J / 12) W (by omega) (by omega) (by omega) (by omega))
  have e12 : (Alm.lens 1 (J / 12)).length = 12 := by simp [Alm.lens]
  have hw1 : IntKind.i64.wrap ((m' : Int) + 1 - 1) = m' := by rw [IntKind.wrap_i64]; omega
  have hw2 : IntKind.i64.wrap (m' : Int) = m' := by rw [IntKind.wrap_i64]; omega
  have hmb0 : (0 : Int) ≤ (m' : Int) := by omega
  have hmb1 : (m' : Int) < 12 := by omega
  clear ky kd hk hm' hl
  · skip
    go_enter Tryz.func8, Tryz.ntmps8
    go_wp2_with (go_at_call 22; refine (KS _).mono ?_; rintro e w' ⟨rfl, rfl⟩)
    refine (KM.out _).mono ?_
    rintro e W1 ⟨rfl, hx⟩
    obtain ⟨⟨a0, a1, a2, a3, a4⟩, fz, hs⟩ := box5 w W1 _ _ _ _ _ _ hx
    have hB := hb0.trans (hx.mono (by simp))
    clear hx fz hb0 KM
    go_wp2_with fail
    refine (KG.out _).mono ?_
    rintro e W2 ⟨rfl, hx⟩
    have hs2 : w.heap.size < W2.heap.size := Nat.lt_of_lt_of_le hs hx.size
    have c0 := (hx.cell (p := ⟨w.heap.size, 0, none⟩) hs).trans a0
    have c1 := (hx.cell (p := ⟨w.heap.size, 1, none⟩) hs).trans a1
    have c2 := (hx.cell (p := ⟨w.heap.size, 2, none⟩) hs).trans a2
    have c3 := (hx.cell (p := ⟨w.heap.size, 3, none⟩) hs).trans a3
    have c4 := (hx.cell (p := ⟨w.heap.size, 4, none⟩) hs).trans a4
    have hB2 := hB.trans (hx.mono (Nat.le_of_lt hs))
    clear hx a0 a1 a2 a3 a4 hB KG
    go_wp2_with (first | (go_at_call 25; refine (rfloor_any _ _ _ (by omega) (by omega) (by omega) (by omega)).mono ?_; rintro e w' ⟨rfl, rfl⟩) | (go_at_call 26; refine (rmod_any _ _ _ (by omega) (by omega)).mono ?_; rintro e w' ⟨rfl, rfl⟩))
    rw [HJ.out]
    refine (KY.out _).mono ?_
    rintro e w' ⟨rfl, rfl⟩
    rw [HM.out]
    · rw [Int.min_eq_left hdl] at KD
      have hdl2 : ¬ (l < d) := by omega
      go_wp2_with fail
      go_region_with (go_at_call 28; refine (KL.out _).mono ?_; rintro e W3 ⟨b, cap, rfl, hR, hc1, hc2, hbb, hb3⟩; have hc3 : (12 : Int) ≤ cap := (by omega); have hc4 : (cap : Int) ≤ 9223372036854775807 := (by unfold maxLen at hc2; omega); have h2 : Below (W2.alloc (.cells #[.int .i64 1, .int .i64 (J / 12), .int .i64 (m' + 1), .int .i64 d] 55)).heap.size (W2.alloc (.cells #[.int .i64 1, .int .i64 (J / 12), .int .i64 (m' + 1), .int .i64 d] 55)) W3 := (below_drewN (Below.refl _ _) _).trans hb3; obtain ⟨⟨g0, g1, g2, g3⟩, gz, hs3⟩ := box4 W2 W3 _ _ _ _ _ h2; have hcell : W3.cell? ⟨b, m', none⟩ = some (.int .i64 l) := (by rw [hR m' (by omega), mlen_get _ _ _ (by omega), HL.out]); have hB3 : Below w.heap.size w W3 := (hB2.alloc (by omega) _).trans (h2.mono (by simp; omega)); have x2 : W3.cell? ⟨w.heap.size, 2, none⟩ = some (.int .i64 N) := (by rw [h2.cell (p := ⟨w.heap.size, 2, none⟩) (by simp; omega), World.cell?_alloc_past _ _ _ hs2]; exact c2); have x3 : W3.cell? ⟨w.heap.size, 3, none⟩ = some (.int .i64 D) := (by rw [h2.cell (p := ⟨w.heap.size, 3, none⟩) (by simp; omega), World.cell?_alloc_past _ _ _ hs2]; exact c3); have x4 : W3.cell? ⟨w.heap.size, 4, none⟩ = some (.int .i64 S) := (by rw [h2.cell (p := ⟨w.heap.size, 4, none⟩) (by simp; omega), World.cell?_alloc_past _ _ _ hs2]; exact c4); clear hR hb3 h2)
      all_goals
        have hs4 : w.heap.size < W3.heap.size := by omega
        go_wp2_with fail
        refine (KD.out _).mono ?_
        rintro e W4 ⟨rfl, hx⟩
        have z2 : W4.cell? ⟨w.heap.size, 2, none⟩ = some (.int .i64 N) := by rw [hx.cell (p := ⟨w.heap.size, 2, none⟩) (by simp [World.setCell] <;> omega)]; simp [go_sem, x2, hs2, Nat.ne_of_lt hs2, Nat.ne_of_gt hs2]
        have z3 : W4.cell? ⟨w.heap.size, 3, none⟩ = some (.int .i64 D) := by rw [hx.cell (p := ⟨w.heap.size, 3, none⟩) (by simp [World.setCell] <;> omega)]; simp [go_sem, x3, hs2, Nat.ne_of_lt hs2, Nat.ne_of_gt hs2]
        have z4 : W4.cell? ⟨w.heap.size, 4, none⟩ = some (.int .i64 S) := by rw [hx.cell (p := ⟨w.heap.size, 4, none⟩) (by simp [World.setCell] <;> omega)]; simp [go_sem, x4, hs2, Nat.ne_of_lt hs2, Nat.ne_of_gt hs2]
        have hB4 : Below w.heap.size w W4 := hB3.trans (hx.mono (by omega))
        clear hx x2 x3 x4 g0 g1 g2 g3 gz hcell hB3 KD c2 c3 c4 c0 c1 hB2 KL
        rcases HK.out with ⟨hk, rfl, rfl⟩ | ⟨rfl, v1, v2, ht⟩
        · have q1 : (E != 0) = true := by simpa using hk
          clear HK hk
          go_wp2
          go_ret2
          exact ⟨rfl, hB4⟩
        · have HT := hide ht
          clear HK ht
          rcases HT.out with ⟨hk, rfl, rfl⟩ | ⟨⟨k1, k2⟩, ⟨hk, rfl, rfl⟩ | ⟨⟨k3, k4⟩, hv, rfl⟩⟩
          · have KT := hide (fun W => there_no (v + 7 * N + D) W hk)
            clear HT hk
            go_wp2_with (go_at_call 30; refine (KT.out _).mono ?_; rintro e w' ⟨rfl, rfl⟩)
            go_ret2
            exact ⟨rfl, hB4⟩
          · have KT := hide (fun W => there_ok (v + 7 * N + D) W k1 k2)
            have KL := hide (fun W => rlocal_no ((v + 7 * N + D) * 86400 + s + S) W (by omega) (by omega) hk)
            clear HT hk
            go_wp2_with (first | (go_at_call 30; refine (KT.out _).mono ?_; rintro e w' ⟨rfl, rfl⟩) | (go_at_call 31; refine (KL.out _).mono ?_; rintro e w' ⟨rfl, rfl⟩))
            go_ret2
            exact ⟨rfl, hB4⟩
          · have KT := hide (fun W => there_ok (v + 7 * N + D) W k1 k2)
            have KL := hide (fun W => rlocal_yes ((v + 7 * N + D) * 86400 + s + S) W k3 k4)
            have HV := hide hv
            clear HT hv
            go_wp2_with (first | (go_at_call 30; refine (KT.out _).mono ?_; rintro e w' ⟨rfl, rfl⟩) | (go_at_call 31; refine (KL.out _).mono ?_; rintro e w' ⟨rfl, rfl⟩))
            go_ret2
            exact ⟨by rw [HV.out]; rfl, hB4⟩
end Go.Proofs.YtafaacliphdndaaGreatDoor
