/- The reference: Easter. -/
import Derived.Test.YtcidhedmbcoafaaDoorRefG
import Derived.Test.YtcidhedmbcoafaaDoorEasterB
namespace Go.Proofs.YtcidhedmbcoafaaDoor
open Go.RowKit Go.Shelf
set_option linter.unusedVariables false
set_option linter.unusedSimpArgs false

theorem reaster_out (e : Bool) (y : Int) (w : World) (h : y < 1 ∨ 20000 < y) :
    Calls Tryd.prog 33 #[.int .i64 y, .bool e] w fun r w' => r = .returned (.tuple #[.int .i64 0, .int .i64 4]) ∧ Below w.heap.size w w' := by
  have hh : y < 1 ∨ (1 ≤ y ∧ 20000 < y) := by omega
  clear h
  rcases hh with h | ⟨h0, h⟩
  all_goals
    go_enter Tryd.func33, Tryd.ntmps33
    go_wp2
    go_ret2
    exact ⟨rfl, Below.refl _ _⟩
set_option maxRecDepth 100000 in
set_option maxHeartbeats 3200000 in
theorem reaster_west (y g h m0 a N k v q : Int) (w : World) (y1 : 1 ≤ y) (y2 : y ≤ 20000) (g1 : 0 ≤ g) (g2 : g < 19) (b1 : 0 ≤ h) (b2 : h ≤ 200) (m1 : 0 ≤ m0) (m2 : m0 < 30) (n1 : -4000000 ≤ N) (n2 : N ≤ 4000000)
    (ha : (m0 = 0 ∧ a = 1) ∨ (m0 = 1 ∧ 10 < g ∧ a = 2) ∨ (m0 = 1 ∧ g ≤ 10 ∧ a = 1) ∨ (2 ≤ m0 ∧ a = m0))
    (hk : (k ≠ 0 ∧ q = k ∧ v = 0) ∨ (k = 0 ∧ ∀ x W, x = N - a + 7 - ((N - a + 3) % 7 + 1) % 7 → Calls Tryd.prog 47 #[.int .i64 x] W fun r w' => r = .returned (.tuple #[.int .i64 v, .int .i64 q]) ∧ w' = W))
    (kg : ∀ W, Calls Tryd.prog 59 #[.int .i64 y, .int .i64 19] W fun r w' => r = .returned (.int .i64 g) ∧ w' = W)
    (ke : ∀ x W, Calls Tryd.prog 59 #[.int .i64 x, .int .i64 30] W fun r w' => r = .returned (.int .i64 (x % 30)) ∧ w' = W)
    (kh : ∀ W, Calls Tryd.prog 50 #[.int .i64 y, .int .i64 100] W fun r w' => r = .returned (.int .i64 h) ∧ w' = W)
    (km : ∀ x W, x = 14 + 11 * g - 3 * (h + 1) / 4 + (5 + 8 * (h + 1)) / 25 → Calls Tryd.prog 59 #[.int .i64 x, .int .i64 30] W fun r w' => r = .returned (.int .i64 m0) ∧ w' = W)
    (kd : ∀ W, Calls Tryd.prog 21 #[.agg #[.int .i64 1, .int .i64 y, .int .i64 4, .int .i64 19]] W fun r w' => r = .returned (.tuple #[.int .i64 N, .int .i64 k]) ∧ Below W.heap.size W w') :
    Calls Tryd.prog 33 #[.int .i64 y, .bool false] w fun r w' => r = .returned (.tuple #[.int .i64 v, .int .i64 q]) ∧ Below w.heap.size w w' := by
  have KG := hide kg
  have KE := hide ke
  have KH := hide kh
  have KM := hide km
  have KD := hide kd
  have HK := hide hk
  clear kg ke kh km kd hk
  go_enter Tryd.func33, Tryd.ntmps33
  go_wp2_with fail
  refine (KG.out _).mono ?_
  rintro r w' ⟨rfl, rfl⟩
  go_wp2_with fail
  refine (KE.out _ _).mono ?_
  rintro r w' ⟨rfl, rfl⟩
  go_wp2_with fail
  refine (KH.out _).mono ?_
  rintro r w' ⟨rfl, rfl⟩
  go_wp2_with fail
  refine (KG.out _).mono ?_
  rintro r w' ⟨rfl, rfl⟩
  go_wp2_with (go_at_call 50; refine (rfloor_any _ _ _ (by omega) (by omega) (by omega) (by omega)).mono ?_; rintro e w' ⟨rfl, rfl⟩)
  refine (KM.out _ _ (by omega)).mono ?_
  rintro r w' ⟨rfl, rfl⟩
  clear KE KM KH
  rcases ha with ⟨rfl, rfl⟩ | ⟨rfl, hg, rfl⟩ | ⟨rfl, hg, rfl⟩ | ⟨hm, rfl⟩
  · skip
    go_wp2_with (go_at_call 59; refine (KG.out _).mono ?_; rintro r w' ⟨rfl, rfl⟩)
    refine (KD.out _).mono ?_
    rintro r W ⟨rfl, hb⟩
    clear KD KG
    rcases HK.out with ⟨hk, rfl, rfl⟩ | ⟨rfl, hk⟩
    · have z1 : (q != 0) = true := by simpa using hk
      have z2 : (q == 0) = false := beq_eq_false_iff_ne.2 hk
      clear HK hk
      go_wp2
      go_ret2
      exact ⟨rfl, hb⟩
    · have KT := hide hk
      clear HK hk
      go_wp2_with fail
      go_loop [9] (fun d => ∃ x : Int, N - 1 + 1 ≤ x ∧ x ≤ N - 1 + 7 - ((N - 1 + 3) % 7 + 1) % 7 ∧ d = .int .i64 x) (fun d => (N + 100 - intOf d).toNat)
      case atStart => exact ⟨N - 1 + 1, by omega, by omega, by simp⟩
      case round =>
        obtain ⟨x, xa, xb, rfl⟩ := hrel
        by_cases hlt : x < N - 1 + 7 - ((N - 1 + 3) % 7 + 1) % 7
        · have z1 : ((x + 3) % 7 + 1 != 7) = true := by rw [bne_iff_ne]; omega
          have z2 : ((x + 3) % 7 + 1 == 7) = false := by rw [beq_eq_false_iff_ne]; omega
          go_wp2_with (go_at_call 31; refine (rweekday_any _ _).mono ?_; rintro e w' ⟨rfl, rfl⟩)
          go_round
          case rel => exact ⟨x + 1, by omega, by omega, by simp⟩
          case measure => simp [intOf]; omega
        · have hx : x = N - 1 + 7 - ((N - 1 + 3) % 7 + 1) % 7 := by omega
          have z0 : (x + 3) % 7 + 1 = 7 := by omega
          have KX := hide (KT.out x)
          have HX := hide hx
          have z1 : ((x + 3) % 7 + 1 != 7) = false := by rw [z0]; rfl
          have z2 : ((x + 3) % 7 + 1 == 7) = true := by rw [z0]; rfl
          clear hx z0 KT
          go_wp2_with (first | (go_at_call 31; refine (rweekday_any _ _).mono ?_; rintro e w' ⟨rfl, rfl⟩) | (go_at_call 47; refine (KX.out _ HX.out).mono ?_; rintro r w' ⟨rfl, rfl⟩))
          go_ret2
          exact ⟨rfl, hb⟩
  · skip
    go_wp2_with (go_at_call 59; refine (KG.out _).mono ?_; rintro r w' ⟨rfl, rfl⟩)
    refine (KD.out _).mono ?_
    rintro r W ⟨rfl, hb⟩
    clear KD KG
    rcases HK.out with ⟨hk, rfl, rfl⟩ | ⟨rfl, hk⟩
    · have z1 : (q != 0) = true := by simpa using hk
      have z2 : (q == 0) = false := beq_eq_false_iff_ne.2 hk
      clear HK hk
      go_wp2
      go_ret2
      exact ⟨rfl, hb⟩
    · have KT := hide hk
      clear HK hk
      go_wp2_with fail
      go_loop [9] (fun d => ∃ x : Int, N - 2 + 1 ≤ x ∧ x ≤ N - 2 + 7 - ((N - 2 + 3) % 7 + 1) % 7 ∧ d = .int .i64 x) (fun d => (N + 100 - intOf d).toNat)
      case atStart => exact ⟨N - 2 + 1, by omega, by omega, by simp⟩
      case round =>
        obtain ⟨x, xa, xb, rfl⟩ := hrel
        by_cases hlt : x < N - 2 + 7 - ((N - 2 + 3) % 7 + 1) % 7
        · have z1 : ((x + 3) % 7 + 1 != 7) = true := by rw [bne_iff_ne]; omega
          have z2 : ((x + 3) % 7 + 1 == 7) = false := by rw [beq_eq_false_iff_ne]; omega
          go_wp2_with (go_at_call 31; refine (rweekday_any _ _).mono ?_; rintro e w' ⟨rfl, rfl⟩)
          go_round
          case rel => exact ⟨x + 1, by omega, by omega, by simp⟩
          case measure => simp [intOf]; omega
        · have hx : x = N - 2 + 7 - ((N - 2 + 3) % 7 + 1) % 7 := by omega
          have z0 : (x + 3) % 7 + 1 = 7 := by omega
          have KX := hide (KT.out x)
          have HX := hide hx
          have z1 : ((x + 3) % 7 + 1 != 7) = false := by rw [z0]; rfl
          have z2 : ((x + 3) % 7 + 1 == 7) = true := by rw [z0]; rfl
          clear hx z0 KT
          go_wp2_with (first | (go_at_call 31; refine (rweekday_any _ _).mono ?_; rintro e w' ⟨rfl, rfl⟩) | (go_at_call 47; refine (KX.out _ HX.out).mono ?_; rintro r w' ⟨rfl, rfl⟩))
          go_ret2
          exact ⟨rfl, hb⟩
  · skip
    go_wp2_with (go_at_call 59; refine (KG.out _).mono ?_; rintro r w' ⟨rfl, rfl⟩)
    refine (KD.out _).mono ?_
    rintro r W ⟨rfl, hb⟩
    clear KD KG
    rcases HK.out with ⟨hk, rfl, rfl⟩ | ⟨rfl, hk⟩
    · have z1 : (q != 0) = true := by simpa using hk
      have z2 : (q == 0) = false := beq_eq_false_iff_ne.2 hk
      clear HK hk
      go_wp2
      go_ret2
      exact ⟨rfl, hb⟩
    · have KT := hide hk
      clear HK hk
      go_wp2_with fail
      go_loop [9] (fun d => ∃ x : Int, N - 1 + 1 ≤ x ∧ x ≤ N - 1 + 7 - ((N - 1 + 3) % 7 + 1) % 7 ∧ d = .int .i64 x) (fun d => (N + 100 - intOf d).toNat)
      case atStart => exact ⟨N - 1 + 1, by omega, by omega, by simp⟩
      case round =>
        obtain ⟨x, xa, xb, rfl⟩ := hrel
        by_cases hlt : x < N - 1 + 7 - ((N - 1 + 3) % 7 + 1) % 7
        · have z1 : ((x + 3) % 7 + 1 != 7) = true := by rw [bne_iff_ne]; omega
          have z2 : ((x + 3) % 7 + 1 == 7) = false := by rw [beq_eq_false_iff_ne]; omega
          go_wp2_with (go_at_call 31; refine (rweekday_any _ _).mono ?_; rintro e w' ⟨rfl, rfl⟩)
          go_round
          case rel => exact ⟨x + 1, by omega, by omega, by simp⟩
          case measure => simp [intOf]; omega
        · have hx : x = N - 1 + 7 - ((N - 1 + 3) % 7 + 1) % 7 := by omega
          have z0 : (x + 3) % 7 + 1 = 7 := by omega
          have KX := hide (KT.out x)
          have HX := hide hx
          have z1 : ((x + 3) % 7 + 1 != 7) = false := by rw [z0]; rfl
          have z2 : ((x + 3) % 7 + 1 == 7) = true := by rw [z0]; rfl
          clear hx z0 KT
          go_wp2_with (first | (go_at_call 31; refine (rweekday_any _ _).mono ?_; rintro e w' ⟨rfl, rfl⟩) | (go_at_call 47; refine (KX.out _ HX.out).mono ?_; rintro r w' ⟨rfl, rfl⟩))
          go_ret2
          exact ⟨rfl, hb⟩
  · have z0 : (a == 0) = false := by rw [beq_eq_false_iff_ne]; omega
    have z3 : (a == 1) = false := by rw [beq_eq_false_iff_ne]; omega
    go_wp2_with (go_at_call 59; refine (KG.out _).mono ?_; rintro r w' ⟨rfl, rfl⟩)
    refine (KD.out _).mono ?_
    rintro r W ⟨rfl, hb⟩
    clear KD KG
    rcases HK.out with ⟨hk, rfl, rfl⟩ | ⟨rfl, hk⟩
    · have z1 : (q != 0) = true := by simpa using hk
      have z2 : (q == 0) = false := beq_eq_false_iff_ne.2 hk
      clear HK hk
      go_wp2
      go_ret2
      exact ⟨rfl, hb⟩
    · have KT := hide hk
      clear HK hk
      go_wp2_with fail
      go_loop [9] (fun d => ∃ x : Int, N - a + 1 ≤ x ∧ x ≤ N - a + 7 - ((N - a + 3) % 7 + 1) % 7 ∧ d = .int .i64 x) (fun d => (N + 100 - intOf d).toNat)
      case atStart => exact ⟨N - a + 1, by omega, by omega, by simp⟩
      case round =>
        obtain ⟨x, xa, xb, rfl⟩ := hrel
        by_cases hlt : x < N - a + 7 - ((N - a + 3) % 7 + 1) % 7
        · have z1 : ((x + 3) % 7 + 1 != 7) = true := by rw [bne_iff_ne]; omega
          have z2 : ((x + 3) % 7 + 1 == 7) = false := by rw [beq_eq_false_iff_ne]; omega
          go_wp2_with (go_at_call 31; refine (rweekday_any _ _).mono ?_; rintro e w' ⟨rfl, rfl⟩)
          go_round
          case rel => exact ⟨x + 1, by omega, by omega, by simp⟩
          case measure => simp [intOf]; omega
        · have hx : x = N - a + 7 - ((N - a + 3) % 7 + 1) % 7 := by omega
          have z0 : (x + 3) % 7 + 1 = 7 := by omega
          have KX := hide (KT.out x)
          have HX := hide hx
          have z1 : ((x + 3) % 7 + 1 != 7) = false := by rw [z0]; rfl
          have z2 : ((x + 3) % 7 + 1 == 7) = true := by rw [z0]; rfl
          clear hx z0 KT
          go_wp2_with (first | (go_at_call 31; refine (rweekday_any _ _).mono ?_; rintro e w' ⟨rfl, rfl⟩) | (go_at_call 47; refine (KX.out _ HX.out).mono ?_; rintro r w' ⟨rfl, rfl⟩))
          go_ret2
          exact ⟨rfl, hb⟩
set_option maxRecDepth 100000 in
set_option maxHeartbeats 3200000 in
theorem reaster_east (y g a N k v q : Int) (w : World) (y1 : 1 ≤ y) (y2 : y ≤ 20000) (g1 : 0 ≤ g) (g2 : g < 19) (a1 : 0 ≤ a) (a2 : a < 30) (n1 : -4000000 ≤ N) (n2 : N ≤ 4000000)
    (hk : (k ≠ 0 ∧ q = k ∧ v = 0) ∨ (k = 0 ∧ ∀ x W, x = N - a + 7 - ((N - a + 3) % 7 + 1) % 7 → Calls Tryd.prog 47 #[.int .i64 x] W fun r w' => r = .returned (.tuple #[.int .i64 v, .int .i64 q]) ∧ w' = W))
    (kg : ∀ W, Calls Tryd.prog 59 #[.int .i64 y, .int .i64 19] W fun r w' => r = .returned (.int .i64 g) ∧ w' = W)
    (km : ∀ x W, x = 14 + 11 * g → Calls Tryd.prog 59 #[.int .i64 x, .int .i64 30] W fun r w' => r = .returned (.int .i64 a) ∧ w' = W)
    (kd : ∀ W, Calls Tryd.prog 21 #[.agg #[.int .i64 2, .int .i64 y, .int .i64 4, .int .i64 19]] W fun r w' => r = .returned (.tuple #[.int .i64 N, .int .i64 k]) ∧ Below W.heap.size W w') :
    Calls Tryd.prog 33 #[.int .i64 y, .bool true] w fun r w' => r = .returned (.tuple #[.int .i64 v, .int .i64 q]) ∧ Below w.heap.size w w' := by
  have KG := hide kg
  have KM := hide km
  have KD := hide kd
  have HK := hide hk
  clear kg km kd hk
  go_enter Tryd.func33, Tryd.ntmps33
  go_wp2_with fail
  refine (KG.out _).mono ?_
  rintro r w' ⟨rfl, rfl⟩
  go_wp2_with fail
  refine (KM.out _ _ (by omega)).mono ?_
  rintro r w' ⟨rfl, rfl⟩
  clear KM
  · skip
    go_wp2_with fail
    refine (KD.out _).mono ?_
    rintro r W ⟨rfl, hb⟩
    clear KD KG
    rcases HK.out with ⟨hk, rfl, rfl⟩ | ⟨rfl, hk⟩
    · have z1 : (q != 0) = true := by simpa using hk
      have z2 : (q == 0) = false := beq_eq_false_iff_ne.2 hk
      clear HK hk
      go_wp2
      go_ret2
      exact ⟨rfl, hb⟩
    · have KT := hide hk
      clear HK hk
      go_wp2_with fail
      go_loop [9] (fun d => ∃ x : Int, N - a + 1 ≤ x ∧ x ≤ N - a + 7 - ((N - a + 3) % 7 + 1) % 7 ∧ d = .int .i64 x) (fun d => (N + 100 - intOf d).toNat)
      case atStart => exact ⟨N - a + 1, by omega, by omega, by simp⟩
      case round =>
        obtain ⟨x, xa, xb, rfl⟩ := hrel
        by_cases hlt : x < N - a + 7 - ((N - a + 3) % 7 + 1) % 7
        · have z1 : ((x + 3) % 7 + 1 != 7) = true := by rw [bne_iff_ne]; omega
          have z2 : ((x + 3) % 7 + 1 == 7) = false := by rw [beq_eq_false_iff_ne]; omega
          go_wp2_with (go_at_call 31; refine (rweekday_any _ _).mono ?_; rintro e w' ⟨rfl, rfl⟩)
          go_round
          case rel => exact ⟨x + 1, by omega, by omega, by simp⟩
          case measure => simp [intOf]; omega
        · have hx : x = N - a + 7 - ((N - a + 3) % 7 + 1) % 7 := by omega
          have z0 : (x + 3) % 7 + 1 = 7 := by omega
          have KX := hide (KT.out x)
          have HX := hide hx
          have z1 : ((x + 3) % 7 + 1 != 7) = false := by rw [z0]; rfl
          have z2 : ((x + 3) % 7 + 1 == 7) = true := by rw [z0]; rfl
          clear hx z0 KT
          go_wp2_with (first | (go_at_call 31; refine (rweekday_any _ _).mono ?_; rintro e w' ⟨rfl, rfl⟩) | (go_at_call 47; refine (KX.out _ HX.out).mono ?_; rintro r w' ⟨rfl, rfl⟩))
          go_ret2
          exact ⟨rfl, hb⟩
/-- what the reference's Easter answers -/
theorem reaster_val (e : Bool) (y v q : Int) (w : World) (y1 : 1 ≤ y) (y2 : y ≤ 20000)
    (h : (4000000 < dnum (eCal e) y 4 19 ∧ v = 0 ∧ q = 4) ∨ (dnum (eCal e) y 4 19 ≤ 4000000 ∧ ((4000000 < eDay e y ∧ v = 0 ∧ q = 4) ∨ (eDay e y ≤ 4000000 ∧ v = eDay e y ∧ q = 0)))) :
    Calls Tryd.prog 33 #[.int .i64 y, .bool e] w fun r w' => r = .returned (.tuple #[.int .i64 v, .int .i64 q]) ∧ Below w.heap.size w w' := by
  have d19 := derr19 (eCal e) y (eCal_or e) y1 y2
  have sb := (st_bd (eCal e) y (eCal_or e) y1).1
  have dd := dn19 (eCal e) y (eCal_or e)
  have lb := Alm.l01_bd (eCal e) y
  have ab := eAhead_bd e y
  have hE : eDay e y = dnum (eCal e) y 4 19 - eAhead e y + 7 - ((dnum (eCal e) y 4 19 - eAhead e y + 3) % 7 + 1) % 7 := rfl
  have hlo : -4000000 ≤ dnum (eCal e) y 4 19 ∧ -4000000 ≤ eDay e y := by omega
  have key : ∃ N k : Int, -4000000 ≤ N ∧ N ≤ 4000000 ∧ (∀ W, Calls Tryd.prog 21 #[.agg #[.int .i64 (eCal e), .int .i64 y, .int .i64 4, .int .i64 19]] W fun r w' => r = .returned (.tuple #[.int .i64 N, .int .i64 k]) ∧ Below W.heap.size W w') ∧
      ((k ≠ 0 ∧ q = k ∧ v = 0) ∨ (k = 0 ∧ ∀ x W, x = N - eAhead e y + 7 - ((N - eAhead e y + 3) % 7 + 1) % 7 → Calls Tryd.prog 47 #[.int .i64 x] W fun r w' => r = .returned (.tuple #[.int .i64 v, .int .i64 q]) ∧ w' = W)) := by
    rcases h with ⟨hf, rfl, rfl⟩ | ⟨hn, h⟩
    · rw [if_pos hf] at d19
      refine ⟨0, 4, by omega, by omega, fun W => ?_, .inl ⟨by omega, rfl, rfl⟩⟩
      have := rday_no (eCal e) y 4 19 W (by omega)
      rw [d19] at this; exact this
    · rw [if_neg (by omega)] at d19
      refine ⟨dnum (eCal e) y 4 19, 0, by omega, hn, fun W => rday_ok (eCal e) y 4 19 W d19, .inr ⟨rfl, fun x W hx => ?_⟩⟩
      rw [← hE] at hx
      subst hx
      rcases h with ⟨hf, rfl, rfl⟩ | ⟨hf, rfl, rfl⟩
      · exact there_no _ W (.inr hf)
      · exact there_ok _ W (by omega) hf
  obtain ⟨N, k, n1, n2, kd, hk⟩ := key
  have g1 := Int.emod_nonneg y (b := 19) (by omega)
  have g2 := Int.emod_lt_of_pos y (b := 19) (by omega)
  cases e
  · have w1 : 0 ≤ wMoon0 y ∧ wMoon0 y < 30 := by unfold wMoon0; omega
    refine reaster_west y (y % 19) (y / 100) (wMoon0 y) (eAhead false y) N k v q w y1 y2 g1 g2 (by omega) (by omega) w1.1 w1.2 n1 n2 ?_ hk (fun W => rmod_any _ _ W (by omega) (by omega)) (fun x W => rmod_any x 30 W (by omega) (by omega)) (fun W => rfloor_any _ _ W (by omega) (by omega) (by omega) (by omega)) (fun x W hx => ?_) kd
    · show (_ ∧ wMoon y = 1) ∨ (_ ∧ _ ∧ wMoon y = 2) ∨ (_ ∧ _ ∧ wMoon y = 1) ∨ (_ ∧ wMoon y = wMoon0 y)
      unfold wMoon
      split <;> omega
    · have := rmod_any x 30 W (by omega) (by omega)
      rw [hx] at this ⊢
      exact this
  · refine reaster_east y (y % 19) (eAhead true y) N k v q w y1 y2 g1 g2 (by omega) (by omega) n1 n2 hk (fun W => rmod_any _ _ W (by omega) (by omega)) (fun x W hx => ?_) kd
    have := rmod_any x 30 W (by omega) (by omega)
    rw [hx] at this ⊢
    exact this
end Go.Proofs.YtcidhedmbcoafaaDoor
