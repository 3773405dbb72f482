/- The reference: how long years are, and with which day they begin. -/
import Derived.Test.YtafaacliphdndaaGreatDoorMClockBack8
import Derived.Test.YtafaacliphdndaaGreatDoorMClockBack7
namespace Go.Proofs.YtafaacliphdndaaGreatDoor
open Go.RowKit Go.Shelf
set_option linter.unusedVariables false
set_option linter.unusedSimpArgs false

theorem lens_7 (y : Int) (w : World) (y1 : -100000 ≤ y) (y2 : y ≤ 100000) : Calls Tryz.prog 28 #[.int .i64 7, .int .i64 y] w (IsLens 7 y w) := by
  have hm := Alm.hlen_mem y
  have hb := Alm.heb_bd y (by omega) (by omega)
  have e : Alm.heb (y + 1) = Alm.heb y + Alm.hlen y := by unfold Alm.hlen; omega
  have k0 := fun W => rhebrew_any y W (by omega) (by omega)
  have k1 := fun W => rhebrew_any (y + 1) W (by omega) (by omega)
  rw [e] at k1
  have kl := fun W => leapYear_any 7 y W y1 y2
  have hl : Alm.leap 7 y = decide ((7 * y + 1) % 19 < 7) := by simp [Alm.leap]
  rw [hl] at kl
  by_cases h : (7 * y + 1) % 19 < 7
  · rw [decide_eq_true h] at kl hm
    simp only [if_true, List.mem_cons, List.not_mem_nil, or_false] at hm
    refine lens_7l y (Alm.heb y) (Alm.hlen y) w hm (by omega) (by omega) y1 y2 ?_ kl k1 k0
    rcases hm with hm | hm | hm <;> simp [Alm.lens, Alm.hl, hm, h]
  · rw [decide_eq_false h] at kl hm
    simp only [Bool.false_eq_true, if_false, List.mem_cons, List.not_mem_nil, or_false] at hm
    refine lens_7c y (Alm.heb y) (Alm.hlen y) w hm (by omega) (by omega) y1 y2 ?_ kl k1 k0
    rcases hm with hm | hm | hm <;> simp [Alm.lens, Alm.hl, hm, h]
theorem lens_any (c y : Int) (w : World) (h1 : 1 ≤ c) (h2 : c ≤ 10) (y1 : -100000 ≤ y) (y2 : y ≤ 100000) : Calls Tryz.prog 28 #[.int .i64 c, .int .i64 y] w (IsLens c y w) := by
  have hc : c = 1 ∨ c = 2 ∨ c = 3 ∨ c = 4 ∨ c = 5 ∨ c = 6 ∨ c = 7 ∨ c = 8 ∨ c = 9 ∨ c = 10 := by omega
  rcases hc with rfl | rfl | rfl | rfl | rfl | rfl | rfl | rfl | rfl | rfl
  · exact lens_1 y w y1 y2
  · exact lens_2 y w y1 y2
  · exact lens_3 y w y1 y2
  · exact lens_4 y w y1 y2
  · exact lens_5 y w y1 y2
  · exact lens_6 y w y1 y2
  · exact lens_7 y w y1 y2
  · exact lens_8 y w y1 y2
  · exact lens_9 y w y1 y2
  · exact lens_10 y w y1 y2
theorem mlen_get (c y : Int) (k : Nat) (h : k < (Alm.lens c y).length) : (Alm.lens c y)[k] = Alm.mlen c y (k + 1) := by
  unfold Alm.mlen
  have e : ((k : Int) + 1 - 1).toNat = k := by omega
  rw [e, List.getD_eq_getElem?_getD, List.getElem?_eq_getElem h, Option.getD_some]

set_option maxHeartbeats 800000 in
theorem ydays_any (c y : Int) (w : World) (h1 : 1 ≤ c) (h2 : c ≤ 10) (y1 : -100000 ≤ y) (y2 : y ≤ 100000) :
    Calls Tryz.prog 78 #[.int .i64 c, .int .i64 y] w fun e w' => e = .returned (.int .i64 (Alm.ylen c y)) ∧ Below w.heap.size w w' := by
  have kl := hide (fun W => lens_any c y W h1 h2 y1 y2)
  go_enter Tryz.func78, Tryz.ntmps78
  go_wp2_with fail
  refine (kl.out _).mono ?_
  rintro e W ⟨b, cap, rfl, hR, hc1, hc2, hbb, hb⟩
  clear kl
  have hcell : ∀ k, k < (Alm.lens c y).length → W.cell? ⟨b, k, none⟩ = some (.int .i64 (Alm.mlen c y (k + 1))) := fun k hk => by rw [hR k hk, mlen_get c y k hk]
  have hmo := Alm.months_bd c y
  have hall := hide (Alm.cum_all c y)
  have hcs := fun k hk => Alm.cum_succ c y k hk
  have hcb := fun k hk => Alm.cum_bd c y k hk
  have hml := fun k hk1 hk2 => Alm.mlen_bd c y k hk1 hk2
  have em : Alm.months c y = (Alm.lens c y).length := rfl
  rw [em] at hmo hall hcs hcb hml
  clear hR em
  generalize hn : (Alm.lens c y).length = n at *
  clear hn
  have HC := hide hcell
  have HS := hide hcs
  clear hcell hcs
  unfold maxLen at hc2
  go_wp2
  go_loop [5, 7] (fun s i => ∃ k : Nat, k ≤ n ∧ i = .int .i64 k ∧ s = .int .i64 (Alm.cum c y k)) (fun _ i => n - (intOf i).toNat)
  case atStart => exact ⟨0, Nat.zero_le _, rfl, by simp [Alm.cum]⟩
  case round =>
    obtain ⟨k, hk, rfl, rfl⟩ := hrel
    have b1 := hcb k hk
    by_cases hlt : k < n
    · have hk1 := HC.out k hlt
      have b2 := hml (k + 1) (by omega) (by omega)
      have HE := hide (HS.out k hlt)
      clear hcb hml
      generalize Alm.mlen c y (k + 1) = m at *
      generalize Alm.cum c y k = cu at *
      go_wp2
      go_round
      case rel => exact ⟨k + 1, by omega, by simp, by rw [HE.out]⟩
      case measure => simp [intOf]; omega
    · obtain rfl : k = n := by omega
      clear hcb hml
      rw [hall.out]
      go_wp2
      go_ret
      exact ⟨rfl, hb⟩

set_option maxHeartbeats 1600000 in
theorem ystart_steps (c y n D q f : Int) (w : World) (h1 : 1 ≤ c) (h2 : c ≤ 10) (h7 : c ≠ 7) (hc1 : c ≠ 1) (n1 : 1 ≤ n) (n2 : n ≤ 4000) (D1 : 0 ≤ D) (D2 : D ≤ 2000000)
    (y1 : -30000 ≤ y) (y2 : y ≤ 30000) (q1 : -100000 ≤ q * n) (q2 : q * n ≤ 100000) (q3 : -40000000 ≤ q * D) (q4 : q * D ≤ 40000000) (r1 : 1 ≤ y - q * n) (r2 : y - q * n ≤ n) (hf : Alm.start c 1 = f) (f1 : -10000000 ≤ f) (f2 : f ≤ 10000000) (qb1 : -100000 ≤ q) (qb2 : q ≤ 100000)
    (kf : ∀ W, Calls Tryz.prog 77 #[.int .i64 c] W fun e w' => e = .returned (.int .i64 f) ∧ Below W.heap.size W w')
    (kr : ∀ W, Calls Tryz.prog 81 #[.int .i64 c] W fun e w' => e = .returned (.tuple #[.int .i64 n, .int .i64 D]) ∧ w' = W)
    (kq : ∀ W, Calls Tryz.prog 25 #[.int .i64 (y - 1), .int .i64 n] W fun e w' => e = .returned (.int .i64 q) ∧ w' = W) :
    Calls Tryz.prog 53 #[.int .i64 c, .int .i64 y] w fun e w' => e = .returned (.int .i64 (q * D + Alm.start c (y - q * n))) ∧ Below w.heap.size w w' := by
  have KF := hide kf
  have KR := hide kr
  have KQ := hide kq
  have HF := hide hf
  have g7 : (c == 7) = false := beq_eq_false_iff_ne.2 h7
  have g1 : (c == 1) = false := beq_eq_false_iff_ne.2 hc1
  clear kf kr kq hf h7 hc1
  go_enter Tryz.func53, Tryz.ntmps53
  go_wp2_with fail
  refine (KR.out _).mono ?_
  rintro e w' ⟨rfl, rfl⟩
  go_wp2_with fail
  refine (KQ.out _).mono ?_
  rintro e w' ⟨rfl, rfl⟩
  go_wp2_with fail
  refine (KF.out _).mono ?_
  rintro e W ⟨rfl, hb⟩
  clear KF KR KQ
  go_wp2_with fail
  go_loopw [8, 9] (fun d x wr => ∃ k : Int, 1 ≤ k ∧ k ≤ y - q * n ∧ x = .int .i64 k ∧ d = .int .i64 (q * D + Alm.start c k) ∧ Hid (Below w'.heap.size w' wr)) (fun _ x _ => (4000 - intOf x).toNat)
  case atStart => exact ⟨1, by omega, by omega, rfl, by rw [HF.out, Int.add_comm], hide hb⟩
  case round =>
    obtain ⟨k, ka, kb, rfl, rfl, hbb⟩ := hrel
    have sb := Alm.start_bd c k h1 h2 (by omega) (by omega)
    by_cases hlt : k < y - q * n
    · have hy := Alm.ylen_bd c k
      have hs := hide (Alm.start_succ c k h1 h2)
      have KD := hide (ydays_any c k wr h1 h2 (by omega) (by omega))
      generalize Alm.ylen c k = L at *
      generalize hst : Alm.start c k = st at *
      clear hst
      go_wp2_with fail
      refine KD.out.mono ?_
      rintro e w2 ⟨rfl, hb2⟩
      go_wp2
      go_roundw
      case rel => exact ⟨k + 1, by omega, by omega, rfl, by rw [hs.out, Int.add_assoc], hide (hbb.out.trans (hb2.mono hbb.out.size))⟩
      case measure => simp [intOf]; omega
    · obtain rfl : k = y - q * n := by omega
      go_wp2
      go_ret
      exact ⟨rfl, hbb.out⟩
theorem ystart_7 (y : Int) (w : World) (y1 : -30000 ≤ y) (y2 : y ≤ 30000) :
    Calls Tryz.prog 53 #[.int .i64 7, .int .i64 y] w fun e w' => e = .returned (.int .i64 (Alm.start 7 y)) ∧ Below w.heap.size w w' := by
  have KF := hide (fun W => first_any 7 W (by omega) (by omega))
  have KH := hide (fun W => rhebrew_any y W (by omega) (by omega))
  have b := Alm.heb_bd y (by omega) (by omega)
  have e1 : Alm.first 7 = -2092590 := rfl
  have e2 : Alm.start 7 y = -2092590 + Alm.heb y := rfl
  rw [e1] at KF
  rw [e2]
  clear e1 e2
  generalize Alm.heb y = h at *
  go_enter Tryz.func53, Tryz.ntmps53
  go_wp2_with fail
  refine (KF.out _).mono ?_
  rintro e W ⟨rfl, hb⟩
  go_wp2_with fail
  refine (KH.out _).mono ?_
  rintro e w' ⟨rfl, rfl⟩
  go_wp2
  go_ret
  exact ⟨rfl, hb⟩
theorem ystart_1 (y : Int) (w : World) (y1 : -30000 ≤ y) (y2 : y ≤ 30000) :
    Calls Tryz.prog 53 #[.int .i64 1, .int .i64 y] w fun e w' => e = .returned (.int .i64 (Alm.start 1 y)) ∧ Below w.heap.size w w' := by
  have KF := hide (fun W => first_any 1 W (by omega) (by omega))
  have e1 : Alm.first 1 = -719162 := rfl
  rw [e1] at KF
  have e2 := hide (show Alm.start 1 y = -719162 + 365 * (y - 1) + (y - 1) / 4 - (y - 1) / 100 + (y - 1) / 400 from by simp [Alm.start, Alm.gahead]; omega)
  go_enter Tryz.func53, Tryz.ntmps53
  go_wp2_with fail
  refine (KF.out _).mono ?_
  rintro e W ⟨rfl, hb⟩
  go_wp2_with (go_at_call 25; refine (rfloor_any _ _ _ (by omega) (by omega) (by omega) (by omega)).mono ?_; rintro e w' ⟨rfl, rfl⟩)
  go_ret
  exact ⟨ret_int (by rw [e2.out]), hb⟩
theorem ystart_any (c y : Int) (w : World) (h1 : 1 ≤ c) (h2 : c ≤ 10) (y1 : -30000 ≤ y) (y2 : y ≤ 30000) :
    Calls Tryz.prog 53 #[.int .i64 c, .int .i64 y] w fun e w' => e = .returned (.int .i64 (Alm.start c y)) ∧ Below w.heap.size w w' := by
  have hc : c = 7 ∨ c = 1 ∨ (c = 2 ∨ c = 3 ∨ c = 4 ∨ c = 5 ∨ c = 6 ∨ c = 8 ∨ c = 9 ∨ c = 10) := by omega
  rcases hc with rfl | rfl | hc
  · exact ystart_7 y w y1 y2
  · exact ystart_1 y w y1 y2
  · have e := Alm.start_round c (y - (y - 1) / Alm.rYears c * Alm.rYears c) ((y - 1) / Alm.rYears c) h1 h2 (by omega)
    have e0 : y - (y - 1) / Alm.rYears c * Alm.rYears c + Alm.rYears c * ((y - 1) / Alm.rYears c) = y := by rw [Int.mul_comm (Alm.rYears c)]; omega
    rw [e0, Int.mul_comm (Alm.rDays c), Int.add_comm] at e
    rw [e]
    refine ystart_steps c y (Alm.rYears c) (Alm.rDays c) ((y - 1) / Alm.rYears c) (Alm.first c) w h1 h2 (by omega) (by omega) ?_ ?_ ?_ ?_ y1 y2 ?_ ?_ ?_ ?_ ?_ ?_ (Alm.start_first c h1 h2) ?_ ?_ ?_ ?_ (fun W => first_any c W h1 h2) (fun W => rround_any c W h1 h2) (fun W => rfloor_any _ _ W ?_ ?_ (by omega) (by omega))
    all_goals
      rcases hc with rfl | rfl | rfl | rfl | rfl | rfl | rfl | rfl <;> simp [Alm.rYears, Alm.rDays, Alm.first] <;> omega
end Go.Proofs.YtafaacliphdndaaGreatDoor
