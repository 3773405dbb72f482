/- Easter by the year: where it is, where it is not; plain.DaysEaster. -/
import Derived.Test.YtcidhedmbcoafaaDoorEasterA
namespace Go.Proofs.YtcidhedmbcoafaaDoor
open Go.RowKit Go.Shelf
set_option linter.unusedVariables false
set_option linter.unusedSimpArgs false

theorem eAhead_bd (e : Bool) (y : Int) : 1 ≤ eAhead e y ∧ eAhead e y ≤ 29 := by
  cases e
  · exact wMoon_bd y
  · exact eMoon_bd y
theorem rom (c y : Int) (hc : c = 1 ∨ c = 2) : Alm.months c y = 12 ∧ Alm.mlen c y 3 = 31 ∧ Alm.mlen c y 4 = 30 ∧ Alm.cum c y 2 = 59 + Alm.l01 c y ∧ Alm.cum c y 3 = 90 + Alm.l01 c y := by
  rcases hc with rfl | rfl
  · refine ⟨?_, ?_, ?_, ?_, ?_⟩ <;> simp [Alm.months, Alm.mlen, Alm.cum, Alm.lens] <;> omega
  · refine ⟨?_, ?_, ?_, ?_, ?_⟩ <;> simp [Alm.months, Alm.mlen, Alm.cum, Alm.lens] <;> omega
theorem dn19 (c y : Int) (hc : c = 1 ∨ c = 2) : dnum c y 4 19 = Alm.start c y + 108 + Alm.l01 c y := by
  obtain ⟨_, _, _, _, h⟩ := rom c y hc
  unfold dnum
  rw [show ((4 : Int) - 1).toNat = 3 from rfl, h]; omega
theorem st_bd (c y : Int) (hc : c = 1 ∨ c = 2) (y1 : 1 ≤ y) : -800000 ≤ Alm.start c y ∧ (y ≤ 10000 → Alm.start c y ≤ 3000000) := by
  rcases hc with rfl | rfl
  · simp [Alm.start, Alm.gahead]; omega
  · simp [Alm.start]; omega
theorem derr19 (c y : Int) (hc : c = 1 ∨ c = 2) (y1 : 1 ≤ y) (y2 : y ≤ 20000) : derr c y 4 19 = if 4000000 < dnum c y 4 19 then 4 else 0 := by
  obtain ⟨m, _, l, _, _⟩ := rom c y hc
  have b := st_bd c y hc y1
  have d := dn19 c y hc
  have lb := Alm.l01_bd c y
  unfold derr
  rw [if_neg (by omega), if_neg (by omega), if_neg (by omega), if_neg (by omega)]
  by_cases h : 4000000 < dnum c y 4 19
  · rw [if_pos (Or.inr h), if_pos h]
  · rw [if_neg (by omega), if_neg h]
theorem eCal_or (e : Bool) : eCal e = 1 ∨ eCal e = 2 := by cases e <;> simp [eCal]
theorem easter_ok (e : Bool) (y : Int) (w : World) (y1 : 1 ≤ y) (y2 : y ≤ 20000) (h1 : dnum (eCal e) y 4 19 ≤ 4000000) (h2 : eDay e y ≤ 4000000) :
    Calls Tryd.prog 60 #[.int .i64 y, .bool e] w fun r w' => r = .returned (.tuple #[.int .i64 (eDay e y), .nilIface]) ∧ Below w.heap.size w w' := by
  have hd := derr19 (eCal e) y (eCal_or e) y1 y2
  rw [if_neg (by omega)] at hd
  have nb := (derr_zero _ _ _ _ hd).2.2.2.2
  have ab := eAhead_bd e y
  have dd := dn19 (eCal e) y (eCal_or e)
  have sb := (st_bd (eCal e) y (eCal_or e) y1).1
  have lb := Alm.l01_bd (eCal e) y
  have kd := fun W => day_ok (eCal e) y 4 19 W hd
  have lo : -4000000 ≤ eDay e y := by unfold eDay; omega
  have kt : ∀ x W, x = dnum (eCal e) y 4 19 - eAhead e y + 7 - ((dnum (eCal e) y 4 19 - eAhead e y + 3) % 7 + 1) % 7 → Calls Tryd.prog 68 #[.int .i64 x] W fun r w' => r = .returned (.tuple #[.int .i64 (eDay e y), .nilIface]) ∧ w' = W := by
    intro x W hx
    have : x = eDay e y := hx
    subst this
    exact ifThere_ok _ W lo h2
  cases e
  · exact easter_west y _ _ w _ _ y1 y2 nb.1 nb.2 ab.1 ab.2 (fun W => westMoon_any y W y1 y2) (fun W => westMoon_any y W y1 y2) kd kt
  · exact easter_east y _ _ w _ _ y1 y2 nb.1 nb.2 ab.1 ab.2 (fun W => eastMoon_any y W y1 y2) (fun W => westMoon_any y W y1 y2) kd kt
theorem easter_late (e : Bool) (y : Int) (w : World) (y1 : 1 ≤ y) (y2 : y ≤ 20000) (h1 : dnum (eCal e) y 4 19 ≤ 4000000) (h2 : 4000000 < eDay e y) :
    Calls Tryd.prog 60 #[.int .i64 y, .bool e] w fun r w' => r = .returned (.tuple #[.int .i64 0, .iface 23 (.int .i64 4)]) ∧ Below w.heap.size w w' := by
  have hd := derr19 (eCal e) y (eCal_or e) y1 y2
  rw [if_neg (by omega)] at hd
  have nb := (derr_zero _ _ _ _ hd).2.2.2.2
  have ab := eAhead_bd e y
  have kd := fun W => day_ok (eCal e) y 4 19 W hd
  have kt : ∀ x W, x = dnum (eCal e) y 4 19 - eAhead e y + 7 - ((dnum (eCal e) y 4 19 - eAhead e y + 3) % 7 + 1) % 7 → Calls Tryd.prog 68 #[.int .i64 x] W fun r w' => r = .returned (.tuple #[.int .i64 0, .iface 23 (.int .i64 4)]) ∧ w' = W := by
    intro x W hx
    have : x = eDay e y := hx
    subst this
    exact ifThere_no _ W (Or.inr h2)
  cases e
  · exact easter_west y _ _ w _ _ y1 y2 nb.1 nb.2 ab.1 ab.2 (fun W => westMoon_any y W y1 y2) (fun W => westMoon_any y W y1 y2) kd kt
  · exact easter_east y _ _ w _ _ y1 y2 nb.1 nb.2 ab.1 ab.2 (fun W => eastMoon_any y W y1 y2) (fun W => westMoon_any y W y1 y2) kd kt
set_option maxRecDepth 100000 in
set_option maxHeartbeats 800000 in
theorem easter_far (e : Bool) (y : Int) (w : World) (y1 : 1 ≤ y) (y2 : y ≤ 20000) (h1 : 4000000 < dnum (eCal e) y 4 19) :
    Calls Tryd.prog 60 #[.int .i64 y, .bool e] w fun r w' => r = .returned (.tuple #[.int .i64 0, .iface 23 (.int .i64 4)]) ∧ Below w.heap.size w w' := by
  have hd := derr19 (eCal e) y (eCal_or e) y1 y2
  rw [if_pos h1] at hd
  have kd := fun W => day_no (eCal e) y 4 19 W (by rw [hd]; omega)
  rw [hd] at kd
  have KD := hide kd
  clear kd hd h1
  have KW := hide (fun W => westMoon_any y W y1 y2)
  have KE := hide (fun W => eastMoon_any y W y1 y2)
  have e1 := eMoon_bd y
  have e2 := wMoon_bd y
  generalize eMoon y = em at *
  generalize wMoon y = wm at *
  cases e
  all_goals
    go_enter Tryd.func60, Tryd.ntmps60
    go_wp2_with (first | (go_at_call 80; refine (KW.out _).mono ?_; rintro e w' ⟨rfl, rfl⟩) | (go_at_call 81; refine (KE.out _).mono ?_; rintro e w' ⟨rfl, rfl⟩))
    refine (KD.out _).mono ?_
    rintro e W ⟨rfl, hb⟩
    go_wp2
    go_ret2
    refine ⟨rfl, ?_⟩
    first | exact (((Below.refl _ w).alloc (Nat.le_refl _) _).trans (hb.mono (by simp))) | exact ((((Below.refl _ w).alloc (Nat.le_refl _) _).setCell (by simp) _).trans (hb.mono (by simp)))
theorem easter_no (e : Bool) (y : Int) (w : World) (h : y < 1 ∨ 20000 < y ∨ 4000000 < dnum (eCal e) y 4 19 ∨ 4000000 < eDay e y) :
    Calls Tryd.prog 60 #[.int .i64 y, .bool e] w fun r w' => r = .returned (.tuple #[.int .i64 0, .iface 23 (.int .i64 4)]) ∧ Below w.heap.size w w' := by
  by_cases h0 : y < 1 ∨ 20000 < y
  · exact easter_out e y w h0
  · by_cases h1 : 4000000 < dnum (eCal e) y 4 19
    · exact easter_far e y w (by omega) (by omega) h1
    · exact easter_late e y w (by omega) (by omega) (by omega) (by omega)
theorem peaster_ok (e : Bool) (y : Int) (w : World) (y1 : 1 ≤ y) (y2 : y ≤ 20000) (h1 : dnum (eCal e) y 4 19 ≤ 4000000) (h2 : eDay e y ≤ 4000000) :
    Calls Tryd.prog 32 #[.int .i64 y, .bool e] w fun r w' => r = .returned (.tuple #[.int .i64 (eDay e y), .int .i64 0]) ∧ Below w.heap.size w w' := by
  go_enter Tryd.func32, Tryd.ntmps32
  go_wp2_with fail
  refine (easter_ok e y _ y1 y2 h1 h2).mono ?_
  rintro e W ⟨rfl, hb⟩
  go_wp2_with fail
  refine (tell_nil _).mono ?_
  rintro e W2 ⟨rfl, hb2⟩
  go_wp2
  go_ret2
  exact ⟨rfl, hb.trans (hb2.mono hb.size)⟩
theorem peaster_no (e : Bool) (y : Int) (w : World) (hd : Hd w) (h : y < 1 ∨ 20000 < y ∨ 4000000 < dnum (eCal e) y 4 19 ∨ 4000000 < eDay e y) :
    Calls Tryd.prog 32 #[.int .i64 y, .bool e] w fun r w' => r = .returned (.tuple #[.int .i64 0, .int .i64 4]) ∧ Below w.heap.size w w' := by
  go_enter Tryd.func32, Tryd.ntmps32
  go_wp2_with fail
  refine (easter_no e y _ h).mono ?_
  rintro e W ⟨rfl, hb⟩
  have hd2 := hd.later hb
  go_wp2_with fail
  refine (tell_err _ _ hd2).mono ?_
  rintro e W2 ⟨rfl, hb2⟩
  go_wp2
  go_ret2
  exact ⟨rfl, hb.trans (hb2.mono hb.size)⟩
end Go.Proofs.YtcidhedmbcoafaaDoor
