/- DaysEaster: Easter is a Sunday from 22 March to 25 April, of its own calendar. -/
import Derived.Test.YtemhjdhoioafdaaDoorEasterB
namespace Go.Proofs.YtemhjdhoioafdaaDoor
open Go.RowKit Go.Shelf
set_option linter.unusedVariables false
set_option linter.unusedSimpArgs false

/-- Easter's date -/
theorem easter_date (e : Bool) (y : Int) : ∃ m d, Alm.IsDate (eCal e) (eDay e y) y m d ∧ ((m = 3 ∧ 22 ≤ d ∧ d ≤ 31) ∨ (m = 4 ∧ 1 ≤ d ∧ d ≤ 25)) := by
  obtain ⟨r1, r2, r3, r4, r5⟩ := rom (eCal e) y (eCal_or e)
  have dd := dn19 (eCal e) y (eCal_or e)
  have ab := eAhead_bd e y
  have hr : dnum (eCal e) y 4 19 - 28 ≤ eDay e y ∧ eDay e y ≤ dnum (eCal e) y 4 19 + 6 := by unfold eDay; omega
  rw [dd] at hr
  by_cases h : eDay e y ≤ Alm.start (eCal e) y + 108 + Alm.l01 (eCal e) y - 19
  · refine ⟨3, eDay e y - (Alm.start (eCal e) y + 108 + Alm.l01 (eCal e) y) + 50, ⟨by omega, by omega, by omega, by omega, ?_⟩, by omega⟩
    rw [show ((3 : Int) - 1).toNat = 2 from rfl, r4]; omega
  · refine ⟨4, eDay e y - (Alm.start (eCal e) y + 108 + Alm.l01 (eCal e) y) + 19, ⟨by omega, by omega, by omega, by omega, ?_⟩, by omega⟩
    rw [show ((4 : Int) - 1).toNat = 3 from rfl, r5]; omega
theorem easter_sunday (e : Bool) (y : Int) : (eDay e y + 3) % 7 + 1 = 7 := by unfold eDay; omega

set_option maxRecDepth 100000 in
set_option maxHeartbeats 2000000 in
theorem es_no (e : Bool) (y : Int) (w : World) (hd : Hd w) (h : y < 1 ∨ 20000 < y ∨ 4000000 < dnum (eCal e) y 4 19 ∨ 4000000 < eDay e y) :
    Calls Tryd.prog 12 #[.int .i64 y, .bool e] w fun r w' => r = .returned (.bool true) ∧ Below w.heap.size w w' := by
  have K1 := hide (peaster_no e y w hd h)
  have hy : y < 1 ∨ (1 ≤ y ∧ 10000 < y) := by
    by_cases h0 : y < 1
    · exact Or.inl h0
    · have sb := (st_bd (eCal e) y (eCal_or e) (by omega)).2
      have dd := dn19 (eCal e) y (eCal_or e)
      have lb := Alm.l01_bd (eCal e) y
      have ab := eAhead_bd e y
      have : eDay e y ≤ dnum (eCal e) y 4 19 + 7 := by unfold eDay; omega
      omega
  clear h
  rcases hy with h | ⟨h0, h⟩
  all_goals
    go_enter Tryd.func12, Tryd.ntmps12
    go_wp2_with fail
    refine K1.out.mono ?_
    rintro e W ⟨rfl, hb⟩
    go_wp2
    go_ret
    exact ⟨by simp, hb⟩
set_option maxRecDepth 100000 in
set_option maxHeartbeats 2000000 in
theorem es_yes (e : Bool) (y n m d : Int) (w : World) (hn : (n + 3) % 7 + 1 = 7) (hmd : (m = 3 ∧ 22 ≤ d ∧ d ≤ 31) ∨ (m = 4 ∧ 1 ≤ d ∧ d ≤ 25))
    (k1 : ∀ W, Calls Tryd.prog 32 #[.int .i64 y, .bool e] W fun r w' => r = .returned (.tuple #[.int .i64 n, .int .i64 0]) ∧ Below W.heap.size W w')
    (k2 : ∀ W, Calls Tryd.prog 22 #[.int .i64 (eCal e), .int .i64 n] W fun r w' => r = .returned (.tuple #[.agg #[.int .i64 (eCal e), .int .i64 y, .int .i64 m, .int .i64 d], .int .i64 0]) ∧ Below W.heap.size W w') :
    Calls Tryd.prog 12 #[.int .i64 y, .bool e] w fun r w' => r = .returned (.bool true) ∧ Below w.heap.size w w' := by
  have KW := hide (show ∀ W, Calls Tryd.prog 30 #[.int .i64 n] W fun e w' => e = .returned (.int .i64 7) ∧ w' = W by
    intro W; have := pweekday_any n W; rw [hn] at this; exact this)
  have K1 := hide k1
  cases e <;> simp only [eCal] at k2 <;> (try simp only [if_true, Bool.false_eq_true, if_false] at k2) <;> rcases hmd with ⟨hm, hm1, hm2⟩ | ⟨hm, hm1, hm2⟩
  all_goals
    subst hm
    have K2 := hide k2
    clear k1 k2 hn
    go_enter Tryd.func12, Tryd.ntmps12
    go_wp2_with fail
    refine (K1.out _).mono ?_
    rintro e W ⟨rfl, hb⟩
    go_wp2_with fail
    refine (K2.out _).mono ?_
    rintro e W2 ⟨rfl, hb2⟩
    have hbW := hb.trans (hb2.mono hb.size)
    go_wp2_with (go_at_call 30; refine (KW.out _).mono ?_; rintro e w' ⟨rfl, rfl⟩)
    go_ret
    exact ⟨by simp, hbW.alloc hbW.size _⟩
theorem easter_walk (y : Int) (e : Bool) (w : World) (hd : Hd w) :
    Calls Tryd.prog 12 #[.int .i64 y, .bool e] w fun r w' => r = .returned (.bool true) ∧ Below w.heap.size w w' := by
  by_cases h : y < 1 ∨ 20000 < y ∨ 4000000 < dnum (eCal e) y 4 19 ∨ 4000000 < eDay e y
  · exact es_no e y w hd h
  · obtain ⟨m, d, hD, hmd⟩ := easter_date e y
    have c := eCal_or e
    have dd := dn19 (eCal e) y c
    have ab := eAhead_bd e y
    have sb := (st_bd (eCal e) y c (by omega)).1
    have lb := Alm.l01_bd (eCal e) y
    have lo : -4000000 ≤ eDay e y := by unfold eDay; omega
    exact es_yes e y _ m d w (easter_sunday e y) hmd (fun W => peaster_ok e y W (by omega) (by omega) (by omega) (by omega)) (fun W => pof_ok (eCal e) _ y m d W (by omega) (by omega) lo (by omega) hD)
end Go.Proofs.YtemhjdhoioafdaaDoor
