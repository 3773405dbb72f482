/- DaysMeet: each day has a date, and is that date's day; the next day has the next date. -/
import Derived.Test.YtcidhedmbcoafaaDoorDaysKeep
namespace Go.Proofs.YtcidhedmbcoafaaDoor
open Go.RowKit Go.Shelf
set_option linter.unusedVariables false

theorem pweekday_any (n : Int) (w : World) :
    Calls Tryd.prog 30 #[.int .i64 n] w fun e w' => e = .returned (.int .i64 ((n + 3) % 7 + 1)) ∧ w' = w := by
  go_enter Tryd.func30, Tryd.ntmps30
  go_wp2_with (go_at_call 58; refine (weekday_any _ _).mono ?_; rintro e w' ⟨rfl, rfl⟩)
  go_ret
  exact ⟨rfl, rfl⟩

set_option maxRecDepth 100000 in
set_option maxHeartbeats 4000000 in
theorem meet_same (c day y m d ml mo : Int) (w : World) (h1 : 1 ≤ c) (h2 : c ≤ 10) (d1 : -4000000 ≤ day) (d2 : day < 4000000) (y1 : -20000 ≤ y) (y2 : y ≤ 20000) (m1 : 1 ≤ m) (m2 : m ≤ mo) (mo2 : mo ≤ 13) (e1 : 1 ≤ d) (e2 : d ≤ ml) (ml2 : ml ≤ 31) (hd : d < ml)
    (k1 : ∀ W, Calls Tryd.prog 22 #[.int .i64 c, .int .i64 day] W fun e w' => e = .returned (.tuple #[.agg #[.int .i64 c, .int .i64 y, .int .i64 m, .int .i64 d], .int .i64 0]) ∧ Below W.heap.size W w')
    (k2 : ∀ W, Calls Tryd.prog 20 #[.agg #[.int .i64 c, .int .i64 y, .int .i64 m, .int .i64 d]] W fun e w' => e = .returned (.tuple #[.int .i64 day, .int .i64 0]) ∧ Below W.heap.size W w')
    (k3 : ∀ W, Calls Tryd.prog 22 #[.int .i64 c, .int .i64 (day + 1)] W fun e w' => e = .returned (.tuple #[.agg #[.int .i64 c, .int .i64 y, .int .i64 m, .int .i64 (d + 1)], .int .i64 0]) ∧ Below W.heap.size W w')
    (k4 : ∀ W, Calls Tryd.prog 18 #[.int .i64 c, .int .i64 y, .int .i64 m] W fun e w' => e = .returned (.tuple #[.int .i64 ml, .int .i64 0]) ∧ Below W.heap.size W w')
    (k5 : ∀ W, Calls Tryd.prog 16 #[.int .i64 c, .int .i64 y] W fun e w' => e = .returned (.tuple #[.int .i64 mo, .int .i64 0]) ∧ Below W.heap.size W w') :
    Calls Tryd.prog 9 #[.int .i64 c, .int .i64 day] w fun e w' => e = .returned (.bool true) ∧ Below w.heap.size w w' := by
  have K1 := hide k1
  have K2 := hide k2
  have K3 := hide k3
  have K4 := hide k4
  have K5 := hide k5
  clear k1 k2 k3 k4 k5
  have g1 : (day == 4000000) = false := by simp; omega
  have gw : ((day + 1 + 3) % 7 + 1 != (day + 3 + 1) % 7 + 1) = false := by rw [bne_eq_false_iff_eq]; omega
  have g2 : (d == ml) = false := by simp; omega
  go_enter Tryd.func9, Tryd.ntmps9
  go_wp2_with fail
  refine (K1.out _).mono ?_
  rintro e W ⟨rfl, hb⟩
  have hs := hb.size
  go_wp2_with fail
  refine (K2.out _).mono ?_
  rintro e W2 ⟨rfl, hb2⟩
  have hz2 : W.heap.size < W2.heap.size := by have := hb2.size; simp at this; omega
  have a0 : W2.cell? ⟨W.heap.size, 0, none⟩ = some (.int .i64 c) := by rw [hb2.cell (p := ⟨W.heap.size, 0, none⟩) (by simp)]; simp
  have a1 : W2.cell? ⟨W.heap.size, 1, none⟩ = some (.int .i64 y) := by rw [hb2.cell (p := ⟨W.heap.size, 1, none⟩) (by simp)]; simp
  have a2 : W2.cell? ⟨W.heap.size, 2, none⟩ = some (.int .i64 m) := by rw [hb2.cell (p := ⟨W.heap.size, 2, none⟩) (by simp)]; simp
  have a3 : W2.cell? ⟨W.heap.size, 3, none⟩ = some (.int .i64 d) := by rw [hb2.cell (p := ⟨W.heap.size, 3, none⟩) (by simp)]; simp
  have hbW2 : Below w.heap.size w W2 := (hb.alloc hs _).trans (hb2.mono (by simp; omega))
  clear K1 K2 hb2
  go_wp2_with (go_at_call 30; refine (pweekday_any _ _).mono ?_; rintro e w' ⟨rfl, rfl⟩)
  refine (K3.out _).mono ?_
  rintro e W3 ⟨rfl, hb3⟩
  have hz3 : W.heap.size < W3.heap.size := by have := hb3.size; omega
  have b0 := (hb3.cell (p := ⟨W.heap.size, 0, none⟩) hz2).trans a0
  have b1 := (hb3.cell (p := ⟨W.heap.size, 1, none⟩) hz2).trans a1
  have b2 := (hb3.cell (p := ⟨W.heap.size, 2, none⟩) hz2).trans a2
  have b3 := (hb3.cell (p := ⟨W.heap.size, 3, none⟩) hz2).trans a3
  have hbW3 := hbW2.trans (hb3.mono hbW2.size)
  clear a0 a1 a2 a3 K3 hb3
  go_wp2_with fail
  refine (K4.out _).mono ?_
  rintro e W4 ⟨rfl, hb4⟩
  have hz4 : W3.heap.size < W4.heap.size := by have := hb4.size; simp at this; omega
  have hz4' : W.heap.size < W4.heap.size := by omega
  have c0 : W4.cell? ⟨W.heap.size, 0, none⟩ = some (.int .i64 c) := by rw [hb4.cell (p := ⟨W.heap.size, 0, none⟩) (by simp; omega), World.cell?_alloc_past _ _ _ hz3]; exact b0
  have c1 : W4.cell? ⟨W.heap.size, 1, none⟩ = some (.int .i64 y) := by rw [hb4.cell (p := ⟨W.heap.size, 1, none⟩) (by simp; omega), World.cell?_alloc_past _ _ _ hz3]; exact b1
  have c2 : W4.cell? ⟨W.heap.size, 2, none⟩ = some (.int .i64 m) := by rw [hb4.cell (p := ⟨W.heap.size, 2, none⟩) (by simp; omega), World.cell?_alloc_past _ _ _ hz3]; exact b2
  have c3 : W4.cell? ⟨W.heap.size, 3, none⟩ = some (.int .i64 d) := by rw [hb4.cell (p := ⟨W.heap.size, 3, none⟩) (by simp; omega), World.cell?_alloc_past _ _ _ hz3]; exact b3
  have n0 : W4.cell? ⟨W3.heap.size, 0, none⟩ = some (.int .i64 c) := by rw [hb4.cell (p := ⟨W3.heap.size, 0, none⟩) (by simp)]; simp
  have n1 : W4.cell? ⟨W3.heap.size, 1, none⟩ = some (.int .i64 y) := by rw [hb4.cell (p := ⟨W3.heap.size, 1, none⟩) (by simp)]; simp
  have n2 : W4.cell? ⟨W3.heap.size, 2, none⟩ = some (.int .i64 m) := by rw [hb4.cell (p := ⟨W3.heap.size, 2, none⟩) (by simp)]; simp
  have n3 : W4.cell? ⟨W3.heap.size, 3, none⟩ = some (.int .i64 (d + 1)) := by rw [hb4.cell (p := ⟨W3.heap.size, 3, none⟩) (by simp)]; simp
  have hbW4 : Below w.heap.size w W4 := (hbW3.alloc hbW3.size _).trans (hb4.mono (by have := hbW3.size; simp; omega))
  clear b0 b1 b2 b3 K4 hb4
  go_wp2_with fail
  refine (K5.out _).mono ?_
  rintro e W5 ⟨rfl, hb5⟩
  have x0 := (hb5.cell (p := ⟨W.heap.size, 0, none⟩) hz4').trans c0
  have x1 := (hb5.cell (p := ⟨W.heap.size, 1, none⟩) hz4').trans c1
  have x2 := (hb5.cell (p := ⟨W.heap.size, 2, none⟩) hz4').trans c2
  have x3 := (hb5.cell (p := ⟨W.heap.size, 3, none⟩) hz4').trans c3
  have v0 := (hb5.cell (p := ⟨W3.heap.size, 0, none⟩) hz4).trans n0
  have v1 := (hb5.cell (p := ⟨W3.heap.size, 1, none⟩) hz4).trans n1
  have v2 := (hb5.cell (p := ⟨W3.heap.size, 2, none⟩) hz4).trans n2
  have v3 := (hb5.cell (p := ⟨W3.heap.size, 3, none⟩) hz4).trans n3
  have hz5 : W3.heap.size < W5.heap.size := by have := hb5.size; omega
  have hz5' : W.heap.size < W5.heap.size := by have := hb5.size; omega
  have hbW5 := hbW4.trans (hb5.mono hbW4.size)
  have hs5 := hbW5.size
  clear c0 c1 c2 c3 n0 n1 n2 n3 K5 hb5 hb
  go_wp2
  go_ret
  exact ⟨by simp, by first | exact hbW5.alloc hs5 _ | exact (hbW5.alloc hs5 _).setCell hs5 _ | exact ((hbW5.alloc hs5 _).setCell hs5 _).setCell hs5 _ | assumption⟩

set_option maxRecDepth 100000 in
set_option maxHeartbeats 4000000 in
theorem meet_month (c day y m d ml mo : Int) (w : World) (h1 : 1 ≤ c) (h2 : c ≤ 10) (d1 : -4000000 ≤ day) (d2 : day < 4000000) (y1 : -20000 ≤ y) (y2 : y ≤ 20000) (m1 : 1 ≤ m) (m2 : m ≤ mo) (mo2 : mo ≤ 13) (e1 : 1 ≤ d) (e2 : d ≤ ml) (ml2 : ml ≤ 31) (hd : d = ml) (hm : m < mo)
    (k1 : ∀ W, Calls Tryd.prog 22 #[.int .i64 c, .int .i64 day] W fun e w' => e = .returned (.tuple #[.agg #[.int .i64 c, .int .i64 y, .int .i64 m, .int .i64 d], .int .i64 0]) ∧ Below W.heap.size W w')
    (k2 : ∀ W, Calls Tryd.prog 20 #[.agg #[.int .i64 c, .int .i64 y, .int .i64 m, .int .i64 d]] W fun e w' => e = .returned (.tuple #[.int .i64 day, .int .i64 0]) ∧ Below W.heap.size W w')
    (k3 : ∀ W, Calls Tryd.prog 22 #[.int .i64 c, .int .i64 (day + 1)] W fun e w' => e = .returned (.tuple #[.agg #[.int .i64 c, .int .i64 y, .int .i64 (m + 1), .int .i64 1], .int .i64 0]) ∧ Below W.heap.size W w')
    (k4 : ∀ W, Calls Tryd.prog 18 #[.int .i64 c, .int .i64 y, .int .i64 m] W fun e w' => e = .returned (.tuple #[.int .i64 ml, .int .i64 0]) ∧ Below W.heap.size W w')
    (k5 : ∀ W, Calls Tryd.prog 16 #[.int .i64 c, .int .i64 y] W fun e w' => e = .returned (.tuple #[.int .i64 mo, .int .i64 0]) ∧ Below W.heap.size W w') :
    Calls Tryd.prog 9 #[.int .i64 c, .int .i64 day] w fun e w' => e = .returned (.bool true) ∧ Below w.heap.size w w' := by
  have K1 := hide k1
  have K2 := hide k2
  have K3 := hide k3
  have K4 := hide k4
  have K5 := hide k5
  clear k1 k2 k3 k4 k5
  have g1 : (day == 4000000) = false := by simp; omega
  have gw : ((day + 1 + 3) % 7 + 1 != (day + 3 + 1) % 7 + 1) = false := by rw [bne_eq_false_iff_eq]; omega
  have g2 : (d == ml) = true := by simp; omega
  have g3 : (m == mo) = false := by simp; omega
  clear hd
  go_enter Tryd.func9, Tryd.ntmps9
  go_wp2_with fail
  refine (K1.out _).mono ?_
  rintro e W ⟨rfl, hb⟩
  have hs := hb.size
  go_wp2_with fail
  refine (K2.out _).mono ?_
  rintro e W2 ⟨rfl, hb2⟩
  have hz2 : W.heap.size < W2.heap.size := by have := hb2.size; simp at this; omega
  have a0 : W2.cell? ⟨W.heap.size, 0, none⟩ = some (.int .i64 c) := by rw [hb2.cell (p := ⟨W.heap.size, 0, none⟩) (by simp)]; simp
  have a1 : W2.cell? ⟨W.heap.size, 1, none⟩ = some (.int .i64 y) := by rw [hb2.cell (p := ⟨W.heap.size, 1, none⟩) (by simp)]; simp
  have a2 : W2.cell? ⟨W.heap.size, 2, none⟩ = some (.int .i64 m) := by rw [hb2.cell (p := ⟨W.heap.size, 2, none⟩) (by simp)]; simp
  have a3 : W2.cell? ⟨W.heap.size, 3, none⟩ = some (.int .i64 d) := by rw [hb2.cell (p := ⟨W.heap.size, 3, none⟩) (by simp)]; simp
  have hbW2 : Below w.heap.size w W2 := (hb.alloc hs _).trans (hb2.mono (by simp; omega))
  clear K1 K2 hb2
  go_wp2_with (go_at_call 30; refine (pweekday_any _ _).mono ?_; rintro e w' ⟨rfl, rfl⟩)
  refine (K3.out _).mono ?_
  rintro e W3 ⟨rfl, hb3⟩
  have hz3 : W.heap.size < W3.heap.size := by have := hb3.size; omega
  have b0 := (hb3.cell (p := ⟨W.heap.size, 0, none⟩) hz2).trans a0
  have b1 := (hb3.cell (p := ⟨W.heap.size, 1, none⟩) hz2).trans a1
  have b2 := (hb3.cell (p := ⟨W.heap.size, 2, none⟩) hz2).trans a2
  have b3 := (hb3.cell (p := ⟨W.heap.size, 3, none⟩) hz2).trans a3
  have hbW3 := hbW2.trans (hb3.mono hbW2.size)
  clear a0 a1 a2 a3 K3 hb3
  go_wp2_with fail
  refine (K4.out _).mono ?_
  rintro e W4 ⟨rfl, hb4⟩
  have hz4 : W3.heap.size < W4.heap.size := by have := hb4.size; simp at this; omega
  have hz4' : W.heap.size < W4.heap.size := by omega
  have c0 : W4.cell? ⟨W.heap.size, 0, none⟩ = some (.int .i64 c) := by rw [hb4.cell (p := ⟨W.heap.size, 0, none⟩) (by simp; omega), World.cell?_alloc_past _ _ _ hz3]; exact b0
  have c1 : W4.cell? ⟨W.heap.size, 1, none⟩ = some (.int .i64 y) := by rw [hb4.cell (p := ⟨W.heap.size, 1, none⟩) (by simp; omega), World.cell?_alloc_past _ _ _ hz3]; exact b1
  have c2 : W4.cell? ⟨W.heap.size, 2, none⟩ = some (.int .i64 m) := by rw [hb4.cell (p := ⟨W.heap.size, 2, none⟩) (by simp; omega), World.cell?_alloc_past _ _ _ hz3]; exact b2
  have c3 : W4.cell? ⟨W.heap.size, 3, none⟩ = some (.int .i64 d) := by rw [hb4.cell (p := ⟨W.heap.size, 3, none⟩) (by simp; omega), World.cell?_alloc_past _ _ _ hz3]; exact b3
  have n0 : W4.cell? ⟨W3.heap.size, 0, none⟩ = some (.int .i64 c) := by rw [hb4.cell (p := ⟨W3.heap.size, 0, none⟩) (by simp)]; simp
  have n1 : W4.cell? ⟨W3.heap.size, 1, none⟩ = some (.int .i64 y) := by rw [hb4.cell (p := ⟨W3.heap.size, 1, none⟩) (by simp)]; simp
  have n2 : W4.cell? ⟨W3.heap.size, 2, none⟩ = some (.int .i64 (m + 1)) := by rw [hb4.cell (p := ⟨W3.heap.size, 2, none⟩) (by simp)]; simp
  have n3 : W4.cell? ⟨W3.heap.size, 3, none⟩ = some (.int .i64 1) := by rw [hb4.cell (p := ⟨W3.heap.size, 3, none⟩) (by simp)]; simp
  have hbW4 : Below w.heap.size w W4 := (hbW3.alloc hbW3.size _).trans (hb4.mono (by have := hbW3.size; simp; omega))
  clear b0 b1 b2 b3 K4 hb4
  go_wp2_with fail
  refine (K5.out _).mono ?_
  rintro e W5 ⟨rfl, hb5⟩
  have x0 := (hb5.cell (p := ⟨W.heap.size, 0, none⟩) hz4').trans c0
  have x1 := (hb5.cell (p := ⟨W.heap.size, 1, none⟩) hz4').trans c1
  have x2 := (hb5.cell (p := ⟨W.heap.size, 2, none⟩) hz4').trans c2
  have x3 := (hb5.cell (p := ⟨W.heap.size, 3, none⟩) hz4').trans c3
  have v0 := (hb5.cell (p := ⟨W3.heap.size, 0, none⟩) hz4).trans n0
  have v1 := (hb5.cell (p := ⟨W3.heap.size, 1, none⟩) hz4).trans n1
  have v2 := (hb5.cell (p := ⟨W3.heap.size, 2, none⟩) hz4).trans n2
  have v3 := (hb5.cell (p := ⟨W3.heap.size, 3, none⟩) hz4).trans n3
  have hz5 : W3.heap.size < W5.heap.size := by have := hb5.size; omega
  have hz5' : W.heap.size < W5.heap.size := by have := hb5.size; omega
  have hbW5 := hbW4.trans (hb5.mono hbW4.size)
  have hs5 := hbW5.size
  clear c0 c1 c2 c3 n0 n1 n2 n3 K5 hb5 hb
  go_wp2
  go_ret
  exact ⟨by simp, by first | exact hbW5.alloc hs5 _ | exact (hbW5.alloc hs5 _).setCell hs5 _ | exact ((hbW5.alloc hs5 _).setCell hs5 _).setCell hs5 _ | assumption⟩

set_option maxRecDepth 100000 in
set_option maxHeartbeats 4000000 in
theorem meet_year (c day y m d ml mo : Int) (w : World) (h1 : 1 ≤ c) (h2 : c ≤ 10) (d1 : -4000000 ≤ day) (d2 : day < 4000000) (y1 : -20000 ≤ y) (y2 : y ≤ 20000) (m1 : 1 ≤ m) (m2 : m ≤ mo) (mo2 : mo ≤ 13) (e1 : 1 ≤ d) (e2 : d ≤ ml) (ml2 : ml ≤ 31) (hd : d = ml) (hm : m = mo)
    (k1 : ∀ W, Calls Tryd.prog 22 #[.int .i64 c, .int .i64 day] W fun e w' => e = .returned (.tuple #[.agg #[.int .i64 c, .int .i64 y, .int .i64 m, .int .i64 d], .int .i64 0]) ∧ Below W.heap.size W w')
    (k2 : ∀ W, Calls Tryd.prog 20 #[.agg #[.int .i64 c, .int .i64 y, .int .i64 m, .int .i64 d]] W fun e w' => e = .returned (.tuple #[.int .i64 day, .int .i64 0]) ∧ Below W.heap.size W w')
    (k3 : ∀ W, Calls Tryd.prog 22 #[.int .i64 c, .int .i64 (day + 1)] W fun e w' => e = .returned (.tuple #[.agg #[.int .i64 c, .int .i64 (y + 1), .int .i64 1, .int .i64 1], .int .i64 0]) ∧ Below W.heap.size W w')
    (k4 : ∀ W, Calls Tryd.prog 18 #[.int .i64 c, .int .i64 y, .int .i64 m] W fun e w' => e = .returned (.tuple #[.int .i64 ml, .int .i64 0]) ∧ Below W.heap.size W w')
    (k5 : ∀ W, Calls Tryd.prog 16 #[.int .i64 c, .int .i64 y] W fun e w' => e = .returned (.tuple #[.int .i64 mo, .int .i64 0]) ∧ Below W.heap.size W w') :
    Calls Tryd.prog 9 #[.int .i64 c, .int .i64 day] w fun e w' => e = .returned (.bool true) ∧ Below w.heap.size w w' := by
  have K1 := hide k1
  have K2 := hide k2
  have K3 := hide k3
  have K4 := hide k4
  have K5 := hide k5
  clear k1 k2 k3 k4 k5
  have g1 : (day == 4000000) = false := by simp; omega
  have gw : ((day + 1 + 3) % 7 + 1 != (day + 3 + 1) % 7 + 1) = false := by rw [bne_eq_false_iff_eq]; omega
  have g2 : (d == ml) = true := by simp; omega
  have g3 : (m == mo) = true := by simp; omega
  clear hd hm
  go_enter Tryd.func9, Tryd.ntmps9
  go_wp2_with fail
  refine (K1.out _).mono ?_
  rintro e W ⟨rfl, hb⟩
  have hs := hb.size
  go_wp2_with fail
  refine (K2.out _).mono ?_
  rintro e W2 ⟨rfl, hb2⟩
  have hz2 : W.heap.size < W2.heap.size := by have := hb2.size; simp at this; omega
  have a0 : W2.cell? ⟨W.heap.size, 0, none⟩ = some (.int .i64 c) := by rw [hb2.cell (p := ⟨W.heap.size, 0, none⟩) (by simp)]; simp
  have a1 : W2.cell? ⟨W.heap.size, 1, none⟩ = some (.int .i64 y) := by rw [hb2.cell (p := ⟨W.heap.size, 1, none⟩) (by simp)]; simp
  have a2 : W2.cell? ⟨W.heap.size, 2, none⟩ = some (.int .i64 m) := by rw [hb2.cell (p := ⟨W.heap.size, 2, none⟩) (by simp)]; simp
  have a3 : W2.cell? ⟨W.heap.size, 3, none⟩ = some (.int .i64 d) := by rw [hb2.cell (p := ⟨W.heap.size, 3, none⟩) (by simp)]; simp
  have hbW2 : Below w.heap.size w W2 := (hb.alloc hs _).trans (hb2.mono (by simp; omega))
  clear K1 K2 hb2
  go_wp2_with (go_at_call 30; refine (pweekday_any _ _).mono ?_; rintro e w' ⟨rfl, rfl⟩)
  refine (K3.out _).mono ?_
  rintro e W3 ⟨rfl, hb3⟩
  have hz3 : W.heap.size < W3.heap.size := by have := hb3.size; omega
  have b0 := (hb3.cell (p := ⟨W.heap.size, 0, none⟩) hz2).trans a0
  have b1 := (hb3.cell (p := ⟨W.heap.size, 1, none⟩) hz2).trans a1
  have b2 := (hb3.cell (p := ⟨W.heap.size, 2, none⟩) hz2).trans a2
  have b3 := (hb3.cell (p := ⟨W.heap.size, 3, none⟩) hz2).trans a3
  have hbW3 := hbW2.trans (hb3.mono hbW2.size)
  clear a0 a1 a2 a3 K3 hb3
  go_wp2_with fail
  refine (K4.out _).mono ?_
  rintro e W4 ⟨rfl, hb4⟩
  have hz4 : W3.heap.size < W4.heap.size := by have := hb4.size; simp at this; omega
  have hz4' : W.heap.size < W4.heap.size := by omega
  have c0 : W4.cell? ⟨W.heap.size, 0, none⟩ = some (.int .i64 c) := by rw [hb4.cell (p := ⟨W.heap.size, 0, none⟩) (by simp; omega), World.cell?_alloc_past _ _ _ hz3]; exact b0
  have c1 : W4.cell? ⟨W.heap.size, 1, none⟩ = some (.int .i64 y) := by rw [hb4.cell (p := ⟨W.heap.size, 1, none⟩) (by simp; omega), World.cell?_alloc_past _ _ _ hz3]; exact b1
  have c2 : W4.cell? ⟨W.heap.size, 2, none⟩ = some (.int .i64 m) := by rw [hb4.cell (p := ⟨W.heap.size, 2, none⟩) (by simp; omega), World.cell?_alloc_past _ _ _ hz3]; exact b2
  have c3 : W4.cell? ⟨W.heap.size, 3, none⟩ = some (.int .i64 d) := by rw [hb4.cell (p := ⟨W.heap.size, 3, none⟩) (by simp; omega), World.cell?_alloc_past _ _ _ hz3]; exact b3
  have n0 : W4.cell? ⟨W3.heap.size, 0, none⟩ = some (.int .i64 c) := by rw [hb4.cell (p := ⟨W3.heap.size, 0, none⟩) (by simp)]; simp
  have n1 : W4.cell? ⟨W3.heap.size, 1, none⟩ = some (.int .i64 (y + 1)) := by rw [hb4.cell (p := ⟨W3.heap.size, 1, none⟩) (by simp)]; simp
  have n2 : W4.cell? ⟨W3.heap.size, 2, none⟩ = some (.int .i64 1) := by rw [hb4.cell (p := ⟨W3.heap.size, 2, none⟩) (by simp)]; simp
  have n3 : W4.cell? ⟨W3.heap.size, 3, none⟩ = some (.int .i64 1) := by rw [hb4.cell (p := ⟨W3.heap.size, 3, none⟩) (by simp)]; simp
  have hbW4 : Below w.heap.size w W4 := (hbW3.alloc hbW3.size _).trans (hb4.mono (by have := hbW3.size; simp; omega))
  clear b0 b1 b2 b3 K4 hb4
  go_wp2_with fail
  refine (K5.out _).mono ?_
  rintro e W5 ⟨rfl, hb5⟩
  have x0 := (hb5.cell (p := ⟨W.heap.size, 0, none⟩) hz4').trans c0
  have x1 := (hb5.cell (p := ⟨W.heap.size, 1, none⟩) hz4').trans c1
  have x2 := (hb5.cell (p := ⟨W.heap.size, 2, none⟩) hz4').trans c2
  have x3 := (hb5.cell (p := ⟨W.heap.size, 3, none⟩) hz4').trans c3
  have v0 := (hb5.cell (p := ⟨W3.heap.size, 0, none⟩) hz4).trans n0
  have v1 := (hb5.cell (p := ⟨W3.heap.size, 1, none⟩) hz4).trans n1
  have v2 := (hb5.cell (p := ⟨W3.heap.size, 2, none⟩) hz4).trans n2
  have v3 := (hb5.cell (p := ⟨W3.heap.size, 3, none⟩) hz4).trans n3
  have hz5 : W3.heap.size < W5.heap.size := by have := hb5.size; omega
  have hz5' : W.heap.size < W5.heap.size := by have := hb5.size; omega
  have hbW5 := hbW4.trans (hb5.mono hbW4.size)
  have hs5 := hbW5.size
  clear c0 c1 c2 c3 n0 n1 n2 n3 K5 hb5 hb
  go_wp2
  go_ret
  exact ⟨by simp, by first | exact hbW5.alloc hs5 _ | exact (hbW5.alloc hs5 _).setCell hs5 _ | exact ((hbW5.alloc hs5 _).setCell hs5 _).setCell hs5 _ | assumption⟩
end Go.Proofs.YtcidhedmbcoafaaDoor
