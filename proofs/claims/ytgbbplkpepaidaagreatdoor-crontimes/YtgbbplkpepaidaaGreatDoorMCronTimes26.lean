/- calendarOf: each calendar by its number. -/
import Derived.Test.YtgbbplkpepaidaaGreatDoorMCronTimes25
import Derived.Test.YtgbbplkpepaidaaGreatDoorMCronTimes16
namespace Go.Proofs.YtgbbplkpepaidaaGreatDoor
open Go.RowKit Go.Shelf

/-! ### the Hebrew calendar's functions -/
theorem heb1_any (g0 : Nat) (l0 : Array Value) (is : Int → Bool) (y R : Int) (S : Nat → Prop) (p1 : Nat) (w : World) (h1 : w.cell? ⟨p1, 0, none⟩ = some (fv g0 l0)) (hl : FnIs (fv g0 l0) (fun y => .bool (is y)) (-R) R S w) (y1 : -R ≤ y) (y2 : y ≤ R) :
    Calls Tryz.prog 99 #[.int .i64 y, ptr p1] w fun e w' => e = .returned (.int .i64 (if is y = true then 13 else 12)) ∧ ∃ q, w' = w.drewN q := by
  have en := hl.enters
  have hk := hl.calls w y (Since.refl _ _) y1 y2
  clear hl
  cases hi : is y
  all_goals
    simp only [hi] at hk
    go_enter Tryz.func99, Tryz.ntmps99
    go_wp2_with (go_at_fn g0; refine hk.mono ?_; rintro e w' ⟨rfl, q, rfl⟩)
    go_ret
    exact ⟨rfl, _, rfl⟩
theorem endsWith_any (y d : Int) (w : World) (h1 : -100000 ≤ y) (h2 : y ≤ 100000) :
    Calls Tryz.prog 111 #[.int .i64 y, .int .i64 d] w fun e w' => e = .returned (.bool (Alm.hlen y % 10 == d)) ∧ w' = w := by
  have b := Alm.hlen_bd y
  have e1 : Alm.start 7 (y + 1) - Alm.start 7 y = Alm.hlen y := by simp [Alm.start, Alm.hlen]; omega
  have b1 := Alm.heb_bd y (by omega) (by omega)
  have b2 := Alm.heb_bd (y + 1) (by omega) (by omega)
  have s1 : Alm.start 7 y = -2092590 + Alm.heb y := by simp [Alm.start]
  have s2 : Alm.start 7 (y + 1) = -2092590 + Alm.heb (y + 1) := by simp [Alm.start]
  have b3 : -50000000 ≤ Alm.start 7 y ∧ Alm.start 7 y ≤ 50000000 := by omega
  have b4 : -50000000 ≤ Alm.start 7 (y + 1) ∧ Alm.start 7 (y + 1) ≤ 50000000 := by omega
  have E1 := hide e1
  have hn : 0 ≤ Alm.start 7 (y + 1) - Alm.start 7 y := by omega
  clear e1 s1 s2 b1 b2 b
  go_enter Tryz.func111, Tryz.ntmps111
  go_wp2_with (go_at_call 102; refine (hstart_any _ _ (by omega) (by omega)).mono ?_; rintro e w' ⟨rfl, rfl⟩)
  go_ret
  exact ⟨ret_bool (by rw [← E1.out]), rfl⟩
/-- how long a month is, counted as in a year that is no leap year -/
def hmon (y m : Int) : Int := if m = 2 ∧ Alm.hlen y % 10 = 5 then 30 else if m = 3 ∧ Alm.hlen y % 10 = 3 then 29 else 29 + m % 2
theorem hebrewLength_any (y m : Int) (w : World) (h1 : -100000 ≤ y) (h2 : y ≤ 100000) (m1 : 1 ≤ m) (m2 : m ≤ 13) :
    Calls Tryz.prog 101 #[.int .i64 y, .int .i64 m] w fun e w' => e = .returned (.int .i64 (hmon y m)) ∧ w' = w := by
  have he := fun (d : Int) (W : World) => endsWith_any y d W h1 h2
  by_cases c2 : m = 2
  · subst c2
    by_cases c5 : Alm.hlen y % 10 = 5
    · have e : hmon y 2 = 30 := by simp [hmon, c5]
      have E := hide e; clear e
      have k := he 5
      rw [c5] at k; clear he c5
      go_enter Tryz.func101, Tryz.ntmps101
      go_wp2_with (go_at_call 111; refine (k _).mono ?_; rintro e w' ⟨rfl, rfl⟩)
      go_ret
      exact ⟨ret_int E.out.symm, rfl⟩
    · have e : hmon y 2 = 29 := by simp [hmon, c5]
      have E := hide e; clear e
      have k := he 5
      rw [show (Alm.hlen y % 10 == 5) = false from by simpa using c5] at k; clear he c5
      go_enter Tryz.func101, Tryz.ntmps101
      go_wp2_with (go_at_call 111; refine (k _).mono ?_; rintro e w' ⟨rfl, rfl⟩)
      go_ret
      exact ⟨ret_int E.out.symm, rfl⟩
  · by_cases c3 : m = 3
    · subst c3
      by_cases c5 : Alm.hlen y % 10 = 3
      · have e : hmon y 3 = 29 := by simp [hmon, c5]
        have E := hide e; clear e
        have k := he 3
        rw [c5] at k; clear he c5
        go_enter Tryz.func101, Tryz.ntmps101
        go_wp2_with (go_at_call 111; refine (k _).mono ?_; rintro e w' ⟨rfl, rfl⟩)
        go_ret
        exact ⟨ret_int E.out.symm, rfl⟩
      · have e : hmon y 3 = 30 := by simp [hmon, c5]
        have E := hide e; clear e
        have k := he 3
        rw [show (Alm.hlen y % 10 == 3) = false from by simpa using c5] at k; clear he c5
        go_enter Tryz.func101, Tryz.ntmps101
        go_wp2_with (go_at_call 111; refine (k _).mono ?_; rintro e w' ⟨rfl, rfl⟩)
        go_ret
        exact ⟨ret_int E.out.symm, rfl⟩
    · have e : hmon y m = 29 + m % 2 := by simp [hmon, c2, c3]
      have E := hide e; clear e
      have d2 : (m == 2) = false := by simpa using c2
      have d3 : (m == 3) = false := by simpa using c3
      clear he c2 c3
      go_enter Tryz.func101, Tryz.ntmps101
      go_wp2_with fail
      go_ret
      exact ⟨ret_int E.out.symm, rfl⟩
theorem heb2_any (g0 : Nat) (l0 : Array Value) (is : Int → Bool) (y m R : Int) (S : Nat → Prop) (p1 : Nat) (w : World) (h1 : w.cell? ⟨p1, 0, none⟩ = some (fv g0 l0)) (hl : FnIs (fv g0 l0) (fun y => .bool (is y)) (-R) R S w) (y1 : -R ≤ y) (y2 : y ≤ R) (hR : R ≤ 100000) (m1 : 1 ≤ m) (m2 : m ≤ 13) :
    Calls Tryz.prog 100 #[.int .i64 y, .int .i64 m, ptr p1] w fun e w' => e = .returned (.int .i64 (hmon y (if 5 < m ∧ is y = true then m - 1 else m))) ∧ ∃ q, w' = w.drewN q := by
  have en := hl.enters
  have hk := hl.calls w y (Since.refl _ _) y1 y2
  clear hl
  generalize hv : hmon y (if 5 < m ∧ is y = true then m - 1 else m) = v
  have Hv := hide hv
  clear hv
  by_cases h5 : 5 < m
  · cases hi : is y
    · rw [hi] at Hv hk
      have he := fun (W : World) => hebrewLength_any y m W (by omega) (by omega) m1 m2
      go_enter Tryz.func100, Tryz.ntmps100
      go_wp2_with (first | (go_at_fn g0; refine hk.mono ?_; rintro e w' ⟨rfl, q, rfl⟩) | (go_at_call 101; refine (he _).mono ?_; rintro e w' ⟨rfl, rfl⟩))
      go_ret
      exact ⟨ret_int (by rw [← Hv.out]; simp), _, rfl⟩
    · rw [hi] at Hv hk
      have he := fun (W : World) => hebrewLength_any y (m - 1) W (by omega) (by omega) (by omega) (by omega)
      go_enter Tryz.func100, Tryz.ntmps100
      go_wp2_with (first | (go_at_fn g0; refine hk.mono ?_; rintro e w' ⟨rfl, q, rfl⟩) | (go_at_call 101; refine (he _).mono ?_; rintro e w' ⟨rfl, rfl⟩))
      go_ret
      exact ⟨ret_int (by rw [← Hv.out]; simp [h5]), _, rfl⟩
  · have he := fun (W : World) => hebrewLength_any y m W (by omega) (by omega) m1 m2
    go_enter Tryz.func100, Tryz.ntmps100
    go_wp2_with (go_at_call 101; refine (he _).mono ?_; rintro e w' ⟨rfl, rfl⟩)
    go_ret
    exact ⟨ret_int (by rw [← Hv.out, if_neg (fun h => by omega)]), 0, rfl⟩

theorem hmon_mlen (y m : Int) (m1 : 1 ≤ m) (m2 : m ≤ Alm.months 7 y) : hmon y (if 5 < m ∧ decide ((1 + 7 * y) % 19 < 7) = true then m - 1 else m) = Alm.mlen 7 y m := by
  have h := Alm.hlen_mem y
  have e0 : 1 + 7 * y = 7 * y + 1 := by omega
  rw [e0]
  have el : Alm.lens 7 y = Alm.hl y := by unfold Alm.lens; simp
  unfold Alm.mlen
  unfold Alm.months at m2
  rw [el] at m2 ⊢
  unfold Alm.hl at m2 ⊢
  by_cases hy : (7 * y + 1) % 19 < 7
  · simp only [hy, decide_true, if_true, List.mem_cons, List.not_mem_nil, or_false] at h m2 ⊢
    have hm : m = 1 ∨ m = 2 ∨ m = 3 ∨ m = 4 ∨ m = 5 ∨ m = 6 ∨ m = 7 ∨ m = 8 ∨ m = 9 ∨ m = 10 ∨ m = 11 ∨ m = 12 ∨ m = 13 := by simp at m2; omega
    rcases hm with rfl | rfl | rfl | rfl | rfl | rfl | rfl | rfl | rfl | rfl | rfl | rfl | rfl <;> rcases h with h | h | h <;> simp [hmon, h]
  · simp only [hy, decide_false, if_false, List.mem_cons, List.not_mem_nil, or_false, Bool.false_eq_true, and_false] at h m2 ⊢
    have hm : m = 1 ∨ m = 2 ∨ m = 3 ∨ m = 4 ∨ m = 5 ∨ m = 6 ∨ m = 7 ∨ m = 8 ∨ m = 9 ∨ m = 10 ∨ m = 11 ∨ m = 12 := by simp at m2; omega
    rcases hm with rfl | rfl | rfl | rfl | rfl | rfl | rfl | rfl | rfl | rfl | rfl | rfl <;> rcases h with h | h | h <;> simp [hmon, h]

/-- the calendar c -/
def IsCal (v0 v1 v2 v3 : Value) (c : Int) (S : Nat → Prop) (w : World) : Prop :=
  IsCalG v0 v1 v2 v3 (Alm.leap c) (fun y => Alm.months c y) (Alm.mlen c) (fun y m => -40000 ≤ y ∧ y ≤ 40000 ∧ 1 ≤ m ∧ m ≤ Alm.months c y) (Alm.start c) S w

theorem hmonths (y : Int) : (if decide ((1 + 7 * y) % 19 < 7) = true then 13 else 12 : Int) = Alm.months 7 y := by
  have e0 : 1 + 7 * y = 7 * y + 1 := by omega
  have el : Alm.lens 7 y = Alm.hl y := by unfold Alm.lens; simp
  unfold Alm.months
  rw [el, e0]
  unfold Alm.hl
  by_cases hy : (7 * y + 1) % 19 < 7 <;> simp [hy]
theorem hebrew_end (g0 : Nat) (l0 : Array Value) (B B' b : Nat) (Wf : World) (hl : FnIs (fv g0 l0) (fun y => .bool (decide ((1 + 7 * y) % 19 < 7))) (-2000000) 2000000 (From B') Wf) (hB : B ≤ b) (hB' : B ≤ B') (c0 : Wf.cell? ⟨b, 0, none⟩ = some (fv g0 l0)) (sz : b < Wf.heap.size) :
    IsCal (fv g0 l0) (fv 99 #[ptr b]) (fv 100 #[ptr b]) (fv 102 #[]) 7 (From B) Wf := by
  have hl' := hl.base (S' := From B) (fun k h _ => Nat.le_trans hB' h)
  refine ⟨(hl'.less (by omega) (by omega)).as (fun y => by simp [Alm.leap, Int.add_comm]), ?_, ?_, ?_⟩
  · refine FnIs.as (f := fun y => .int .i64 (if decide ((1 + 7 * y) % 19 < 7) = true then 13 else 12)) ⟨_, _, rfl, enters_of Tryz.func99 (by kernel_rfl) rfl, fun W y hb h1 h2 => ?_⟩ (fun y => by rw [hmonths])
    exact heb1_any g0 l0 _ y 2000000 (From B) _ W ((hb.cell (p := ⟨b, 0, none⟩) hB sz).trans c0) (hl'.later hb) (by omega) (by omega)
  · refine Fn2.as (f := fun y m => .int .i64 (hmon y (if 5 < m ∧ decide ((1 + 7 * y) % 19 < 7) = true then m - 1 else m))) (ok := fun y m => -40000 ≤ y ∧ y ≤ 40000 ∧ 1 ≤ m ∧ m ≤ 13) ⟨_, _, rfl, enters_of Tryz.func100 (by kernel_rfl) rfl, fun W y m hb ho => ?_⟩
      (fun y m h => ⟨h.1, h.2.1, h.2.2.1, by have := Alm.months_bd 7 y; omega⟩) (fun y m h => by rw [hmon_mlen y m h.2.2.1 h.2.2.2])
    exact heb2_any g0 l0 _ y m 40000 (From B) _ W ((hb.cell (p := ⟨b, 0, none⟩) hB sz).trans c0) ((hl'.later hb).less (by omega) (by omega)) (by omega) (by omega) (by omega) (by omega) (by omega)
  · refine ⟨_, _, rfl, enters_of Tryz.func102 (by kernel_rfl) rfl, fun W y hb h1 h2 => ?_⟩
    exact (hstart_any y W (by omega) (by omega)).mono fun e w' ⟨h1, h2⟩ => ⟨h1, 0, h2⟩

set_option maxHeartbeats 1000000 in
set_option maxRecDepth 100000 in
theorem hebrew_any (w : World) :
    Calls Tryz.prog 76 #[] w fun e w' => ∃ g0 l0 g1 l1 g2 l2 g3 l3, e = .returned (.agg #[fv g0 l0, fv g1 l1, fv g2 l2, fv g3 l3]) ∧ IsCal (fv g0 l0) (fv g1 l1) (fv g2 l2) (fv g3 l3) 7 (From w.heap.size) w' ∧ Below w.heap.size w w' := by
  go_enter Tryz.func76, Tryz.ntmps76
  go_wp2_with fail
  refine (spread_any 1 7 19 _ (by omega) (by omega) (by omega) (by omega) (by omega) (by omega)).mono ?_
  rintro e W ⟨g0, l0, g1, l1, rfl, hl, hb⟩
  have q0 : ∀ j, j < 4 → W.cell? ⟨w.heap.size, j, none⟩ = some .nilFunc ∧ W.frozen? ⟨w.heap.size, j, none⟩ = false := by
    intro j hj
    rw [hb.cell (p := ⟨w.heap.size, j, none⟩) (by simp), hb.frozen (p := ⟨w.heap.size, j, none⟩) (by simp)]
    match j, hj with
    | 0, _ => exact ⟨by simp [go_sem], by simp [go_sem]⟩
    | 1, _ => exact ⟨by simp [go_sem], by simp [go_sem]⟩
    | 2, _ => exact ⟨by simp [go_sem], by simp [go_sem]⟩
    | 3, _ => exact ⟨by simp [go_sem], by simp [go_sem]⟩
  have c0 := (q0 0 (by omega)).1
  have z0 := (q0 0 (by omega)).2
  have c1 := (q0 1 (by omega)).1
  have z1 := (q0 1 (by omega)).2
  have c2 := (q0 2 (by omega)).1
  have z2 := (q0 2 (by omega)).2
  have c3 := (q0 3 (by omega)).1
  have z3 := (q0 3 (by omega)).2
  have hz : w.heap.size < W.heap.size := by have := hb.size; simp at this; omega
  clear q0
  have hfld : ∀ (g0 : Nat) (l0 : Array Value) (g1 : Nat) (l1 : Array Value) (w : World), (Instr.field 126 (.agg #[fv g0 l0, fv g1 l1]) 0).run Tryz.prog w = .ok (fv g0 l0) w := fun _ _ _ _ _ => by kernel_rfl
  go_wp2
  rw [show (w.alloc (.cells #[.nilFunc, .nilFunc, .nilFunc, .nilFunc] 94)).heap.size = w.heap.size + 1 from by simp] at hl
  refine bodyPost_ret (v := .agg #[fv g0 l0, fv 99 #[ptr W.heap.size], fv 100 #[ptr W.heap.size], fv 102 #[]]) (by simp [results, Tryz.results76, go_sem, c0, c1, c2, c3, hz]) rfl ⟨_, _, _, _, _, _, _, _, rfl, ?_, ?_⟩
  · have hs := (show Since (From (w.heap.size + 1)) W _ from (((((Since.refl _ W).setCell (p := ⟨w.heap.size, 0, none⟩) (by simp) (fv g0 l0)).setCell (p := ⟨w.heap.size, 1, none⟩) (by simp) (fv 99 #[ptr W.heap.size])).setCell (p := ⟨w.heap.size, 2, none⟩) (by simp) (fv 100 #[ptr W.heap.size])).setCell (p := ⟨w.heap.size, 3, none⟩) (by simp) (fv 102 #[])).alloc (.cells #[fv g0 l0] 56))
    exact hebrew_end g0 l0 w.heap.size (w.heap.size + 1) W.heap.size _ (hl.is.later hs) (by omega) (by omega) (by simp [go_sem, World.setCell]) (by simp [World.setCell])
  · have hb0 : Below w.heap.size w W := ((Below.refl _ w).alloc (Nat.le_refl _) _).trans (hb.mono (by simp))
    exact ((((hb0.setCell (by simp) _).setCell (by simp) _).setCell (by simp) _).setCell (by simp) _).alloc (by simp [World.setCell]; omega) _
end Go.Proofs.YtgbbplkpepaidaaGreatDoor
namespace Go.Proofs.YtgbbplkpepaidaaGreatDoor
open Go.RowKit Go.Shelf

def islamL : List Int := [30, 29, 30, 29, 30, 29, 30, 29, 30, 29, 30, 29]
def persL : List Int := [31, 31, 31, 31, 31, 31, 30, 30, 30, 30, 30, 29]
def sakaL : List Int := [30, 31, 31, 31, 31, 31, 30, 30, 30, 30, 30, 30]
theorem l01_eq (c y : Int) : (if Alm.leap c y = true then 1 else 0 : Int) = Alm.l01 c y := by unfold Alm.l01; rfl
theorem cases12 (m : Int) (h1 : 1 ≤ m) (h2 : m ≤ 12) : m = 1 ∨ m = 2 ∨ m = 3 ∨ m = 4 ∨ m = 5 ∨ m = 6 ∨ m = 7 ∨ m = 8 ∨ m = 9 ∨ m = 10 ∨ m = 11 ∨ m = 12 := by omega
theorem cases13 (m : Int) (h1 : 1 ≤ m) (h2 : m ≤ 13) : m = 1 ∨ m = 2 ∨ m = 3 ∨ m = 4 ∨ m = 5 ∨ m = 6 ∨ m = 7 ∨ m = 8 ∨ m = 9 ∨ m = 10 ∨ m = 11 ∨ m = 12 ∨ m = 13 := by omega
theorem mlen_roman (c y m : Int) (hc : c = 1 ∨ c = 2) (h1 : 1 ≤ m) (h2 : m ≤ 12) : romanL.getD (m - 1).toNat 0 + (if m = 2 ∧ Alm.leap c y = true then 1 else 0) = Alm.mlen c y m := by
  unfold Alm.mlen Alm.lens Alm.l01 romanL
  rcases hc with rfl | rfl <;> rcases cases12 m h1 h2 with rfl | rfl | rfl | rfl | rfl | rfl | rfl | rfl | rfl | rfl | rfl | rfl <;> simp <;> (split <;> simp_all)
theorem months_roman (c y : Int) (hc : c = 1 ∨ c = 2) : (12 : Int) = Alm.months c y := by
  unfold Alm.months Alm.lens
  rcases hc with rfl | rfl <;> simp
theorem mlen_thirteen (c y m : Int) (hc : c = 3 ∨ c = 4 ∨ c = 9 ∨ c = 10) (h1 : 1 ≤ m) (h2 : m ≤ 13) : thirteenL.getD (m - 1).toNat 0 + (if m = 13 ∧ Alm.leap c y = true then 1 else 0) = Alm.mlen c y m := by
  unfold Alm.mlen Alm.lens Alm.l01 thirteenL
  rcases hc with rfl | rfl | rfl | rfl <;> rcases cases13 m h1 h2 with rfl | rfl | rfl | rfl | rfl | rfl | rfl | rfl | rfl | rfl | rfl | rfl | rfl <;> simp <;> (split <;> simp_all)
theorem months_thirteen (c y : Int) (hc : c = 3 ∨ c = 4 ∨ c = 9 ∨ c = 10) : (13 : Int) = Alm.months c y := by
  unfold Alm.months Alm.lens
  rcases hc with rfl | rfl | rfl | rfl <;> simp
theorem mlen_islam (c y m : Int) (hc : c = 5) (h1 : 1 ≤ m) (h2 : m ≤ 12) : islamL.getD (m - 1).toNat 0 + (if m = 12 ∧ Alm.leap c y = true then 1 else 0) = Alm.mlen c y m := by
  unfold Alm.mlen Alm.lens Alm.l01 islamL
  rcases hc with rfl <;> rcases cases12 m h1 h2 with rfl | rfl | rfl | rfl | rfl | rfl | rfl | rfl | rfl | rfl | rfl | rfl <;> simp <;> (split <;> simp_all)
theorem months_islam (c y : Int) (hc : c = 5) : (12 : Int) = Alm.months c y := by
  unfold Alm.months Alm.lens
  rcases hc with rfl <;> simp
theorem mlen_pers (c y m : Int) (hc : c = 6) (h1 : 1 ≤ m) (h2 : m ≤ 12) : persL.getD (m - 1).toNat 0 + (if m = 12 ∧ Alm.leap c y = true then 1 else 0) = Alm.mlen c y m := by
  unfold Alm.mlen Alm.lens Alm.l01 persL
  rcases hc with rfl <;> rcases cases12 m h1 h2 with rfl | rfl | rfl | rfl | rfl | rfl | rfl | rfl | rfl | rfl | rfl | rfl <;> simp <;> (split <;> simp_all)
theorem months_pers (c y : Int) (hc : c = 6) : (12 : Int) = Alm.months c y := by
  unfold Alm.months Alm.lens
  rcases hc with rfl <;> simp
theorem mlen_saka (c y m : Int) (hc : c = 8) (h1 : 1 ≤ m) (h2 : m ≤ 12) : sakaL.getD (m - 1).toNat 0 + (if m = 1 ∧ Alm.leap c y = true then 1 else 0) = Alm.mlen c y m := by
  unfold Alm.mlen Alm.lens Alm.l01 sakaL
  rcases hc with rfl <;> rcases cases12 m h1 h2 with rfl | rfl | rfl | rfl | rfl | rfl | rfl | rfl | rfl | rfl | rfl | rfl <;> simp <;> (split <;> simp_all)
theorem months_saka (c y : Int) (hc : c = 8) : (12 : Int) = Alm.months c y := by
  unfold Alm.months Alm.lens
  rcases hc with rfl <;> simp
end Go.Proofs.YtgbbplkpepaidaaGreatDoor
