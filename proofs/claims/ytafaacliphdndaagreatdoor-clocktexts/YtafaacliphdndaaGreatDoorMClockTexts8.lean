/- The calendars of the Romans, and those of thirteen months. -/
import Derived.Test.YtafaacliphdndaaGreatDoorMClockTexts7
namespace Go.Proofs.YtafaacliphdndaaGreatDoor
open Go.RowKit Go.Shelf

theorem row_new (X : World) (L : List Int) (T : TypeId) : Row L X.heap.size (X.alloc (.cells (L.map (Value.int .i64)).toArray T)) := by
  intro i hi
  rw [World.cell?_alloc_at _ _ _ _ rfl]
  simp [hi]
theorem IsCalG.as {v0 v1 v2 v3 : Value} {leap leap' : Int → Bool} {months months' : Int → Int} {len len' : Int → Int → Int} {ok ok' : Int → Int → Prop} {start start' : Int → Int} {S : Nat → Prop} {w : World} (h : IsCalG v0 v1 v2 v3 leap months len ok start S w)
    (h1 : ∀ y, leap y = leap' y) (h2 : ∀ y, months y = months' y) (h3 : ∀ y m, ok' y m → ok y m) (h4 : ∀ y m, ok' y m → len y m = len' y m) (h5 : ∀ y, start y = start' y) : IsCalG v0 v1 v2 v3 leap' months' len' ok' start' S w :=
  ⟨h.leap.as (fun y => by rw [h1]), h.months.as (fun y => by rw [h2]), h.len.as h3 (fun y m ho => by rw [h4 y m ho]), h.start.as (fun y => by rw [h5])⟩

def romanL : List Int := [31, 28, 31, 30, 31, 30, 31, 31, 30, 31, 30, 31]
set_option maxHeartbeats 1000000 in
theorem roman_any (first : Int) (g0 : Nat) (l0 : Array Value) (g1 : Nat) (l1 : Array Value) (w : World) (is : Int → Bool) (ahead : Int → Int) (R : Int) (B : Nat) (hl : IsLeaps (fv g0 l0) (fv g1 l1) is ahead R (From B) w) (hB : B ≤ w.heap.size) (hR1 : 40000 ≤ R)
    (ha : ∀ y, -40000 ≤ y → y ≤ 40000 → -100000000 ≤ ahead y ∧ ahead y ≤ 100000000) (f1 : -10000000 ≤ first) (f2 : first ≤ 10000000) :
    Calls Tryz.prog 121 #[.int .i64 first, .agg #[fv g0 l0, fv g1 l1]] w fun e w' => ∃ g0 l0 g1 l1 g2 l2 g3 l3, e = .returned (.agg #[fv g0 l0, fv g1 l1, fv g2 l2, fv g3 l3]) ∧
      IsCalG (fv g0 l0) (fv g1 l1) (fv g2 l2) (fv g3 l3) is (fun _ => 12) (fun y m => romanL.getD (m - 1).toNat 0 + (if m = 2 ∧ is y = true then 1 else 0)) (fun y m => -40000 ≤ y ∧ y ≤ 40000 ∧ 1 ≤ m ∧ m ≤ 12) (fun y => first + 365 * (y - 1) + ahead y) (From B) w' ∧ Below w.heap.size w w' := by
  have Hl := hide hl
  clear hl
  have hst := fun (W : World) (a : Row romanL (w.heap.size + 1 + 1) W) (b : IsLeaps (fv g0 l0) (fv g1 l1) is ahead R (fun k => B ≤ k ∧ k ≠ w.heap.size + 1) W) (c : ∀ k, W.heap.size ≤ k → B ≤ k ∧ k ≠ w.heap.size + 1) =>
    steady_any first 2 g0 l0 g1 l1 romanL (w.heap.size + 1 + 1) W a (by decide) (by decide) (by decide) is ahead R (fun k => B ≤ k ∧ k ≠ w.heap.size + 1) b ⟨by omega, by omega⟩ c hR1 ha f1 f2
  rw [show romanL.length = 12 from rfl] at hst
  go_enter Tryz.func121, Tryz.ntmps121
  go_wp2_with fail
  refine (hst _ (by have := row_new ((w.alloc (.cells #[fv g0 l0, fv g1 l1] 188)).alloc (.cells #[.nilFunc, .nilFunc, .nilFunc, .nilFunc] 148)) romanL 3; rw [show ((w.alloc (.cells #[fv g0 l0, fv g1 l1] 188)).alloc (.cells #[.nilFunc, .nilFunc, .nilFunc, .nilFunc] 148)).heap.size = w.heap.size + 1 + 1 from by simp] at this; exact this) ?hq1 ?hq2).mono ?_
  case hq1 => exact (Hl.out.on (S' := fun k => B ≤ k ∧ k ≠ w.heap.size + 1) (fun k h1 h2 => ⟨h1, by omega⟩)).later ((((Since.refl _ w).alloc _).alloc _).alloc _)
  case hq2 => intro k hk; simp at hk; omega
  rintro e W ⟨g0', l0', g1', l1', g2, l2, g3, l3, rfl, hc, hb⟩
  clear hst
  have q0 : ∀ j, j < 4 → W.cell? ⟨w.heap.size + 1, j, none⟩ = some .nilFunc ∧ W.frozen? ⟨w.heap.size + 1, j, none⟩ = false := by
    intro j hj
    rw [hb.cell (p := ⟨w.heap.size + 1, j, none⟩) (by simp), hb.frozen (p := ⟨w.heap.size + 1, j, none⟩) (by simp)]
    match j, hj with
    | 0, _ => exact ⟨by simp [go_sem], by simp [go_sem]⟩
    | 1, _ => exact ⟨by simp [go_sem], by simp [go_sem]⟩
    | 2, _ => exact ⟨by simp [go_sem], by simp [go_sem]⟩
    | 3, _ => exact ⟨by simp [go_sem], by simp [go_sem]⟩
  have c0 := (q0 0 (by omega)).1
  have z0 := (q0 0 (by omega)).2
  have c1 := (q0 1 (by omega)).1
  have z1 := (q0 1 (by omega)).2
  have c2 := (q0 2 (by omega)).1
  have z2 := (q0 2 (by omega)).2
  have c3 := (q0 3 (by omega)).1
  have z3 := (q0 3 (by omega)).2
  clear q0
  go_wp2
  refine bodyPost_ret (v := .agg #[fv g0' l0', fv g1' l1', fv g2 l2, fv g3 l3]) (by simp [results, Tryz.results121, go_sem, c0, c1, c2, c3]) rfl ⟨_, _, _, _, _, _, _, _, rfl, ?_, ?_⟩
  · have hs := hc.later (((((Since.refl _ W).setCell (p := ⟨w.heap.size + 1, 0, none⟩) (by simp) (fv g0' l0')).setCell (p := ⟨w.heap.size + 1, 1, none⟩) (by simp) (fv g1' l1')).setCell (p := ⟨w.heap.size + 1, 2, none⟩) (by simp) (fv g2 l2)).setCell (p := ⟨w.heap.size + 1, 3, none⟩) (by simp) (fv g3 l3))
    exact (hs.base (fun k h _ => h.1)).as (fun _ => rfl) (fun _ => rfl) (fun _ _ h => h) (fun _ _ _ => rfl) (fun y => by rw [show romanL.sum = 365 from by decide])
  · have hb0 : Below w.heap.size w W := ((((Below.refl _ w).alloc (Nat.le_refl _) _).alloc (by simp) _).alloc (by simp; omega) _).trans (hb.mono (by simp; omega))
    exact (((hb0.setCell (by simp) _).setCell (by simp) _).setCell (by simp) _).setCell (by simp) _

def thirteenL : List Int := [30, 30, 30, 30, 30, 30, 30, 30, 30, 30, 30, 30, 5]
set_option maxHeartbeats 1000000 in
theorem thirteen_any (first : Int) (g0 : Nat) (l0 : Array Value) (g1 : Nat) (l1 : Array Value) (w : World) (is : Int → Bool) (ahead : Int → Int) (R : Int) (B : Nat) (hl : IsLeaps (fv g0 l0) (fv g1 l1) is ahead R (From B) w) (hB : B ≤ w.heap.size) (hR1 : 40000 ≤ R)
    (ha : ∀ y, -40000 ≤ y → y ≤ 40000 → -100000000 ≤ ahead y ∧ ahead y ≤ 100000000) (f1 : -10000000 ≤ first) (f2 : first ≤ 10000000) :
    Calls Tryz.prog 123 #[.int .i64 first, .agg #[fv g0 l0, fv g1 l1]] w fun e w' => ∃ g0 l0 g1 l1 g2 l2 g3 l3, e = .returned (.agg #[fv g0 l0, fv g1 l1, fv g2 l2, fv g3 l3]) ∧
      IsCalG (fv g0 l0) (fv g1 l1) (fv g2 l2) (fv g3 l3) is (fun _ => 13) (fun y m => thirteenL.getD (m - 1).toNat 0 + (if m = 13 ∧ is y = true then 1 else 0)) (fun y m => -40000 ≤ y ∧ y ≤ 40000 ∧ 1 ≤ m ∧ m ≤ 13) (fun y => first + 365 * (y - 1) + ahead y) (From B) w' ∧ Below w.heap.size w w' := by
  have Hl := hide hl
  clear hl
  have hst := fun (W : World) (a : Row thirteenL (w.heap.size + 1 + 1) W) (b : IsLeaps (fv g0 l0) (fv g1 l1) is ahead R (fun k => B ≤ k ∧ k ≠ w.heap.size + 1) W) (c : ∀ k, W.heap.size ≤ k → B ≤ k ∧ k ≠ w.heap.size + 1) =>
    steady_any first 13 g0 l0 g1 l1 thirteenL (w.heap.size + 1 + 1) W a (by decide) (by decide) (by decide) is ahead R (fun k => B ≤ k ∧ k ≠ w.heap.size + 1) b ⟨by omega, by omega⟩ c hR1 ha f1 f2
  rw [show thirteenL.length = 13 from rfl] at hst
  go_enter Tryz.func123, Tryz.ntmps123
  go_wp2_with fail
  refine (hst _ (by have := row_new ((w.alloc (.cells #[fv g0 l0, fv g1 l1] 188)).alloc (.cells #[.nilFunc, .nilFunc, .nilFunc, .nilFunc] 148)) thirteenL 3; rw [show ((w.alloc (.cells #[fv g0 l0, fv g1 l1] 188)).alloc (.cells #[.nilFunc, .nilFunc, .nilFunc, .nilFunc] 148)).heap.size = w.heap.size + 1 + 1 from by simp] at this; exact this) ?hq1 ?hq2).mono ?_
  case hq1 => exact (Hl.out.on (S' := fun k => B ≤ k ∧ k ≠ w.heap.size + 1) (fun k h1 h2 => ⟨h1, by omega⟩)).later ((((Since.refl _ w).alloc _).alloc _).alloc _)
  case hq2 => intro k hk; simp at hk; omega
  rintro e W ⟨g0', l0', g1', l1', g2, l2, g3, l3, rfl, hc, hb⟩
  clear hst
  have q0 : ∀ j, j < 4 → W.cell? ⟨w.heap.size + 1, j, none⟩ = some .nilFunc ∧ W.frozen? ⟨w.heap.size + 1, j, none⟩ = false := by
    intro j hj
    rw [hb.cell (p := ⟨w.heap.size + 1, j, none⟩) (by simp), hb.frozen (p := ⟨w.heap.size + 1, j, none⟩) (by simp)]
    match j, hj with
    | 0, _ => exact ⟨by simp [go_sem], by simp [go_sem]⟩
    | 1, _ => exact ⟨by simp [go_sem], by simp [go_sem]⟩
    | 2, _ => exact ⟨by simp [go_sem], by simp [go_sem]⟩
    | 3, _ => exact ⟨by simp [go_sem], by simp [go_sem]⟩
  have c0 := (q0 0 (by omega)).1
  have z0 := (q0 0 (by omega)).2
  have c1 := (q0 1 (by omega)).1
  have z1 := (q0 1 (by omega)).2
  have c2 := (q0 2 (by omega)).1
  have z2 := (q0 2 (by omega)).2
  have c3 := (q0 3 (by omega)).1
  have z3 := (q0 3 (by omega)).2
  clear q0
  go_wp2
  refine bodyPost_ret (v := .agg #[fv g0' l0', fv g1' l1', fv g2 l2, fv g3 l3]) (by simp [results, Tryz.results123, go_sem, c0, c1, c2, c3]) rfl ⟨_, _, _, _, _, _, _, _, rfl, ?_, ?_⟩
  · have hs := hc.later (((((Since.refl _ W).setCell (p := ⟨w.heap.size + 1, 0, none⟩) (by simp) (fv g0' l0')).setCell (p := ⟨w.heap.size + 1, 1, none⟩) (by simp) (fv g1' l1')).setCell (p := ⟨w.heap.size + 1, 2, none⟩) (by simp) (fv g2 l2)).setCell (p := ⟨w.heap.size + 1, 3, none⟩) (by simp) (fv g3 l3))
    exact (hs.base (fun k h _ => h.1)).as (fun _ => rfl) (fun _ => rfl) (fun _ _ h => h) (fun _ _ _ => rfl) (fun y => by rw [show thirteenL.sum = 365 from by decide])
  · have hb0 : Below w.heap.size w W := ((((Below.refl _ w).alloc (Nat.le_refl _) _).alloc (by simp) _).alloc (by simp; omega) _).trans (hb.mono (by simp; omega))
    exact (((hb0.setCell (by simp) _).setCell (by simp) _).setCell (by simp) _).setCell (by simp) _
end Go.Proofs.YtafaacliphdndaaGreatDoor
