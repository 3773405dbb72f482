/- The calendars of the Romans, and those of thirteen months. -/
import Derived.Test.YtgbbplkpepaidaaGreatDoorMCronTimes8
import Derived.RegionTactic
namespace Go.Proofs.YtgbbplkpepaidaaGreatDoor
open Go.RowKit Go.Shelf

theorem sum_bd (L : List Int) (hx : ∀ x ∈ L, 0 ≤ x ∧ x ≤ 31) : ∀ k : Nat, 0 ≤ (L.take k).sum ∧ (L.take k).sum ≤ 31 * (k : Int) := by
  intro k
  induction k with
  | zero => simp
  | succ k ih =>
    by_cases h : k < L.length
    · rw [List.take_succ_eq_append_getElem h, List.sum_append]
      have := hx L[k] (List.getElem_mem h)
      simp; omega
    · rw [List.take_of_length_le (by omega)]
      rw [List.take_of_length_le (by omega)] at ih
      omega

theorem steady_end (first long : Int) (g0 : Nat) (l0 : Array Value) (g1 : Nat) (l1 : Array Value) (L : List Int) (b h : Nat) (Wf : World) (hR : Row L b Wf) (hL : L.length ≤ 13) (h0 : 0 < L.length) (hx : ∀ x ∈ L, 0 ≤ x ∧ x ≤ 31)
    (is : Int → Bool) (ahead : Int → Int) (R : Int) (S : Nat → Prop) (hl : IsLeaps (fv g0 l0) (fv g1 l1) is ahead R S Wf) (hB : S b) (hSh : ∀ k, h ≤ k → S k) (hR1 : 40000 ≤ R) (ha : ∀ y, -40000 ≤ y → y ≤ 40000 → -100000000 ≤ ahead y ∧ ahead y ≤ 100000000) (f1 : -10000000 ≤ first) (f2 : first ≤ 10000000)
    (c0 : Wf.cell? ⟨h, 0, none⟩ = some (.int .i64 first)) (c1 : Wf.cell? ⟨h + 1, 0, none⟩ = some (fv g0 l0)) (c1' : Wf.cell? ⟨h + 1, 1, none⟩ = some (fv g1 l1)) (c2 : Wf.cell? ⟨h + 1 + 1, 0, none⟩ = some (.int .i64 long))
    (c3 : Wf.cell? ⟨h + 1 + 1 + 1, 0, none⟩ = some (.slice (some ⟨b, 0, none⟩) L.length L.length)) (c5 : Wf.cell? ⟨h + 1 + 1 + 1 + 1 + 1, 0, none⟩ = some (.int .i64 L.sum)) (sz : h + 6 ≤ Wf.heap.size) :
    IsCalG (fv g0 l0) (fv 88 #[ptr (h + 1 + 1 + 1)]) (fv 89 #[ptr (h + 1 + 1), ptr (h + 1), ptr (h + 1 + 1 + 1)]) (fv 90 #[ptr h, ptr (h + 1 + 1 + 1 + 1 + 1), ptr (h + 1)])
      is (fun _ => L.length) (fun y m => L.getD (m - 1).toNat 0 + (if m = long ∧ is y = true then 1 else 0)) (fun y m => -40000 ≤ y ∧ y ≤ 40000 ∧ 1 ≤ m ∧ m ≤ L.length) (fun y => first + L.sum * (y - 1) + ahead y) S Wf := by
  have hs := sum_bd L hx L.length
  rw [List.take_of_length_le (Nat.le_refl _)] at hs
  refine ⟨hl.is.less (by omega) (by omega), ?_, ?_, ?_⟩
  · refine ⟨_, _, rfl, enters_of Tryz.func88 (by kernel_rfl) rfl, fun W y hb h1 h2 => ?_⟩
    exact steady1_any L.length _ y _ W ((hb.cell (p := ⟨h + 1 + 1 + 1, 0, none⟩) (hSh _ (by simp <;> omega)) (by simp; omega)).trans c3)
  · refine ⟨_, _, rfl, enters_of Tryz.func89 (by kernel_rfl) rfl, fun W y m hb ho => ?_⟩
    exact steady2_any g0 l0 is L long y m R S _ _ _ b W ((hb.cell (p := ⟨h + 1 + 1, 0, none⟩) (hSh _ (by simp <;> omega)) (by simp; omega)).trans c2) ((hb.cell (p := ⟨h + 1, 0, none⟩) (hSh _ (by simp <;> omega)) (by simp; omega)).trans c1)
      ((hb.cell (p := ⟨h + 1 + 1 + 1, 0, none⟩) (hSh _ (by simp <;> omega)) (by simp; omega)).trans c3) (fun i hi => (hb.cell (p := ⟨b, i, none⟩) hB (hR.lt h0)).trans (hR i hi)) hL hx (hl.is.later hb) (by omega) (by omega) ho.2.2.1 ho.2.2.2
  · refine ⟨_, _, rfl, enters_of Tryz.func90 (by kernel_rfl) rfl, fun W y hb h1 h2 => ?_⟩
    have z := ha y h1 h2
    exact steady3_any g1 l1 ahead first L.sum y 40000 S _ _ _ W ((hb.cell (p := ⟨h, 0, none⟩) (hSh _ (by simp <;> omega)) (by simp; omega)).trans c0) ((hb.cell (p := ⟨h + 1 + 1 + 1 + 1 + 1, 0, none⟩) (hSh _ (by simp <;> omega)) (by simp; omega)).trans c5)
      ((hb.cell (p := ⟨h + 1, 1, none⟩) (hSh _ (by simp <;> omega)) (by simp; omega)).trans c1') ((hl.ahead.later hb).less (by omega) (by omega)) (by omega) h1 h2 z.1 z.2 f1 f2 hs.1 (by omega)

set_option maxHeartbeats 1000000 in
theorem steady_any (first long : Int) (g0 : Nat) (l0 : Array Value) (g1 : Nat) (l1 : Array Value) (L : List Int) (b : Nat) (w : World) (hR : Row L b w) (hL : L.length ≤ 13) (h0 : 0 < L.length) (hx : ∀ x ∈ L, 0 ≤ x ∧ x ≤ 31)
    (is : Int → Bool) (ahead : Int → Int) (R : Int) (S : Nat → Prop) (hl : IsLeaps (fv g0 l0) (fv g1 l1) is ahead R S w) (hB : S b) (hSh : ∀ k, w.heap.size ≤ k → S k) (hR1 : 40000 ≤ R) (ha : ∀ y, -40000 ≤ y → y ≤ 40000 → -100000000 ≤ ahead y ∧ ahead y ≤ 100000000) (f1 : -10000000 ≤ first) (f2 : first ≤ 10000000) :
    Calls Tryz.prog 73 #[.int .i64 first, .agg #[fv g0 l0, fv g1 l1], .int .i64 long, .slice (some ⟨b, 0, none⟩) L.length L.length] w fun e w' => ∃ g0 l0 g1 l1 g2 l2 g3 l3, e = .returned (.agg #[fv g0 l0, fv g1 l1, fv g2 l2, fv g3 l3]) ∧
      IsCalG (fv g0 l0) (fv g1 l1) (fv g2 l2) (fv g3 l3) is (fun _ => L.length) (fun y m => L.getD (m - 1).toNat 0 + (if m = long ∧ is y = true then 1 else 0)) (fun y m => -40000 ≤ y ∧ y ≤ 40000 ∧ 1 ≤ m ∧ m ≤ L.length) (fun y => first + L.sum * (y - 1) + ahead y) S w' ∧ Below w.heap.size w w' := by
  have hbl := hR.lt h0
  have Hl := hide hl
  clear hl
  go_enter Tryz.func73, Tryz.ntmps73
  go_wp2_with fail
  go_loopw [13] (fun i wr => ∃ k : Nat, k ≤ L.length ∧ i = .int .i64 k ∧ St first long g0 l0 g1 l1 L.length b w.heap.size (L.take k).sum w wr) (fun i _ => L.length - (intOf i).toNat)
  case atStart =>
    refine ⟨0, Nat.zero_le _, rfl, ?_, by simp, by simp [go_sem], by simp [go_sem], by simp [go_sem], by simp [go_sem], by simp [go_sem], ?_, by simp [go_sem], by simp [go_sem]⟩
    · exact ((((((Below.refl _ w).alloc (Nat.le_refl _) _).alloc (by simp) _).alloc (by simp; omega) _).alloc (by simp; omega) _).alloc (by simp; omega) _).alloc (by simp; omega) _
    · intro j hj
      match j, hj with
      | 0, _ => exact ⟨by simp [go_sem], by simp [go_sem]⟩
      | 1, _ => exact ⟨by simp [go_sem], by simp [go_sem]⟩
      | 2, _ => exact ⟨by simp [go_sem], by simp [go_sem]⟩
      | 3, _ => exact ⟨by simp [go_sem], by simp [go_sem]⟩
  case round =>
    obtain ⟨k, hk, rfl, hs⟩ := hrel
    have hk5 := hs.c5
    have hf5 := hs.f5
    have hk3 := hs.c3
    have hsb := sum_bd L hx k
    by_cases hlt : k < L.length
    · have hxb := hx L[k] (List.getElem_mem hlt)
      have hrow : wr.cell? ⟨b, k, none⟩ = some (.int .i64 L[k]) := (hs.below.cell (p := ⟨b, k, none⟩) hbl).trans (hR k hlt)
      generalize hxk : L[k] = x at *
      have Hxk := hide hxk
      clear hxk
      generalize hsk : (L.take k).sum = sm at *
      have Hsk := hide hsk
      clear hsk
      go_wp2
      go_region
      all_goals
        go_wp2
        go_roundw
      case rel => exact ⟨k + 1, by omega, by simp, by rw [List.take_succ_eq_append_getElem hlt, List.sum_append, Hxk.out, Hsk.out]; simpa using (hs.set (sm + x)).drew⟩
      case measure => simp [intOf]; omega
    · obtain rfl : k = L.length := by omega
      rw [List.take_of_length_le (Nat.le_refl _)] at hs
      have d1 := hs.c1
      have d0 := (hs.c4 0 (by omega)).1
      have z0 := (hs.c4 0 (by omega)).2
      have e0 := (hs.c4 1 (by omega)).1
      have z1 := (hs.c4 1 (by omega)).2
      have e2 := (hs.c4 2 (by omega)).1
      have z2 := (hs.c4 2 (by omega)).2
      have e3 := (hs.c4 3 (by omega)).1
      have z3 := (hs.c4 3 (by omega)).2
      clear hk5 hf5 hk3 hsb
      go_wp2
      refine bodyPost_ret (v := .agg #[fv g0 l0, fv 88 #[ptr (w.heap.size + 1 + 1 + 1)], fv 89 #[ptr (w.heap.size + 1 + 1), ptr (w.heap.size + 1), ptr (w.heap.size + 1 + 1 + 1)],
          fv 90 #[ptr w.heap.size, ptr (w.heap.size + 1 + 1 + 1 + 1 + 1), ptr (w.heap.size + 1)]])
        (by simp [results, Tryz.results73, go_sem, d0, e0, e2, e3]) rfl ⟨_, _, _, _, _, _, _, _, rfl, ?_, ?_⟩
      · have hb := (((hs.below.setCell (p := ⟨w.heap.size + 1 + 1 + 1 + 1, 0, none⟩) (by simp; omega) (fv g0 l0)).setCell (p := ⟨w.heap.size + 1 + 1 + 1 + 1, 1, none⟩) (by simp; omega) (fv 88 #[ptr (w.heap.size + 1 + 1 + 1)])).setCell (p := ⟨w.heap.size + 1 + 1 + 1 + 1, 2, none⟩) (by simp; omega)
            (fv 89 #[ptr (w.heap.size + 1 + 1), ptr (w.heap.size + 1), ptr (w.heap.size + 1 + 1 + 1)])).setCell (p := ⟨w.heap.size + 1 + 1 + 1 + 1, 3, none⟩) (by simp; omega) (fv 90 #[ptr w.heap.size, ptr (w.heap.size + 1 + 1 + 1 + 1 + 1), ptr (w.heap.size + 1)])
        exact steady_end first long g0 l0 g1 l1 L b w.heap.size _ (fun i hi => (hb.cell (p := ⟨b, i, none⟩) hbl).trans (hR i hi)) hL h0 hx is ahead R S (Hl.out.later (Since.of_below hb)) hB hSh hR1 ha f1 f2
          (by simp [go_sem, hs.c0]) (by simp [go_sem, hs.c1]) (by simp [go_sem, hs.c1']) (by simp [go_sem, hs.c2]) (by simp [go_sem, hs.c3]) (by simp [go_sem, hs.c5]) (by simp [World.setCell, hs.size])
      · exact (((hs.below.setCell (by simp; omega) _).setCell (by simp; omega) _).setCell (by simp; omega) _).setCell (by simp; omega) _
end Go.Proofs.YtgbbplkpepaidaaGreatDoor
namespace Go.Proofs.YtgbbplkpepaidaaGreatDoor
open Go.RowKit Go.Shelf

theorem row_new (X : World) (L : List Int) (T : TypeId) : Row L X.heap.size (X.alloc (.cells (L.map (Value.int .i64)).toArray T)) := by
  intro i hi
  rw [World.cell?_alloc_at _ _ _ _ rfl]
  simp [hi]
theorem IsCalG.as {v0 v1 v2 v3 : Value} {leap leap' : Int → Bool} {months months' : Int → Int} {len len' : Int → Int → Int} {ok ok' : Int → Int → Prop} {start start' : Int → Int} {S : Nat → Prop} {w : World} (h : IsCalG v0 v1 v2 v3 leap months len ok start S w)
    (h1 : ∀ y, leap y = leap' y) (h2 : ∀ y, months y = months' y) (h3 : ∀ y m, ok' y m → ok y m) (h4 : ∀ y m, ok' y m → len y m = len' y m) (h5 : ∀ y, start y = start' y) : IsCalG v0 v1 v2 v3 leap' months' len' ok' start' S w :=
  ⟨h.leap.as (fun y => by rw [h1]), h.months.as (fun y => by rw [h2]), h.len.as h3 (fun y m ho => by rw [h4 y m ho]), h.start.as (fun y => by rw [h5])⟩

def romanL : List Int := [31, 28, 31, 30, 31, 30, 31, 31, 30, 31, 30, 31]
set_option maxHeartbeats 1000000 in
theorem roman_any (first : Int) (g0 : Nat) (l0 : Array Value) (g1 : Nat) (l1 : Array Value) (w : World) (is : Int → Bool) (ahead : Int → Int) (R : Int) (B : Nat) (hl : IsLeaps (fv g0 l0) (fv g1 l1) is ahead R (From B) w) (hB : B ≤ w.heap.size) (hR1 : 40000 ≤ R)
    (ha : ∀ y, -40000 ≤ y → y ≤ 40000 → -100000000 ≤ ahead y ∧ ahead y ≤ 100000000) (f1 : -10000000 ≤ first) (f2 : first ≤ 10000000) :
    Calls Tryz.prog 70 #[.int .i64 first, .agg #[fv g0 l0, fv g1 l1]] w fun e w' => ∃ g0 l0 g1 l1 g2 l2 g3 l3, e = .returned (.agg #[fv g0 l0, fv g1 l1, fv g2 l2, fv g3 l3]) ∧
      IsCalG (fv g0 l0) (fv g1 l1) (fv g2 l2) (fv g3 l3) is (fun _ => 12) (fun y m => romanL.getD (m - 1).toNat 0 + (if m = 2 ∧ is y = true then 1 else 0)) (fun y m => -40000 ≤ y ∧ y ≤ 40000 ∧ 1 ≤ m ∧ m ≤ 12) (fun y => first + 365 * (y - 1) + ahead y) (From B) w' ∧ Below w.heap.size w w' := by
  have Hl := hide hl
  clear hl
  have hst := fun (W : World) (a : Row romanL (w.heap.size + 1 + 1) W) (b : IsLeaps (fv g0 l0) (fv g1 l1) is ahead R (fun k => B ≤ k ∧ k ≠ w.heap.size + 1) W) (c : ∀ k, W.heap.size ≤ k → B ≤ k ∧ k ≠ w.heap.size + 1) =>
    steady_any first 2 g0 l0 g1 l1 romanL (w.heap.size + 1 + 1) W a (by decide) (by decide) (by decide) is ahead R (fun k => B ≤ k ∧ k ≠ w.heap.size + 1) b ⟨by omega, by omega⟩ c hR1 ha f1 f2
  rw [show romanL.length = 12 from rfl] at hst
  go_enter Tryz.func70, Tryz.ntmps70
  go_wp2_with fail
  refine (hst _ (by have := row_new ((w.alloc (.cells #[fv g0 l0, fv g1 l1] 126)).alloc (.cells #[.nilFunc, .nilFunc, .nilFunc, .nilFunc] 94)) romanL 3; rw [show ((w.alloc (.cells #[fv g0 l0, fv g1 l1] 126)).alloc (.cells #[.nilFunc, .nilFunc, .nilFunc, .nilFunc] 94)).heap.size = w.heap.size + 1 + 1 from by simp] at this; exact this) ?hq1 ?hq2).mono ?_
  case hq1 => exact (Hl.out.on (S' := fun k => B ≤ k ∧ k ≠ w.heap.size + 1) (fun k h1 h2 => ⟨h1, by omega⟩)).later ((((Since.refl _ w).alloc _).alloc _).alloc _)
  case hq2 => intro k hk; simp at hk; omega
  rintro e W ⟨g0', l0', g1', l1', g2, l2, g3, l3, rfl, hc, hb⟩
  clear hst
  have q0 : ∀ j, j < 4 → W.cell? ⟨w.heap.size + 1, j, none⟩ = some .nilFunc ∧ W.frozen? ⟨w.heap.size + 1, j, none⟩ = false := by
    intro j hj
    rw [hb.cell (p := ⟨w.heap.size + 1, j, none⟩) (by simp), hb.frozen (p := ⟨w.heap.size + 1, j, none⟩) (by simp)]
    match j, hj with
    | 0, _ => exact ⟨by simp [go_sem], by simp [go_sem]⟩
    | 1, _ => exact ⟨by simp [go_sem], by simp [go_sem]⟩
    | 2, _ => exact ⟨by simp [go_sem], by simp [go_sem]⟩
    | 3, _ => exact ⟨by simp [go_sem], by simp [go_sem]⟩
  have c0 := (q0 0 (by omega)).1
  have z0 := (q0 0 (by omega)).2
  have c1 := (q0 1 (by omega)).1
  have z1 := (q0 1 (by omega)).2
  have c2 := (q0 2 (by omega)).1
  have z2 := (q0 2 (by omega)).2
  have c3 := (q0 3 (by omega)).1
  have z3 := (q0 3 (by omega)).2
  clear q0
  go_wp2
  refine bodyPost_ret (v := .agg #[fv g0' l0', fv g1' l1', fv g2 l2, fv g3 l3]) (by simp [results, Tryz.results70, go_sem, c0, c1, c2, c3]) rfl ⟨_, _, _, _, _, _, _, _, rfl, ?_, ?_⟩
  · have hs := hc.later (((((Since.refl _ W).setCell (p := ⟨w.heap.size + 1, 0, none⟩) (by simp) (fv g0' l0')).setCell (p := ⟨w.heap.size + 1, 1, none⟩) (by simp) (fv g1' l1')).setCell (p := ⟨w.heap.size + 1, 2, none⟩) (by simp) (fv g2 l2)).setCell (p := ⟨w.heap.size + 1, 3, none⟩) (by simp) (fv g3 l3))
    exact (hs.base (fun k h _ => h.1)).as (fun _ => rfl) (fun _ => rfl) (fun _ _ h => h) (fun _ _ _ => rfl) (fun y => by rw [show romanL.sum = 365 from by decide])
  · have hb0 : Below w.heap.size w W := ((((Below.refl _ w).alloc (Nat.le_refl _) _).alloc (by simp) _).alloc (by simp; omega) _).trans (hb.mono (by simp; omega))
    exact (((hb0.setCell (by simp) _).setCell (by simp) _).setCell (by simp) _).setCell (by simp) _

def thirteenL : List Int := [30, 30, 30, 30, 30, 30, 30, 30, 30, 30, 30, 30, 5]
set_option maxHeartbeats 1000000 in
theorem thirteen_any (first : Int) (g0 : Nat) (l0 : Array Value) (g1 : Nat) (l1 : Array Value) (w : World) (is : Int → Bool) (ahead : Int → Int) (R : Int) (B : Nat) (hl : IsLeaps (fv g0 l0) (fv g1 l1) is ahead R (From B) w) (hB : B ≤ w.heap.size) (hR1 : 40000 ≤ R)
    (ha : ∀ y, -40000 ≤ y → y ≤ 40000 → -100000000 ≤ ahead y ∧ ahead y ≤ 100000000) (f1 : -10000000 ≤ first) (f2 : first ≤ 10000000) :
    Calls Tryz.prog 72 #[.int .i64 first, .agg #[fv g0 l0, fv g1 l1]] w fun e w' => ∃ g0 l0 g1 l1 g2 l2 g3 l3, e = .returned (.agg #[fv g0 l0, fv g1 l1, fv g2 l2, fv g3 l3]) ∧
      IsCalG (fv g0 l0) (fv g1 l1) (fv g2 l2) (fv g3 l3) is (fun _ => 13) (fun y m => thirteenL.getD (m - 1).toNat 0 + (if m = 13 ∧ is y = true then 1 else 0)) (fun y m => -40000 ≤ y ∧ y ≤ 40000 ∧ 1 ≤ m ∧ m ≤ 13) (fun y => first + 365 * (y - 1) + ahead y) (From B) w' ∧ Below w.heap.size w w' := by
  have Hl := hide hl
  clear hl
  have hst := fun (W : World) (a : Row thirteenL (w.heap.size + 1 + 1) W) (b : IsLeaps (fv g0 l0) (fv g1 l1) is ahead R (fun k => B ≤ k ∧ k ≠ w.heap.size + 1) W) (c : ∀ k, W.heap.size ≤ k → B ≤ k ∧ k ≠ w.heap.size + 1) =>
    steady_any first 13 g0 l0 g1 l1 thirteenL (w.heap.size + 1 + 1) W a (by decide) (by decide) (by decide) is ahead R (fun k => B ≤ k ∧ k ≠ w.heap.size + 1) b ⟨by omega, by omega⟩ c hR1 ha f1 f2
  rw [show thirteenL.length = 13 from rfl] at hst
  go_enter Tryz.func72, Tryz.ntmps72
  go_wp2_with fail
  refine (hst _ (by have := row_new ((w.alloc (.cells #[fv g0 l0, fv g1 l1] 126)).alloc (.cells #[.nilFunc, .nilFunc, .nilFunc, .nilFunc] 94)) thirteenL 3; rw [show ((w.alloc (.cells #[fv g0 l0, fv g1 l1] 126)).alloc (.cells #[.nilFunc, .nilFunc, .nilFunc, .nilFunc] 94)).heap.size = w.heap.size + 1 + 1 from by simp] at this; exact this) ?hq1 ?hq2).mono ?_
  case hq1 => exact (Hl.out.on (S' := fun k => B ≤ k ∧ k ≠ w.heap.size + 1) (fun k h1 h2 => ⟨h1, by omega⟩)).later ((((Since.refl _ w).alloc _).alloc _).alloc _)
  case hq2 => intro k hk; simp at hk; omega
  rintro e W ⟨g0', l0', g1', l1', g2, l2, g3, l3, rfl, hc, hb⟩
  clear hst
  have q0 : ∀ j, j < 4 → W.cell? ⟨w.heap.size + 1, j, none⟩ = some .nilFunc ∧ W.frozen? ⟨w.heap.size + 1, j, none⟩ = false := by
    intro j hj
    rw [hb.cell (p := ⟨w.heap.size + 1, j, none⟩) (by simp), hb.frozen (p := ⟨w.heap.size + 1, j, none⟩) (by simp)]
    match j, hj with
    | 0, _ => exact ⟨by simp [go_sem], by simp [go_sem]⟩
    | 1, _ => exact ⟨by simp [go_sem], by simp [go_sem]⟩
    | 2, _ => exact ⟨by simp [go_sem], by simp [go_sem]⟩
    | 3, _ => exact ⟨by simp [go_sem], by simp [go_sem]⟩
  have c0 := (q0 0 (by omega)).1
  have z0 := (q0 0 (by omega)).2
  have c1 := (q0 1 (by omega)).1
  have z1 := (q0 1 (by omega)).2
  have c2 := (q0 2 (by omega)).1
  have z2 := (q0 2 (by omega)).2
  have c3 := (q0 3 (by omega)).1
  have z3 := (q0 3 (by omega)).2
  clear q0
  go_wp2
  refine bodyPost_ret (v := .agg #[fv g0' l0', fv g1' l1', fv g2 l2, fv g3 l3]) (by simp [results, Tryz.results72, go_sem, c0, c1, c2, c3]) rfl ⟨_, _, _, _, _, _, _, _, rfl, ?_, ?_⟩
  · have hs := hc.later (((((Since.refl _ W).setCell (p := ⟨w.heap.size + 1, 0, none⟩) (by simp) (fv g0' l0')).setCell (p := ⟨w.heap.size + 1, 1, none⟩) (by simp) (fv g1' l1')).setCell (p := ⟨w.heap.size + 1, 2, none⟩) (by simp) (fv g2 l2)).setCell (p := ⟨w.heap.size + 1, 3, none⟩) (by simp) (fv g3 l3))
    exact (hs.base (fun k h _ => h.1)).as (fun _ => rfl) (fun _ => rfl) (fun _ _ h => h) (fun _ _ _ => rfl) (fun y => by rw [show thirteenL.sum = 365 from by decide])
  · have hb0 : Below w.heap.size w W := ((((Below.refl _ w).alloc (Nat.le_refl _) _).alloc (by simp) _).alloc (by simp; omega) _).trans (hb.mono (by simp; omega))
    exact (((hb0.setCell (by simp) _).setCell (by simp) _).setCell (by simp) _).setCell (by simp) _
end Go.Proofs.YtgbbplkpepaidaaGreatDoor
