/- Leap years as functions in fields: what a value with these functions answers, in whatever later world. -/
import Derived.Test.YtgbbplkpepaidaaGreatDoorMCronTimes1
import Derived.Laws.EntriesVeiled
import Derived.Deep.QuietTactic
import Derived.BigQuiet
import Derived.Shelf.Abstract
namespace Go.Proofs.YtgbbplkpepaidaaGreatDoor
open Go.RowKit Go.Shelf

theorem mul_bd (m y M Y : Int) (h1 : 0 ≤ m) (h2 : m ≤ M) (h3 : -Y ≤ y) (h4 : y ≤ Y) : -(M * Y) ≤ m * y ∧ m * y ≤ M * Y := by
  have hY : 0 ≤ Y := by omega
  have a : m * y ≤ m * Y := Int.mul_le_mul_of_nonneg_left h4 h1
  have b : m * (-Y) ≤ m * y := Int.mul_le_mul_of_nonneg_left h3 h1
  have c : m * Y ≤ M * Y := Int.mul_le_mul_of_nonneg_right h2 hY
  have d : m * (-Y) = -(m * Y) := Int.mul_neg m Y
  omega

theorem ediv_bd (x c X : Int) (hc : 0 < c) (h1 : -X ≤ x) (h2 : x ≤ X) : -X ≤ x / c ∧ x / c ≤ X := by
  have hX : 0 ≤ X := by omega
  have a : X * 1 ≤ X * c := Int.mul_le_mul_of_nonneg_left (by omega) hX
  have b : -X * c = -(X * c) := Int.neg_mul X c
  exact ⟨Int.le_ediv_of_mul_le hc (by omega), Int.ediv_le_of_le_mul hc (by omega)⟩

theorem bcell {W w1 : World} (hb : Below W.heap.size W w1) : (∀ b o, b < W.heap.size → w1.cell? ⟨b, o, none⟩ = W.cell? ⟨b, o, none⟩) ∧ (∀ b o, b < W.heap.size → w1.frozen? ⟨b, o, none⟩ = W.frozen? ⟨b, o, none⟩) :=
  ⟨fun b o h => hb.cell (p := ⟨b, o, none⟩) h, fun b o h => hb.frozen (p := ⟨b, o, none⟩) h⟩
theorem below_drewN {B : Nat} {a w : World} (h : Below B a w) (q : Nat) : Below B a (w.drewN q) := ⟨h.os, h.tape, h.output, h.size, h.block⟩

/-- The blocks from B on. -/
abbrev From (B : Nat) : Nat → Prop := fun k => B ≤ k
/-- In the blocks of S all that lay in w lies in W as it lay. -/
structure Since (S : Nat → Prop) (w W : World) : Prop where
  size : w.heap.size ≤ W.heap.size
  block : ∀ k, S k → k < w.heap.size → W.heap[k]? = w.heap[k]?
theorem Since.refl (S : Nat → Prop) (w : World) : Since S w w := ⟨Nat.le_refl _, fun _ _ _ => rfl⟩
theorem Since.trans {S : Nat → Prop} {a b c : World} (h : Since S a b) (k : Since S b c) : Since S a c :=
  ⟨Nat.le_trans h.size k.size, fun i h1 h2 => (k.block i h1 (Nat.lt_of_lt_of_le h2 h.size)).trans (h.block i h1 h2)⟩
theorem Since.less {S S' : Nat → Prop} {a b : World} (h : Since S a b) (hS : ∀ k, S' k → k < a.heap.size → S k) : Since S' a b := ⟨h.size, fun i h1 h2 => h.block i (hS i h1 h2) h2⟩
theorem Since.mono {B B' : Nat} {a b : World} (h : Since (From B) a b) (hB : B ≤ B') : Since (From B') a b := h.less fun _ hk _ => Nat.le_trans hB hk
theorem Since.of_below {S : Nat → Prop} {a b : World} (h : Below a.heap.size a b) : Since S a b := ⟨h.size, fun i _ h2 => h.block i h2⟩
theorem Since.setCell {S : Nat → Prop} {a w : World} (h : Since S a w) {p : Addr} (hp : ¬ S p.block) (u : Value) : Since S a (w.setCell p u) :=
  h.trans ⟨by simp [World.setCell], fun k hk _ => Below.heap_setCell _ _ _ _ (fun e => hp (e ▸ hk))⟩
theorem Since.alloc {S : Nat → Prop} {a w : World} (h : Since S a w) (o : Obj) : Since S a (w.alloc o) :=
  h.trans (Since.of_below ((Below.refl _ w).alloc (Nat.le_refl _) o))
theorem Since.drewN {S : Nat → Prop} {a w : World} (h : Since S a w) (q : Nat) : Since S a (w.drewN q) := ⟨h.size, h.block⟩
theorem Since.cell {S : Nat → Prop} {w W : World} (h : Since S w W) {p : Addr} (h1 : S p.block) (h2 : p.block < w.heap.size) : W.cell? p = w.cell? p := World.cell?_of_block (w := w) (h.block p.block h1 h2)

abbrev fv (g : Nat) (lb : Array Value) : Value := .func (.func g) #[] lb
/-- v is a function of one number: asked for a number from lo to hi, in a world in which all lies that lay from block B on, it answers f; it only reads. -/
def FnIs (v : Value) (f : Int → Value) (lo hi : Int) (S : Nat → Prop) (w : World) : Prop :=
  ∃ g lb, v = .func (.func g) #[] lb ∧ (∀ args w, (callFunc g args).run Tryz.prog w = .ok (.enter g args) w) ∧
    ∀ W y, Since S w W → lo ≤ y → y ≤ hi → Calls Tryz.prog g (#[.int .i64 y] ++ lb) W fun e W' => e = .returned (f y) ∧ ∃ q, W' = W.drewN q
theorem FnIs.later {v : Value} {f : Int → Value} {lo hi : Int} {S : Nat → Prop} {w W : World} (h : FnIs v f lo hi S w) (hb : Since S w W) : FnIs v f lo hi S W := by
  obtain ⟨g, lb, e, en, k⟩ := h
  exact ⟨g, lb, e, en, fun W' y hb' => k W' y (hb.trans hb')⟩
theorem FnIs.base {v : Value} {f : Int → Value} {lo hi : Int} {S S' : Nat → Prop} {w : World} (h : FnIs v f lo hi S w) (hS : ∀ k, S k → k < w.heap.size → S' k) : FnIs v f lo hi S' w := by
  obtain ⟨g, lb, e, en, k⟩ := h
  exact ⟨g, lb, e, en, fun W' y hb' => k W' y (hb'.less hS)⟩
theorem FnIs.less {v : Value} {f : Int → Value} {lo hi lo' hi' : Int} {S : Nat → Prop} {w : World} (h : FnIs v f lo hi S w) (h1 : lo ≤ lo') (h2 : hi' ≤ hi) : FnIs v f lo' hi' S w := by
  obtain ⟨g, lb, e, en, k⟩ := h
  exact ⟨g, lb, e, en, fun W' y hb' a b => k W' y hb' (by omega) (by omega)⟩
theorem FnIs.as {v : Value} {f f' : Int → Value} {lo hi : Int} {S : Nat → Prop} {w : World} (h : FnIs v f lo hi S w) (hf : ∀ y, f y = f' y) : FnIs v f' lo hi S w := by
  obtain rfl : f = f' := funext hf
  exact h

theorem FnIs.enters {g : Nat} {lb : Array Value} {f : Int → Value} {lo hi : Int} {S : Nat → Prop} {w : World} (h : FnIs (fv g lb) f lo hi S w) : ∀ args w, (callFunc g args).run Tryz.prog w = .ok (.enter g args) w := by
  obtain ⟨g', lb', e, en, k⟩ := h
  simp only [Value.func.injEq, Fn.func.injEq, true_and] at e
  obtain ⟨rfl, rfl⟩ := e
  exact en
theorem FnIs.calls {g : Nat} {lb : Array Value} {f : Int → Value} {lo hi : Int} {S : Nat → Prop} {w : World} (h : FnIs (fv g lb) f lo hi S w) (W : World) (y : Int) (hs : Since S w W) (h1 : lo ≤ y) (h2 : y ≤ hi) :
    Calls Tryz.prog g (#[.int .i64 y] ++ lb) W fun e W' => e = .returned (f y) ∧ ∃ q, W' = W.drewN q := by
  obtain ⟨g', lb', e, en, k⟩ := h
  simp only [Value.func.injEq, Fn.func.injEq, true_and] at e
  obtain ⟨rfl, rfl⟩ := e
  exact k W y hs h1 h2

/-- two functions: which years are leap years, and how many are ahead of one -/
structure IsLeaps (v0 v1 : Value) (is : Int → Bool) (ahead : Int → Int) (R : Int) (S : Nat → Prop) (w : World) : Prop where
  is : FnIs v0 (fun y => .bool (is y)) (-R) R S w
  ahead : FnIs v1 (fun y => .int .i64 (ahead y)) (-R) R S w
theorem IsLeaps.later {v0 v1 : Value} {is : Int → Bool} {ahead : Int → Int} {R : Int} {S : Nat → Prop} {w W : World} (h : IsLeaps v0 v1 is ahead R S w) (hb : Since S w W) : IsLeaps v0 v1 is ahead R S W :=
  ⟨h.is.later hb, h.ahead.later hb⟩
theorem IsLeaps.on {v0 v1 : Value} {is : Int → Bool} {ahead : Int → Int} {R : Int} {S S' : Nat → Prop} {w : World} (h : IsLeaps v0 v1 is ahead R S w) (hS : ∀ k, S k → k < w.heap.size → S' k) : IsLeaps v0 v1 is ahead R S' w :=
  ⟨h.is.base hS, h.ahead.base hS⟩
theorem IsLeaps.base {v0 v1 : Value} {is : Int → Bool} {ahead : Int → Int} {R : Int} {B B' : Nat} {w : World} (h : IsLeaps v0 v1 is ahead R (From B) w) (hB : B' ≤ B) : IsLeaps v0 v1 is ahead R (From B') w :=
  h.on fun _ hk _ => Nat.le_trans hB hk

/-! ### spread -/
theorem spread1_any (b m c y : Int) (p1 p2 p3 : Addr) (w : World) (h1 : w.cell? p1 = some (.int .i64 b)) (h2 : w.cell? p2 = some (.int .i64 m)) (h3 : w.cell? p3 = some (.int .i64 c))
    (b1 : -100000 ≤ b) (b2 : b ≤ 100000) (m1 : 0 ≤ m) (m2 : m ≤ 10000) (c1 : 0 < c) (c2 : c ≤ 1000000) (y1 : -2000000 ≤ y) (y2 : y ≤ 2000000) :
    Calls Tryz.prog 91 #[.int .i64 y, .pointer (some p1), .pointer (some p2), .pointer (some p3)] w fun e w' => e = .returned (.bool (decide ((b + m * y) % c < m))) ∧ ∃ q, w' = w.drewN q := by
  have hm := mul_bd m y 10000 2000000 m1 m2 y1 y2
  go_enter Tryz.func91, Tryz.ntmps91
  go_wp2_with fail
  go_quiet ((go_at_call 92; exact Calls.quiet_of_same (mod_any _ _ _ (by omega) (by omega))))
  go_wp2
  go_ret
  exact ⟨rfl, _, rfl⟩
theorem spread2_any (b m c y : Int) (p1 p2 p3 : Addr) (w : World) (h1 : w.cell? p1 = some (.int .i64 b)) (h2 : w.cell? p2 = some (.int .i64 m)) (h3 : w.cell? p3 = some (.int .i64 c))
    (b1 : -100000 ≤ b) (b2 : b ≤ 100000) (m1 : 0 ≤ m) (m2 : m ≤ 10000) (c1 : 0 < c) (c2 : c ≤ 1000000) (y1 : -2000000 ≤ y) (y2 : y ≤ 2000000) :
    Calls Tryz.prog 93 #[.int .i64 y, .pointer (some p1), .pointer (some p2), .pointer (some p3)] w fun e w' => e = .returned (.int .i64 ((b + m * (y - 1)) / c - b / c)) ∧ ∃ q, w' = w.drewN q := by
  have hm := mul_bd m (y - 1) 10000 2000001 m1 m2 (by omega) (by omega)
  go_enter Tryz.func93, Tryz.ntmps93
  go_wp2_with fail
  go_quiet ((go_at_call 94; exact Calls.quiet_of_same (floor_any _ _ _ (by omega) (by omega) (by omega) (by omega))))
  go_wp2
  go_ret
  have d1 := ediv_bd (b + m * (y - 1)) c 30000000000 c1 (by omega) (by omega)
  have d2 := ediv_bd b c 100000 c1 b1 b2
  exact ⟨ret_int (wrap64_id (by omega) (by omega)), _, rfl⟩
abbrev ptr (k : Nat) : Value := .pointer (some ⟨k, 0, none⟩)
theorem spread_any (b m c : Int) (w : World) (b1 : -100000 ≤ b) (b2 : b ≤ 100000) (m1 : 0 ≤ m) (m2 : m ≤ 10000) (c1 : 0 < c) (c2 : c ≤ 1000000) :
    Calls Tryz.prog 74 #[.int .i64 b, .int .i64 m, .int .i64 c] w fun e w' => ∃ g0 l0 g1 l1, e = .returned (.agg #[fv g0 l0, fv g1 l1]) ∧ IsLeaps (fv g0 l0) (fv g1 l1) (fun y => decide ((b + m * y) % c < m)) (fun y => (b + m * (y - 1)) / c - b / c) 2000000 (From w.heap.size) w' ∧ Below w.heap.size w w' := by
  go_enter Tryz.func74, Tryz.ntmps74
  go_wp2
  refine bodyPost_ret (v := .agg #[.func (.func 91) #[] #[ptr w.heap.size, ptr (w.heap.size + 1), ptr (w.heap.size + 1 + 1)], .func (.func 93) #[] #[ptr w.heap.size, ptr (w.heap.size + 1), ptr (w.heap.size + 1 + 1)]])
    (by simp [results, Tryz.results74, go_sem]) rfl ⟨_, _, _, _, rfl, ⟨?_, ?_⟩, ?_⟩
  · refine ⟨_, _, rfl, enters_of Tryz.func91 (by kernel_rfl) rfl, fun W y hb h1 h2 => ?_⟩
    exact spread1_any b m c y _ _ _ W ((hb.cell (p := ⟨w.heap.size, 0, none⟩) (by simp) (by simp; omega)).trans (by simp [go_sem])) ((hb.cell (p := ⟨w.heap.size + 1, 0, none⟩) (by simp) (by simp)).trans (by simp [go_sem])) ((hb.cell (p := ⟨w.heap.size + 1 + 1, 0, none⟩) (by simp; omega) (by simp)).trans (by simp [go_sem])) b1 b2 m1 m2 c1 c2 h1 h2
  · refine ⟨_, _, rfl, enters_of Tryz.func93 (by kernel_rfl) rfl, fun W y hb h1 h2 => ?_⟩
    exact spread2_any b m c y _ _ _ W ((hb.cell (p := ⟨w.heap.size, 0, none⟩) (by simp) (by simp; omega)).trans (by simp [go_sem])) ((hb.cell (p := ⟨w.heap.size + 1, 0, none⟩) (by simp) (by simp)).trans (by simp [go_sem])) ((hb.cell (p := ⟨w.heap.size + 1 + 1, 0, none⟩) (by simp; omega) (by simp)).trans (by simp [go_sem])) b1 b2 m1 m2 c1 c2 h1 h2
  · exact ((((Below.refl _ w).alloc (Nat.le_refl _) _).alloc (by simp) _).alloc (by simp; omega) _).alloc (by simp; omega) _

theorem everyFourth_any (r : Int) (w : World) (b1 : -100000 ≤ r) (b2 : r ≤ 100000) :
    Calls Tryz.prog 71 #[.int .i64 r] w fun e w' => ∃ g0 l0 g1 l1, e = .returned (.agg #[fv g0 l0, fv g1 l1]) ∧ IsLeaps (fv g0 l0) (fv g1 l1) (fun y => decide ((-r + 1 * y) % 4 < 1)) (fun y => (-r + 1 * (y - 1)) / 4 - -r / 4) 2000000 (From w.heap.size) w' ∧ Below w.heap.size w w' := by
  go_enter Tryz.func71, Tryz.ntmps71
  go_wp2_with fail
  refine (spread_any (-r) 1 4 _ (by omega) (by omega) (by omega) (by omega) (by omega) (by omega)).mono ?_
  rintro e W ⟨g0, l0, g1, l1, rfl, hl, hb⟩
  obtain ⟨hc, hf⟩ := bcell hb
  have hz : w.heap.size + 1 ≤ W.heap.size := by have := hb.size; simp at this; omega
  go_wp2
  refine bodyPost_ret (v := .agg #[fv g0 l0, fv g1 l1]) (by simp [results, Tryz.results71, go_sem, hc]) rfl ⟨_, _, _, _, rfl, ?_, ?_⟩
  · exact (hl.later (((Since.refl _ W).setCell (by simp) _).setCell (by simp) _)).base (by simp)
  · exact ((((Below.refl _ w).alloc (Nat.le_refl _) _).trans (hb.mono (by simp))).setCell (by simp) _).setCell (by simp) _
theorem noLeaps_any (w : World) :
    Calls Tryz.prog 80 #[] w fun e w' => ∃ g0 l0 g1 l1, e = .returned (.agg #[fv g0 l0, fv g1 l1]) ∧ IsLeaps (fv g0 l0) (fv g1 l1) (fun _ => false) (fun _ => 0) 2000000 (From w.heap.size) w' ∧ Below w.heap.size w w' := by
  go_enter Tryz.func80, Tryz.ntmps80
  go_wp2
  refine bodyPost_ret (v := .agg #[.func (.func 109) #[] #[], .func (.func 110) #[] #[]])
    (by simp [results, Tryz.results80, go_sem]) rfl ⟨_, _, _, _, rfl, ⟨?_, ?_⟩, ?_⟩
  · refine ⟨_, _, rfl, enters_of Tryz.func109 (by kernel_rfl) rfl, fun W y hb h1 h2 => ?_⟩
    go_enter Tryz.func109, Tryz.ntmps109
    go_wp2
    go_ret
    exact ⟨rfl, 0, rfl⟩
  · refine ⟨_, _, rfl, enters_of Tryz.func110 (by kernel_rfl) rfl, fun W y hb h1 h2 => ?_⟩
    go_enter Tryz.func110, Tryz.ntmps110
    go_wp2
    go_ret
    exact ⟨rfl, 0, rfl⟩
  · exact (Below.refl _ w).alloc (Nat.le_refl _) _
theorem gregorianLeaps_any (w : World) :
    Calls Tryz.prog 78 #[] w fun e w' => ∃ g0 l0 g1 l1, e = .returned (.agg #[fv g0 l0, fv g1 l1]) ∧ IsLeaps (fv g0 l0) (fv g1 l1) Alm.gleap Alm.gahead 2000000 (From w.heap.size) w' ∧ Below w.heap.size w w' := by
  go_enter Tryz.func78, Tryz.ntmps78
  go_wp2
  refine bodyPost_ret (v := .agg #[.func (.func 105) #[] #[], .func (.func 106) #[] #[]])
    (by simp [results, Tryz.results78, go_sem]) rfl ⟨_, _, _, _, rfl, ⟨?_, ?_⟩, ?_⟩
  · refine ⟨_, _, rfl, enters_of Tryz.func105 (by kernel_rfl) rfl, fun W y hb h1 h2 => ?_⟩
    go_enter Tryz.func105, Tryz.ntmps105
    go_wp2_with (go_at_call 92; refine (mod_any _ _ _ (by omega) (by omega)).mono ?_; rintro e w' ⟨rfl, rfl⟩)
    all_goals
      go_ret
      exact ⟨ret_bool (by rw [Bool.eq_iff_iff]; simp [Alm.gleap]; omega), 0, rfl⟩
  · refine ⟨_, _, rfl, enters_of Tryz.func106 (by kernel_rfl) rfl, fun W y hb h1 h2 => ?_⟩
    go_enter Tryz.func106, Tryz.ntmps106
    go_wp2_with (go_at_call 94; refine (floor_any _ _ _ (by omega) (by omega) (by omega) (by omega)).mono ?_; rintro e w' ⟨rfl, rfl⟩)
    all_goals
      go_ret
      exact ⟨ret_int (by unfold Alm.gahead; omega), 0, rfl⟩
  · exact (Below.refl _ w).alloc (Nat.le_refl _) _

end Go.Proofs.YtgbbplkpepaidaaGreatDoor
