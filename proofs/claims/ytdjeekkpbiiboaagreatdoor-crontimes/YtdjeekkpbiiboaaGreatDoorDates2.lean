/- The day of a date; the year and the month of a day. -/
import Derived.Test.YtdjeekkpbiiboaaGreatDoorDates
namespace Go.Proofs.YtdjeekkpbiiboaaGreatDoor
open Go.RowKit Go.Shelf

theorem yearOf1_any (g0 : Nat) (l0 : Array Value) (g1 : Nat) (l1 : Array Value) (g2 : Nat) (l2 : Array Value) (g3 : Nat) (l3 : Array Value) (c day i : Int) (S : Nat → Prop) (p1 p2 : Nat) (w : World) (h3 : w.cell? ⟨p1, 3, none⟩ = some (fv g3 l3)) (hd : w.cell? ⟨p2, 0, none⟩ = some (.int .i64 day)) (hc : IsCal (fv g0 l0) (fv g1 l1) (fv g2 l2) (fv g3 l3) c S w) (i1 : 0 ≤ i) (i2 : i ≤ 40001) :
    Calls Tryz.prog 82 #[.int .i64 i, ptr p1, ptr p2] w fun e w' => e = .returned (.bool (decide (day < Alm.start c (i - 20000)))) ∧ ∃ q, w' = w.drewN q := by
  have en := hc.start.enters
  have k1 := hide (fun q => hc.start.calls _ (i - 20000) ((Since.refl _ w).drewN q) (by omega) (by omega))
  clear hc
  generalize Alm.start c (i - 20000) = st at *
  go_enter Tryz.func82, Tryz.ntmps82
  go_wp2_with fail
  go_quiet ((go_at_fn g3; exact Calls.quiet_of (k1.out _)))
  go_wp2
  go_ret
  exact ⟨rfl, _, rfl⟩

/-- the year of a day -/
def yr (c day y : Int) : Prop := Alm.start c y ≤ day ∧ day < Alm.start c (y + 1)
theorem yr_ex (c day : Int) (h1 : 1 ≤ c) (h2 : c ≤ 10) (d1 : -4000300 ≤ day) (d2 : day ≤ 4000300) : ∃ y, yr c day y ∧ -20000 ≤ y ∧ y < 20000 := by
  have lo := Alm.start_lo c h1 h2
  have hi := Alm.start_hi c h1 h2
  have key : ∀ n : Nat, day < Alm.start c (-20000 + n) → ∃ y, yr c day y ∧ -20000 ≤ y ∧ y < -20000 + n := by
    intro n
    induction n with
    | zero => intro h; simp at h; omega
    | succ n ih =>
      intro h
      by_cases hn : day < Alm.start c (-20000 + n)
      · obtain ⟨y, a, b, c'⟩ := ih hn
        exact ⟨y, a, b, by omega⟩
      · refine ⟨-20000 + n, ⟨by omega, ?_⟩, by omega, by omega⟩
        have e : (-20000 : Int) + n + 1 = -20000 + ((n + 1 : Nat) : Int) := by omega
        rw [e]; exact h
  have := key 40000 (by simpa using (by omega : day < Alm.start c 20000))
  simpa using this
theorem yr_start (c day y z : Int) (h1 : 1 ≤ c) (h2 : c ≤ 10) (h : yr c day y) : (z ≤ y → Alm.start c z ≤ day) ∧ (y < z → day < Alm.start c z) := by
  obtain ⟨a, b⟩ := h
  constructor
  · intro hz
    by_cases e : z = y
    · subst e; exact a
    · have := Alm.start_lt c z y h1 h2 (by omega); omega
  · intro hz
    by_cases e : z = y + 1
    · subst e; exact b
    · have := Alm.start_lt c (y + 1) z h1 h2 (by omega); omega

set_option maxHeartbeats 1000000 in
theorem yearOf_any (g0 : Nat) (l0 : Array Value) (g1 : Nat) (l1 : Array Value) (g2 : Nat) (l2 : Array Value) (g3 : Nat) (l3 : Array Value) (c day y : Int) (S : Nat → Prop) (w : World) (hc : IsCal (fv g0 l0) (fv g1 l1) (fv g2 l2) (fv g3 l3) c S w) (hS : ∀ k, w.heap.size ≤ k → S k) (h1 : 1 ≤ c) (h2 : c ≤ 10) (hy : yr c day y) (y1 : -20000 ≤ y) (y2 : y < 20001) :
    Calls Tryz.prog 50 #[.agg #[fv g0 l0, fv g1 l1, fv g2 l2, fv g3 l3], .int .i64 day] w fun e w' => e = .returned (.int .i64 y) ∧ Below w.heap.size w w' := by
  have hB : ∀ W, Since S ((w.alloc (.cells #[fv g0 l0, fv g1 l1, fv g2 l2, fv g3 l3] 94)).alloc (.cells #[.int .i64 day] 3)) W → IsCal (fv g0 l0) (fv g1 l1) (fv g2 l2) (fv g3 l3) c S W :=
    fun W hs => hc.later ((((Since.refl _ w).alloc _).alloc _).trans hs)
  clear hc
  have hf : FnIs (fv 82 #[ptr w.heap.size, ptr (w.heap.size + 1)]) (fun i => .bool (decide (day < Alm.start c (i - 20000)))) 0 40001 S ((w.alloc (.cells #[fv g0 l0, fv g1 l1, fv g2 l2, fv g3 l3] 94)).alloc (.cells #[.int .i64 day] 3)) := by
    refine ⟨_, _, rfl, enters_of Tryz.func82 (by kernel_rfl) rfl, fun W i hs i1 i2 => ?_⟩
    exact yearOf1_any g0 l0 g1 l1 g2 l2 g3 l3 c day i S _ _ W ((hs.cell (p := ⟨w.heap.size, 3, none⟩) (hS _ (by simp)) (by simp; omega)).trans (by simp [go_sem])) ((hs.cell (p := ⟨w.heap.size + 1, 0, none⟩) (hS _ (by simp)) (by simp)).trans (by simp [go_sem])) (hB W hs) i1 i2
  have hsr := search_any _ _ (fun i => decide (day < Alm.start c (i - 20000))) 40001 (y + 20001) S _ hf (by omega) (by omega) (by omega) (by omega)
    (fun i i1 i2 => decide_eq_false (by have := (yr_start c day y (i - 20000) h1 h2 hy).1 (by omega); omega)) (fun i i1 i2 => decide_eq_true ((yr_start c day y (i - 20000) h1 h2 hy).2 (by omega)))
  clear hf hB
  go_enter Tryz.func50, Tryz.ntmps50
  go_wp2_with fail
  refine hsr.mono ?_
  rintro e w' ⟨rfl, q, rfl⟩
  go_wp2
  go_ret
  exact ⟨ret_int (by omega), below_drewN (((Below.refl _ w).alloc (Nat.le_refl _) _).alloc (by simp) _) _⟩
end Go.Proofs.YtdjeekkpbiiboaaGreatDoor
