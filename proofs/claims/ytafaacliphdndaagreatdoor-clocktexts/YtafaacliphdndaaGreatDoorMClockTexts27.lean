/- The month of a day. -/
import Derived.Test.YtafaacliphdndaaGreatDoorMClockTexts26
namespace Go.Proofs.YtafaacliphdndaaGreatDoor
open Go.RowKit Go.Shelf

set_option maxHeartbeats 1000000 in
theorem day_any (g0 : Nat) (l0 : Array Value) (g1 : Nat) (l1 : Array Value) (g2 : Nat) (l2 : Array Value) (g3 : Nat) (l3 : Array Value) (c y m d : Int) (S : Nat → Prop) (w : World) (hc : IsCal (fv g0 l0) (fv g1 l1) (fv g2 l2) (fv g3 l3) c S w) (h1 : 1 ≤ c) (h2 : c ≤ 10) (y1 : -40000 ≤ y) (y2 : y ≤ 40000) (m1 : 1 ≤ m) (m2 : m ≤ Alm.months c y) (d1 : 0 ≤ d) (d2 : d ≤ 100) :
    Calls Tryz.prog 100 #[.agg #[fv g0 l0, fv g1 l1, fv g2 l2, fv g3 l3], .int .i64 y, .int .i64 m, .int .i64 d] w fun e w' => e = .returned (.int .i64 (Alm.start c y + d - 1 + Alm.cum c y (m - 1).toNat)) ∧ Below w.heap.size w w' := by
  have hB := box_cal w g0 l0 g1 l1 g2 l2 g3 l3 c S hc
  clear hc
  have en1 := hB.start.enters
  have en2 := hB.len.enters
  have k1 := hB.start.calls _ y (Since.refl _ _) y1 y2
  have k2 := hide (fun q z h => hB.len.calls _ y z ((Since.refl _ _).drewN q) h)
  clear hB
  have sb := Alm.start_bd c y h1 h2 y1 y2
  have Hcs := hide (Alm.cum_succ c y)
  have Hcb := hide (Alm.cum_bd c y)
  have Hml := hide (Alm.mlen_bd c y)
  have hmo := Alm.months_bd c y
  generalize Alm.months c y = mo at *
  generalize Alm.start c y = st at *
  go_enter Tryz.func100, Tryz.ntmps100
  go_wp2_with fail
  refine k1.mono ?_
  rintro e w' ⟨rfl, q, rfl⟩
  go_wp2_with fail
  go_loopw [9, 20] (fun s i wr => ∃ k : Nat, (k : Int) ≤ m - 1 ∧ i = .int .i64 k ∧ s = .int .i64 (st + d - 1 + Alm.cum c y k) ∧ ∃ q, wr = (w.alloc (.cells #[fv g0 l0, fv g1 l1, fv g2 l2, fv g3 l3] 148)).drewN q) (fun _ i _ => (m - intOf i).toNat)
  case atStart => exact ⟨0, by omega, rfl, by simp [Alm.cum], q, rfl⟩
  case round =>
    obtain ⟨k, hk, rfl, rfl, q', rfl⟩ := hrel
    have cb := Hcb.out k (by omega)
    by_cases hlt : (k : Int) < m - 1
    · have ml := Hml.out (k + 1) (by omega) (by omega)
      have k3 := k2.out q' (k + 1) ⟨y1, y2, by omega, by omega⟩
      have hcs := Hcs.out k (by omega)
      have HC := hide hcs
      clear hcs
      generalize Alm.mlen c y (k + 1) = ml1 at *
      generalize Alm.cum c y k = cu at *
      go_wp2_with fail
      refine k3.mono ?_
      rintro e w' ⟨rfl, q3, rfl⟩
      go_wp2
      go_roundw
      case rel => exact ⟨k + 1, by omega, by simp, by rw [HC.out]; simp; omega, q' + q3, by simp⟩
      case measure => simp [intOf]; omega
    · have E1 := hide (show m.toNat - 1 = k by omega)
      go_wp2
      go_ret
      exact ⟨ret_int (by rw [E1.out]), below_drewN ((Below.refl _ w).alloc (Nat.le_refl _) _) _⟩

theorem yearOf1_any (g0 : Nat) (l0 : Array Value) (g1 : Nat) (l1 : Array Value) (g2 : Nat) (l2 : Array Value) (g3 : Nat) (l3 : Array Value) (c day i : Int) (S : Nat → Prop) (p1 p2 : Nat) (w : World) (h3 : w.cell? ⟨p1, 3, none⟩ = some (fv g3 l3)) (hd : w.cell? ⟨p2, 0, none⟩ = some (.int .i64 day)) (hc : IsCal (fv g0 l0) (fv g1 l1) (fv g2 l2) (fv g3 l3) c S w) (i1 : 0 ≤ i) (i2 : i ≤ 40001) :
    Calls Tryz.prog 133 #[.int .i64 i, ptr p1, ptr p2] w fun e w' => e = .returned (.bool (decide (day < Alm.start c (i - 20000)))) ∧ ∃ q, w' = w.drewN q := by
  have en := hc.start.enters
  have k1 := hide (fun q => hc.start.calls _ (i - 20000) ((Since.refl _ w).drewN q) (by omega) (by omega))
  clear hc
  generalize Alm.start c (i - 20000) = st at *
  go_enter Tryz.func133, Tryz.ntmps133
  go_wp2_with fail
  go_quiet ((go_at_fn g3; exact Calls.quiet_of (k1.out _)))
  go_wp2
  go_ret
  exact ⟨rfl, _, rfl⟩

/-- the year of a day -/
def yr (c day y : Int) : Prop := Alm.start c y ≤ day ∧ day < Alm.start c (y + 1)
theorem yr_ex (c day : Int) (h1 : 1 ≤ c) (h2 : c ≤ 10) (d1 : -4000300 ≤ day) (d2 : day ≤ 4000300) : ∃ y, yr c day y ∧ -20000 ≤ y ∧ y < 20000 := by
  have lo := Alm.start_lo c h1 h2
  have hi := Alm.start_hi c h1 h2
  have key : ∀ n : Nat, day < Alm.start c (-20000 + n) → ∃ y, yr c day y ∧ -20000 ≤ y ∧ y < -20000 + n := by
    intro n
    induction n with
    | zero => intro h; simp at h; omega
    | succ n ih =>
      intro h
      by_cases hn : day < Alm.start c (-20000 + n)
      · obtain ⟨y, a, b, c'⟩ := ih hn
        exact ⟨y, a, b, by omega⟩
      · refine ⟨-20000 + n, ⟨by omega, ?_⟩, by omega, by omega⟩
        have e : (-20000 : Int) + n + 1 = -20000 + ((n + 1 : Nat) : Int) := by omega
        rw [e]; exact h
  have := key 40000 (by simpa using (by omega : day < Alm.start c 20000))
  simpa using this
theorem yr_start (c day y z : Int) (h1 : 1 ≤ c) (h2 : c ≤ 10) (h : yr c day y) : (z ≤ y → Alm.start c z ≤ day) ∧ (y < z → day < Alm.start c z) := by
  obtain ⟨a, b⟩ := h
  constructor
  · intro hz
    by_cases e : z = y
    · subst e; exact a
    · have := Alm.start_lt c z y h1 h2 (by omega); omega
  · intro hz
    by_cases e : z = y + 1
    · subst e; exact b
    · have := Alm.start_lt c (y + 1) z h1 h2 (by omega); omega

set_option maxHeartbeats 1000000 in
theorem yearOf_any (g0 : Nat) (l0 : Array Value) (g1 : Nat) (l1 : Array Value) (g2 : Nat) (l2 : Array Value) (g3 : Nat) (l3 : Array Value) (c day y : Int) (S : Nat → Prop) (w : World) (hc : IsCal (fv g0 l0) (fv g1 l1) (fv g2 l2) (fv g3 l3) c S w) (hS : ∀ k, w.heap.size ≤ k → S k) (h1 : 1 ≤ c) (h2 : c ≤ 10) (hy : yr c day y) (y1 : -20000 ≤ y) (y2 : y < 20001) :
    Calls Tryz.prog 95 #[.agg #[fv g0 l0, fv g1 l1, fv g2 l2, fv g3 l3], .int .i64 day] w fun e w' => e = .returned (.int .i64 y) ∧ Below w.heap.size w w' := by
  have hB : ∀ W, Since S ((w.alloc (.cells #[fv g0 l0, fv g1 l1, fv g2 l2, fv g3 l3] 148)).alloc (.cells #[.int .i64 day] 3)) W → IsCal (fv g0 l0) (fv g1 l1) (fv g2 l2) (fv g3 l3) c S W :=
    fun W hs => hc.later ((((Since.refl _ w).alloc _).alloc _).trans hs)
  clear hc
  have hf : FnIs (fv 133 #[ptr w.heap.size, ptr (w.heap.size + 1)]) (fun i => .bool (decide (day < Alm.start c (i - 20000)))) 0 40001 S ((w.alloc (.cells #[fv g0 l0, fv g1 l1, fv g2 l2, fv g3 l3] 148)).alloc (.cells #[.int .i64 day] 3)) := by
    refine ⟨_, _, rfl, enters_of Tryz.func133 (by kernel_rfl) rfl, fun W i hs i1 i2 => ?_⟩
    exact yearOf1_any g0 l0 g1 l1 g2 l2 g3 l3 c day i S _ _ W ((hs.cell (p := ⟨w.heap.size, 3, none⟩) (hS _ (by simp)) (by simp; omega)).trans (by simp [go_sem])) ((hs.cell (p := ⟨w.heap.size + 1, 0, none⟩) (hS _ (by simp)) (by simp)).trans (by simp [go_sem])) (hB W hs) i1 i2
  have hsr := search_any _ _ (fun i => decide (day < Alm.start c (i - 20000))) 40001 (y + 20001) S _ hf (by omega) (by omega) (by omega) (by omega)
    (fun i i1 i2 => decide_eq_false (by have := (yr_start c day y (i - 20000) h1 h2 hy).1 (by omega); omega)) (fun i i1 i2 => decide_eq_true ((yr_start c day y (i - 20000) h1 h2 hy).2 (by omega)))
  clear hf hB
  go_enter Tryz.func95, Tryz.ntmps95
  go_wp2_with fail
  refine hsr.mono ?_
  rintro e w' ⟨rfl, q, rfl⟩
  go_wp2
  go_ret
  exact ⟨ret_int (by omega), below_drewN (((Below.refl _ w).alloc (Nat.le_refl _) _).alloc (by simp) _) _⟩
end Go.Proofs.YtafaacliphdndaaGreatDoor
namespace Go.Proofs.YtafaacliphdndaaGreatDoor
open Go.RowKit Go.Shelf

set_option maxHeartbeats 1000000 in
theorem monthOf_any (g0 : Nat) (l0 : Array Value) (g1 : Nat) (l1 : Array Value) (g2 : Nat) (l2 : Array Value) (g3 : Nat) (l3 : Array Value) (c y a : Int) (S : Nat → Prop) (w : World) (hc : IsCal (fv g0 l0) (fv g1 l1) (fv g2 l2) (fv g3 l3) c S w) (y1 : -40000 ≤ y) (y2 : y ≤ 40000) (a1 : 0 ≤ a) (a2 : a < Alm.ylen c y) :
    Calls Tryz.prog 96 #[.agg #[fv g0 l0, fv g1 l1, fv g2 l2, fv g3 l3], .int .i64 y, .int .i64 a] w fun e w' => ∃ m d : Int, e = .returned (.tuple #[.int .i64 m, .int .i64 d]) ∧ Alm.IsDate c (Alm.start c y + a) y m d ∧ Below w.heap.size w w' := by
  have hB := box_cal w g0 l0 g1 l1 g2 l2 g3 l3 c S hc
  clear hc
  have en1 := hB.months.enters
  have en2 := hB.len.enters
  have k1 := hB.months.calls _ y (Since.refl _ _) y1 y2
  have k2 := hide (fun q z h => hB.len.calls _ y z ((Since.refl _ _).drewN q) h)
  clear hB
  have Hcs := hide (Alm.cum_succ c y)
  have Hml := hide (Alm.mlen_bd c y)
  have Hcb := hide (Alm.cum_bd c y)
  have Hca := hide (Alm.cum_all c y)
  have hmo := Alm.months_bd c y
  have Hda := hide (fun (m d : Int) (m1 : 1 ≤ m) (m2 : m ≤ Alm.months c y) (d1 : 1 ≤ d) (d2 : d ≤ Alm.mlen c y m) (e : Alm.start c y + a = Alm.start c y + Alm.cum c y (m - 1).toNat + d - 1) => Alm.IsDate.mk (c := c) m1 m2 d1 d2 e)
  have yb := Alm.ylen_bd c y
  generalize Alm.ylen c y = yl at *
  generalize hmoe : Alm.months c y = mo at *
  clear hmoe
  go_enter Tryz.func96, Tryz.ntmps96
  go_wp2_with fail
  refine k1.mono ?_
  rintro e w' ⟨rfl, q, rfl⟩
  go_wp2_with fail
  go_loopw [2, 6, 14] (fun s m i wr => ∃ k : Nat, k < mo ∧ i = .int .i64 k ∧ m = .int .i64 k ∧ 0 ≤ a - Alm.cum c y k ∧ s = .int .i64 (a - Alm.cum c y k) ∧ ∃ q, wr = (w.alloc (.cells #[fv g0 l0, fv g1 l1, fv g2 l2, fv g3 l3] 148)).drewN q) (fun _ _ i _ => (20 - intOf i).toNat)
  case atStart => exact ⟨0, by omega, rfl, rfl, by simp [Alm.cum]; omega, by simp [Alm.cum], q, rfl⟩
  case round =>
    obtain ⟨k, hk, rfl, rfl, hr, rfl, q', rfl⟩ := hrel
    have ml := Hml.out (k + 1) (by omega) (by omega)
    have k3 := k2.out q' (k + 1) ⟨y1, y2, by omega, by omega⟩
    have HC := hide (Hcs.out k hk)
    have cb := Hcb.out k (by omega)
    generalize hmle : Alm.mlen c y (k + 1) = ml1 at *
    have Hmle := hide hmle
    clear hmle
    generalize hcue : Alm.cum c y k = cu at *
    have Hcue := hide hcue
    clear hcue
    by_cases hlt : a - cu < ml1
    · go_wp2_with fail
      refine k3.mono ?_
      rintro e w' ⟨rfl, q3, rfl⟩
      go_wp2
      go_ret2
      refine ⟨(k : Int) + 1, a - cu + 1, rfl, Hda.out _ _ (by omega) (by omega) (by omega) (by rw [Hmle.out]; omega) ?_, below_drewN ((Below.refl _ w).alloc (Nat.le_refl _) _) _⟩
      rw [show ((k : Int) + 1 - 1).toNat = k from by omega, Hcue.out]; omega
    · have hk2 : k + 1 < mo := by
        rcases Nat.lt_or_ge (k + 1) mo with h | h
        · exact h
        · exfalso
          have e : k + 1 = mo := by omega
          have h1 := HC.out
          rw [e, Hca.out] at h1
          omega
      go_wp2_with fail
      refine k3.mono ?_
      rintro e w' ⟨rfl, q3, rfl⟩
      go_wp2
      go_roundw
      case rel => exact ⟨k + 1, hk2, by simp, by simp, by rw [HC.out]; omega, by rw [HC.out]; simp; omega, q' + q3, by simp⟩
      case measure => simp [intOf]; omega
end Go.Proofs.YtafaacliphdndaaGreatDoor
