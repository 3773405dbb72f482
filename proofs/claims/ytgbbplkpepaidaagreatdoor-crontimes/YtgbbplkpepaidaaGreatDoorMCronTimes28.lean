/- The month of a day. -/
import Derived.Test.YtgbbplkpepaidaaGreatDoorMCronTimes27
import Derived.Test.YtgbbplkpepaidaaGreatDoorMCronTimes9
namespace Go.Proofs.YtgbbplkpepaidaaGreatDoor
open Go.RowKit Go.Shelf

theorem IsCal.later {v0 v1 v2 v3 : Value} {c : Int} {S : Nat → Prop} {w W : World} (h : IsCal v0 v1 v2 v3 c S w) (hb : Since S w W) : IsCal v0 v1 v2 v3 c S W := IsCalG.later h hb
theorem IsCal.base {v0 v1 v2 v3 : Value} {c : Int} {S S' : Nat → Prop} {w : World} (h : IsCal v0 v1 v2 v3 c S w) (hS : ∀ k, S k → k < w.heap.size → S' k) : IsCal v0 v1 v2 v3 c S' w := IsCalG.base h hS

set_option maxHeartbeats 1000000 in
theorem withYear_ok (c y : Int) (w : World) (h1 : 1 ≤ c) (h2 : c ≤ 10) (y1 : -20000 ≤ y) (y2 : y ≤ 20000) :
    Calls Tryz.prog 52 #[.int .i64 c, .int .i64 y] w fun e w' => ∃ g0 l0 g1 l1 g2 l2 g3 l3, e = .returned (.tuple #[.agg #[fv g0 l0, fv g1 l1, fv g2 l2, fv g3 l3], .nilIface]) ∧ IsCal (fv g0 l0) (fv g1 l1) (fv g2 l2) (fv g3 l3) c (From w.heap.size) w' ∧ Below w.heap.size w w' := by
  go_enter Tryz.func52, Tryz.ntmps52
  go_wp2_with fail
  refine (calOf_yes c _ h1 h2).mono ?_
  rintro e W ⟨g0, l0, g1, l1, g2, l2, g3, l3, rfl, hc, hb⟩
  obtain ⟨⟨c0, z0⟩, ⟨c1, z1⟩, ⟨c2, z2⟩, ⟨c3, z3⟩⟩ := slot4 w W hb
  have hz : w.heap.size < W.heap.size := by have := hb.size; simp at this; omega
  rw [show (w.alloc (.cells #[.nilFunc, .nilFunc, .nilFunc, .nilFunc] 94)).heap.size = w.heap.size + 1 from by simp] at hc
  go_wp2_with (go_at_call 83; refine (checkYear_ok y _ y1 y2).mono ?_; rintro e w' ⟨rfl, rfl⟩)
  refine bodyPost_ret (v := .tuple #[.agg #[fv g0 l0, fv g1 l1, fv g2 l2, fv g3 l3], .nilIface]) (by simp [results, Tryz.results52, go_sem, c0, c1, c2, c3, hz]) rfl ⟨_, _, _, _, _, _, _, _, rfl, ?_, ?_⟩
  · have hst := (storedAt c w W g0 l0 g1 l1 g2 l2 g3 l3 hb hc).1
    exact hst.later (Since.of_below ((Below.refl _ _).alloc (Nat.le_refl _) _))
  · have hst := (storedAt c w W g0 l0 g1 l1 g2 l2 g3 l3 hb hc).2
    exact hst.alloc (by simp [World.setCell]; omega) _
set_option maxHeartbeats 1000000 in
theorem withYear_no (c y : Int) (w : World) (h : c < 1 ∨ 10 < c ∨ y < -20000 ∨ 20000 < y) :
    Calls Tryz.prog 52 #[.int .i64 c, .int .i64 y] w fun e w' => e = .returned (.tuple #[.agg #[.nilFunc, .nilFunc, .nilFunc, .nilFunc], .iface 27 (.int .i64 (yerr c y))]) ∧ Below w.heap.size w w' := by
  by_cases hc : c < 1 ∨ 10 < c
  · have e : yerr c y = 2 := by unfold yerr; rw [if_pos hc]
    rw [e]; clear e
    go_enter Tryz.func52, Tryz.ntmps52
    go_wp2_with fail
    refine (calOf_no c _ hc).mono ?_
    rintro e W ⟨rfl, hb⟩
    obtain ⟨⟨c0, z0⟩, ⟨c1, z1⟩, ⟨c2, z2⟩, ⟨c3, z3⟩⟩ := slot4 w W hb
    have hz : w.heap.size < W.heap.size := by have := hb.size; simp at this; omega
    go_wp2
    have hb0 : Below w.heap.size w W := ((Below.refl _ w).alloc (Nat.le_refl _) _).trans (hb.mono (by simp))
    exact bodyPost_ret (v := .tuple #[.agg #[.nilFunc, .nilFunc, .nilFunc, .nilFunc], .iface 27 (.int .i64 2)]) (by simp [results, Tryz.results52, go_sem, c0, c1, c2, c3, hz]) rfl ⟨rfl,
      ((((hb0.setCell (Nat.le_refl _) _).setCell (Nat.le_refl _) _).setCell (Nat.le_refl _) _).setCell (Nat.le_refl _) _).alloc (by simp [World.setCell]; omega) _⟩
  · have hy : y < -20000 ∨ 20000 < y := by omega
    have e : yerr c y = 4 := by unfold yerr; rw [if_neg hc, if_pos hy]
    rw [e]; clear e
    go_enter Tryz.func52, Tryz.ntmps52
    go_wp2_with fail
    refine (calOf_yes c _ (by omega) (by omega)).mono ?_
    rintro e W ⟨g0, l0, g1, l1, g2, l2, g3, l3, rfl, hcal, hb⟩
    obtain ⟨⟨c0, z0⟩, ⟨c1, z1⟩, ⟨c2, z2⟩, ⟨c3, z3⟩⟩ := slot4 w W hb
    have hz : w.heap.size < W.heap.size := by have := hb.size; simp at this; omega
    have hb0 : Below w.heap.size w W := ((Below.refl _ w).alloc (Nat.le_refl _) _).trans (hb.mono (by simp))
    clear hcal
    go_wp2_with (go_at_call 83; refine (checkYear_no y _ hy).mono ?_; rintro e w' ⟨rfl, rfl⟩)
    exact bodyPost_ret (v := .tuple #[.agg #[.nilFunc, .nilFunc, .nilFunc, .nilFunc], .iface 27 (.int .i64 4)]) (by simp [results, Tryz.results52, go_sem, c0, c1, c2, c3, hz]) rfl ⟨rfl,
      ((((hb0.setCell (Nat.le_refl _) _).setCell (Nat.le_refl _) _).setCell (Nat.le_refl _) _).setCell (Nat.le_refl _) _).alloc (by simp [World.setCell]; omega) _⟩

/-- a calendar handed to a method: its four functions in the box -/
theorem box_cal (w : World) (g0 : Nat) (l0 : Array Value) (g1 : Nat) (l1 : Array Value) (g2 : Nat) (l2 : Array Value) (g3 : Nat) (l3 : Array Value) (c : Int) (S : Nat → Prop) (hc : IsCal (fv g0 l0) (fv g1 l1) (fv g2 l2) (fv g3 l3) c S w) :
    IsCal (fv g0 l0) (fv g1 l1) (fv g2 l2) (fv g3 l3) c S (w.alloc (.cells #[fv g0 l0, fv g1 l1, fv g2 l2, fv g3 l3] 94)) := hc.later ((Since.refl _ w).alloc _)

theorem lengthOf_ok (g0 : Nat) (l0 : Array Value) (g1 : Nat) (l1 : Array Value) (g2 : Nat) (l2 : Array Value) (g3 : Nat) (l3 : Array Value) (c y m : Int) (S : Nat → Prop) (w : World) (hc : IsCal (fv g0 l0) (fv g1 l1) (fv g2 l2) (fv g3 l3) c S w) (y1 : -40000 ≤ y) (y2 : y ≤ 40000) (m1 : 1 ≤ m) (m2 : m ≤ Alm.months c y) :
    Calls Tryz.prog 53 #[.agg #[fv g0 l0, fv g1 l1, fv g2 l2, fv g3 l3], .int .i64 y, .int .i64 m] w fun e w' => e = .returned (.tuple #[.int .i64 (Alm.mlen c y m), .nilIface]) ∧ Below w.heap.size w w' := by
  have hB := box_cal w g0 l0 g1 l1 g2 l2 g3 l3 c S hc
  clear hc
  have en1 := hB.months.enters
  have en2 := hB.len.enters
  have k1 := hB.months.calls _ y (Since.refl _ _) y1 y2
  have k2 := hide (fun q => hB.len.calls _ y m ((Since.refl _ _).drewN q) ⟨y1, y2, m1, m2⟩)
  clear hB
  generalize (Alm.months c y : Int) = mo at *
  go_enter Tryz.func53, Tryz.ntmps53
  go_wp2_with fail
  refine k1.mono ?_
  rintro e w' ⟨rfl, q, rfl⟩
  go_wp2_with fail
  refine (k2.out q).mono ?_
  rintro e w' ⟨rfl, q2, rfl⟩
  go_wp2
  go_ret2
  exact ⟨rfl, below_drewN ((Below.refl _ w).alloc (Nat.le_refl _) _) _⟩
theorem lengthOf_no (g0 : Nat) (l0 : Array Value) (g1 : Nat) (l1 : Array Value) (g2 : Nat) (l2 : Array Value) (g3 : Nat) (l3 : Array Value) (c y m : Int) (S : Nat → Prop) (w : World) (hc : IsCal (fv g0 l0) (fv g1 l1) (fv g2 l2) (fv g3 l3) c S w) (y1 : -40000 ≤ y) (y2 : y ≤ 40000) (hm : m < 1 ∨ Alm.months c y < m) :
    Calls Tryz.prog 53 #[.agg #[fv g0 l0, fv g1 l1, fv g2 l2, fv g3 l3], .int .i64 y, .int .i64 m] w fun e w' => e = .returned (.tuple #[.int .i64 0, .iface 27 (.int .i64 3)]) ∧ Below w.heap.size w w' := by
  have hB := box_cal w g0 l0 g1 l1 g2 l2 g3 l3 c S hc
  clear hc
  have en1 := hB.months.enters
  have k1 := hB.months.calls _ y (Since.refl _ _) y1 y2
  clear hB
  generalize (Alm.months c y : Int) = mo at *
  by_cases m1 : m < 1
  · clear k1 hm
    go_enter Tryz.func53, Tryz.ntmps53
    go_wp2
    go_ret2
    exact ⟨rfl, (Below.refl _ w).alloc (Nat.le_refl _) _⟩
  · have m2 : mo < m := by omega
    clear hm
    go_enter Tryz.func53, Tryz.ntmps53
    go_wp2_with fail
    refine k1.mono ?_
    rintro e w' ⟨rfl, q, rfl⟩
    go_wp2
    go_ret2
    exact ⟨rfl, below_drewN ((Below.refl _ w).alloc (Nat.le_refl _) _) _⟩
end Go.Proofs.YtgbbplkpepaidaaGreatDoor
namespace Go.Proofs.YtgbbplkpepaidaaGreatDoor
open Go.RowKit Go.Shelf

theorem yearOf1_any (g0 : Nat) (l0 : Array Value) (g1 : Nat) (l1 : Array Value) (g2 : Nat) (l2 : Array Value) (g3 : Nat) (l3 : Array Value) (c day i : Int) (S : Nat → Prop) (p1 p2 : Nat) (w : World) (h3 : w.cell? ⟨p1, 3, none⟩ = some (fv g3 l3)) (hd : w.cell? ⟨p2, 0, none⟩ = some (.int .i64 day)) (hc : IsCal (fv g0 l0) (fv g1 l1) (fv g2 l2) (fv g3 l3) c S w) (i1 : 0 ≤ i) (i2 : i ≤ 40001) :
    Calls Tryz.prog 82 #[.int .i64 i, ptr p1, ptr p2] w fun e w' => e = .returned (.bool (decide (day < Alm.start c (i - 20000)))) ∧ ∃ q, w' = w.drewN q := by
  have en := hc.start.enters
  have k1 := hide (fun q => hc.start.calls _ (i - 20000) ((Since.refl _ w).drewN q) (by omega) (by omega))
  clear hc
  generalize Alm.start c (i - 20000) = st at *
  go_enter Tryz.func82, Tryz.ntmps82
  go_wp2_with fail
  go_quiet ((go_at_fn g3; exact Calls.quiet_of (k1.out _)))
  go_wp2
  go_ret
  exact ⟨rfl, _, rfl⟩

/-- the year of a day -/
def yr (c day y : Int) : Prop := Alm.start c y ≤ day ∧ day < Alm.start c (y + 1)
theorem yr_ex (c day : Int) (h1 : 1 ≤ c) (h2 : c ≤ 10) (d1 : -4000300 ≤ day) (d2 : day ≤ 4000300) : ∃ y, yr c day y ∧ -20000 ≤ y ∧ y < 20000 := by
  have lo := Alm.start_lo c h1 h2
  have hi := Alm.start_hi c h1 h2
  have key : ∀ n : Nat, day < Alm.start c (-20000 + n) → ∃ y, yr c day y ∧ -20000 ≤ y ∧ y < -20000 + n := by
    intro n
    induction n with
    | zero => intro h; simp at h; omega
    | succ n ih =>
      intro h
      by_cases hn : day < Alm.start c (-20000 + n)
      · obtain ⟨y, a, b, c'⟩ := ih hn
        exact ⟨y, a, b, by omega⟩
      · refine ⟨-20000 + n, ⟨by omega, ?_⟩, by omega, by omega⟩
        have e : (-20000 : Int) + n + 1 = -20000 + ((n + 1 : Nat) : Int) := by omega
        rw [e]; exact h
  have := key 40000 (by simpa using (by omega : day < Alm.start c 20000))
  simpa using this
theorem yr_start (c day y z : Int) (h1 : 1 ≤ c) (h2 : c ≤ 10) (h : yr c day y) : (z ≤ y → Alm.start c z ≤ day) ∧ (y < z → day < Alm.start c z) := by
  obtain ⟨a, b⟩ := h
  constructor
  · intro hz
    by_cases e : z = y
    · subst e; exact a
    · have := Alm.start_lt c z y h1 h2 (by omega); omega
  · intro hz
    by_cases e : z = y + 1
    · subst e; exact b
    · have := Alm.start_lt c (y + 1) z h1 h2 (by omega); omega

set_option maxHeartbeats 1000000 in
theorem yearOf_any (g0 : Nat) (l0 : Array Value) (g1 : Nat) (l1 : Array Value) (g2 : Nat) (l2 : Array Value) (g3 : Nat) (l3 : Array Value) (c day y : Int) (S : Nat → Prop) (w : World) (hc : IsCal (fv g0 l0) (fv g1 l1) (fv g2 l2) (fv g3 l3) c S w) (hS : ∀ k, w.heap.size ≤ k → S k) (h1 : 1 ≤ c) (h2 : c ≤ 10) (hy : yr c day y) (y1 : -20000 ≤ y) (y2 : y < 20001) :
    Calls Tryz.prog 50 #[.agg #[fv g0 l0, fv g1 l1, fv g2 l2, fv g3 l3], .int .i64 day] w fun e w' => e = .returned (.int .i64 y) ∧ Below w.heap.size w w' := by
  have hB : ∀ W, Since S ((w.alloc (.cells #[fv g0 l0, fv g1 l1, fv g2 l2, fv g3 l3] 94)).alloc (.cells #[.int .i64 day] 3)) W → IsCal (fv g0 l0) (fv g1 l1) (fv g2 l2) (fv g3 l3) c S W :=
    fun W hs => hc.later ((((Since.refl _ w).alloc _).alloc _).trans hs)
  clear hc
  have hf : FnIs (fv 82 #[ptr w.heap.size, ptr (w.heap.size + 1)]) (fun i => .bool (decide (day < Alm.start c (i - 20000)))) 0 40001 S ((w.alloc (.cells #[fv g0 l0, fv g1 l1, fv g2 l2, fv g3 l3] 94)).alloc (.cells #[.int .i64 day] 3)) := by
    refine ⟨_, _, rfl, enters_of Tryz.func82 (by kernel_rfl) rfl, fun W i hs i1 i2 => ?_⟩
    exact yearOf1_any g0 l0 g1 l1 g2 l2 g3 l3 c day i S _ _ W ((hs.cell (p := ⟨w.heap.size, 3, none⟩) (hS _ (by simp)) (by simp; omega)).trans (by simp [go_sem])) ((hs.cell (p := ⟨w.heap.size + 1, 0, none⟩) (hS _ (by simp)) (by simp)).trans (by simp [go_sem])) (hB W hs) i1 i2
  have hsr := search_any _ _ (fun i => decide (day < Alm.start c (i - 20000))) 40001 (y + 20001) S _ hf (by omega) (by omega) (by omega) (by omega)
    (fun i i1 i2 => decide_eq_false (by have := (yr_start c day y (i - 20000) h1 h2 hy).1 (by omega); omega)) (fun i i1 i2 => decide_eq_true ((yr_start c day y (i - 20000) h1 h2 hy).2 (by omega)))
  clear hf hB
  go_enter Tryz.func50, Tryz.ntmps50
  go_wp2_with fail
  refine hsr.mono ?_
  rintro e w' ⟨rfl, q, rfl⟩
  go_wp2
  go_ret
  exact ⟨ret_int (by omega), below_drewN (((Below.refl _ w).alloc (Nat.le_refl _) _).alloc (by simp) _) _⟩
end Go.Proofs.YtgbbplkpepaidaaGreatDoor
namespace Go.Proofs.YtgbbplkpepaidaaGreatDoor
open Go.RowKit Go.Shelf

set_option maxHeartbeats 1000000 in
theorem monthOf_any (g0 : Nat) (l0 : Array Value) (g1 : Nat) (l1 : Array Value) (g2 : Nat) (l2 : Array Value) (g3 : Nat) (l3 : Array Value) (c y a : Int) (S : Nat → Prop) (w : World) (hc : IsCal (fv g0 l0) (fv g1 l1) (fv g2 l2) (fv g3 l3) c S w) (y1 : -40000 ≤ y) (y2 : y ≤ 40000) (a1 : 0 ≤ a) (a2 : a < Alm.ylen c y) :
    Calls Tryz.prog 51 #[.agg #[fv g0 l0, fv g1 l1, fv g2 l2, fv g3 l3], .int .i64 y, .int .i64 a] w fun e w' => ∃ m d : Int, e = .returned (.tuple #[.int .i64 m, .int .i64 d]) ∧ Alm.IsDate c (Alm.start c y + a) y m d ∧ Below w.heap.size w w' := by
  have hB := box_cal w g0 l0 g1 l1 g2 l2 g3 l3 c S hc
  clear hc
  have en1 := hB.months.enters
  have en2 := hB.len.enters
  have k1 := hB.months.calls _ y (Since.refl _ _) y1 y2
  have k2 := hide (fun q z h => hB.len.calls _ y z ((Since.refl _ _).drewN q) h)
  clear hB
  have Hcs := hide (Alm.cum_succ c y)
  have Hml := hide (Alm.mlen_bd c y)
  have Hcb := hide (Alm.cum_bd c y)
  have Hca := hide (Alm.cum_all c y)
  have hmo := Alm.months_bd c y
  have Hda := hide (fun (m d : Int) (m1 : 1 ≤ m) (m2 : m ≤ Alm.months c y) (d1 : 1 ≤ d) (d2 : d ≤ Alm.mlen c y m) (e : Alm.start c y + a = Alm.start c y + Alm.cum c y (m - 1).toNat + d - 1) => Alm.IsDate.mk (c := c) m1 m2 d1 d2 e)
  have yb := Alm.ylen_bd c y
  generalize Alm.ylen c y = yl at *
  generalize hmoe : Alm.months c y = mo at *
  clear hmoe
  go_enter Tryz.func51, Tryz.ntmps51
  go_wp2_with fail
  refine k1.mono ?_
  rintro e w' ⟨rfl, q, rfl⟩
  go_wp2_with fail
  go_loopw [2, 6, 14] (fun s m i wr => ∃ k : Nat, k < mo ∧ i = .int .i64 k ∧ m = .int .i64 k ∧ 0 ≤ a - Alm.cum c y k ∧ s = .int .i64 (a - Alm.cum c y k) ∧ ∃ q, wr = (w.alloc (.cells #[fv g0 l0, fv g1 l1, fv g2 l2, fv g3 l3] 94)).drewN q) (fun _ _ i _ => (20 - intOf i).toNat)
  case atStart => exact ⟨0, by omega, rfl, rfl, by simp [Alm.cum]; omega, by simp [Alm.cum], q, rfl⟩
  case round =>
    obtain ⟨k, hk, rfl, rfl, hr, rfl, q', rfl⟩ := hrel
    have ml := Hml.out (k + 1) (by omega) (by omega)
    have k3 := k2.out q' (k + 1) ⟨y1, y2, by omega, by omega⟩
    have HC := hide (Hcs.out k hk)
    have cb := Hcb.out k (by omega)
    generalize hmle : Alm.mlen c y (k + 1) = ml1 at *
    have Hmle := hide hmle
    clear hmle
    generalize hcue : Alm.cum c y k = cu at *
    have Hcue := hide hcue
    clear hcue
    by_cases hlt : a - cu < ml1
    · go_wp2_with fail
      refine k3.mono ?_
      rintro e w' ⟨rfl, q3, rfl⟩
      go_wp2
      go_ret2
      refine ⟨(k : Int) + 1, a - cu + 1, rfl, Hda.out _ _ (by omega) (by omega) (by omega) (by rw [Hmle.out]; omega) ?_, below_drewN ((Below.refl _ w).alloc (Nat.le_refl _) _) _⟩
      rw [show ((k : Int) + 1 - 1).toNat = k from by omega, Hcue.out]; omega
    · have hk2 : k + 1 < mo := by
        rcases Nat.lt_or_ge (k + 1) mo with h | h
        · exact h
        · exfalso
          have e : k + 1 = mo := by omega
          have h1 := HC.out
          rw [e, Hca.out] at h1
          omega
      go_wp2_with fail
      refine k3.mono ?_
      rintro e w' ⟨rfl, q3, rfl⟩
      go_wp2
      go_roundw
      case rel => exact ⟨k + 1, hk2, by simp, by simp, by rw [HC.out]; omega, by rw [HC.out]; simp; omega, q' + q3, by simp⟩
      case measure => simp [intOf]; omega
end Go.Proofs.YtgbbplkpepaidaaGreatDoor
