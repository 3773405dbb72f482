/- The law CronTimes. -/
import Derived.Test.YtgbbplkpepaidaaGreatDoorMCronTimes44
import Derived.Test.YtgbbplkpepaidaaGreatDoorMCronTimes40
import Derived.Test.YtgbbplkpepaidaaGreatDoorMCronTimes41
import Derived.Test.YtgbbplkpepaidaaGreatDoorMCronTimes39
import Derived.Test.YtgbbplkpepaidaaGreatDoorMCronTimes29
import Derived.Test.YtgbbplkpepaidaaGreatDoorMCronTimes34
import Derived.Test.YtgbbplkpepaidaaGreatDoorMCronTimes12
import Derived.Test.YtgbbplkpepaidaaGreatDoorMCronTimes24
namespace Go.Proofs.YtgbbplkpepaidaaGreatDoor
open Go.RowKit Go.Shelf
set_option linter.unusedVariables false
set_option linter.unusedSimpArgs false

theorem dof_ok (day y m d : Int) (w : World) (d1 : -4000000 ≤ day) (d2 : day ≤ 4000000) (hd : Alm.IsDate 1 day y m d) :
    Calls Tryz.prog 34 #[.int .i64 1, .int .i64 day] w fun e w' => e = .returned (.tuple #[.agg #[.int .i64 1, .int .i64 y, .int .i64 m, .int .i64 d], .nilIface]) ∧ Below w.heap.size w w' := by
  refine (of_ok 1 day w (by omega) (by omega) d1 d2).mono ?_
  rintro e w' ⟨y', m', d', rfl, hd', _, _, hb⟩
  obtain ⟨rfl, rfl, rfl⟩ := hd.unique (by omega) (by omega) hd'
  exact ⟨rfl, hb⟩
theorem ddate_ex (day : Int) (w : World) (d1 : -4000000 ≤ day) (d2 : day ≤ 4000000) : ∃ p : Int × Int × Int, Alm.IsDate 1 day p.1 p.2.1 p.2.2 ∧ -20000 ≤ p.1 ∧ p.1 ≤ 20000 := by
  obtain ⟨e, w', fr, ⟨y, m, d, _, hd, y1, y2, _⟩, _⟩ := of_ok 1 day w (by omega) (by omega) d1 d2 []
  exact ⟨(y, m, d), hd, y1, y2⟩
open Classical in
/-- a day's date -/
noncomputable def dtC (d : Int) : Int × Int × Int := if h : ∃ p : Int × Int × Int, Alm.IsDate 1 d p.1 p.2.1 p.2.2 ∧ -20000 ≤ p.1 ∧ p.1 ≤ 20000 then Classical.choose h else (0, 0, 0)
theorem dtC_is (d : Int) (w : World) (d1 : -4000000 ≤ d) (d2 : d ≤ 4000000) : Alm.IsDate 1 d (dtC d).1 (dtC d).2.1 (dtC d).2.2 ∧ -20000 ≤ (dtC d).1 ∧ (dtC d).1 ≤ 20000 := by
  have h := ddate_ex d w d1 d2
  unfold dtC
  rw [dif_pos h]
  exact Classical.choose_spec h
noncomputable def mC (d : Int) : Int := (dtC d).2.1
noncomputable def dC (d : Int) : Int := (dtC d).2.2
noncomputable def lC (d : Int) : Int := Alm.mlen 1 (dtC d).1 (dtC d).2.1
theorem mon_c (w : World) : Mon mC dC lC := by
  refine ⟨fun d d1 d2 => ?_, fun d n d1 d2 n1 n2 e1 e2 => ?_⟩
  · have h := (dtC_is d w d1 d2).1
    exact ⟨h.d1, h.d2, (Alm.mlen_bd _ _ _ h.m1 h.m2).2⟩
  · obtain ⟨h, y1, y2⟩ := dtC_is d w d1 d2
    obtain ⟨k, _, _⟩ := dtC_is (d - dC d + n) w e1 e2
    have hn : Alm.IsDate 1 (d - dC d + n) (dtC d).1 (dtC d).2.1 n := ⟨h.m1, h.m2, n1, n2, by have := h.eq; unfold dC; omega⟩
    obtain ⟨g1, g2, g3⟩ := hn.unique (by omega) (by omega) k
    unfold mC lC
    rw [← g1, ← g2]
    exact ⟨rfl, g3.symm, rfl⟩
theorem monthOf_day (d : Int) (W : World) (d1 : -4000000 ≤ d) (d2 : d ≤ 4000000) : Calls Tryz.prog 17 #[.int .i64 d] W fun e w' => e = .returned (monV (mC d) (d - dC d) (lC d)) ∧ Below W.heap.size W w' := by
  obtain ⟨h, y1, y2⟩ := dtC_is d W d1 d2
  have hb := Alm.mlen_bd _ _ _ h.m1 h.m2
  exact monthOfM_any d (dtC d).1 (mC d) (dC d) (lC d) W d1 d2 h.d1 (by have := h.d2; unfold dC; omega) (fun X => dof_ok d _ _ _ X d1 d2 h) (fun X => length_ok 1 _ _ X (by omega) (by omega) y1 y2 h.m1 h.m2)
theorem cronDay_c (A : CAd) (x : Crn.C) (d : Int) (w : World) (hk : KT w) (hl : CL A x w) (hok : Crn.ok x = true) (d1 : -4000000 ≤ d) (d2 : d ≤ 4000000) :
    Calls Tryz.prog 13 #[crV A x, .int .i64 d] w fun e w' => e = .returned (.bool (fDay x mC dC lC d)) ∧ Below w.heap.size w w' := by
  obtain ⟨h, y1, y2⟩ := dtC_is d w d1 d2
  have hb := Alm.mlen_bd _ _ _ h.m1 h.m2
  have hm1 := h.m1
  have hm2 := h.m2
  have h12 : Alm.months 1 (dtC d).1 = 12 := by simp [Alm.months, Alm.lens]
  have em : mC d = (((dtC d).2.1 - 1).toNat : Int) + 1 := by unfold mC; omega
  have hnb : ∀ k, k < x.nth.length → -1000 ≤ (x.nth.getD k (0, 0)).1 ∧ (x.nth.getD k (0, 0)).1 ≤ 1000 := fun k hk => by
    have hr : Crn.risesN x.nth = true := by
      rw [ok_parts] at hok
      unfold listsB at hok
      simp only [Bool.and_eq_true] at hok
      exact hok.1.2
    have := Crn.okN_bd (Crn.allB_yes hr k hk)
    omega
  unfold fDay
  rw [em]
  refine cronDay_any A x d (dtC d).1 (dC d) (lC d) ((dtC d).2.1 - 1).toNat w hk hl (ok_u hok) hnb (by omega) d1 d2 h.d1 (by have := h.d2; unfold dC; omega) (fun W => ?_) (fun W => ?_)
  · rw [← em]
    exact rgreg_any d _ _ _ W d1 d2 y1 y2 h
  · refine (lens_any 1 (dtC d).1 W (by omega) (by omega) (by omega) (by omega)).mono ?_
    rintro e W' ⟨b, cap, rfl, hr, c1, c2, _, hB⟩
    have hlen : (Alm.lens 1 (dtC d).1).length = 12 := by simp [Alm.lens]
    have hlt : ((dtC d).2.1 - 1).toNat < (Alm.lens 1 (dtC d).1).length := by omega
    refine ⟨b, _, cap, rfl, hlt, by omega, ?_, hB⟩
    rw [hr _ hlt, mlen_get]
    unfold lC
    rw [show (((dtC d).2.1 - 1).toNat : Int) + 1 = (dtC d).2.1 by omega]
end Go.Proofs.YtgbbplkpepaidaaGreatDoor
namespace Go.Proofs.YtgbbplkpepaidaaGreatDoor
open Go.RowKit Go.Shelf
set_option linter.unusedVariables false
set_option linter.unusedSimpArgs false

set_option maxRecDepth 100000 in
set_option maxHeartbeats 8000000 in
theorem crontimes_steps (A : CAd) (x : Crn.C) (t r : Int) (b : Bool) (k k' : Int) (w : World) (hd : Hd w) (hk : KT w) (hl : CL A x w)
    (p1 : ∀ W, Hd W → KT W → CL A x W → Calls Tryz.prog 4 #[crV A x, .int .i64 t] W fun e w' => e = .returned (.tuple #[.bool b, .int .i64 k]) ∧ Below W.heap.size W w')
    (p2 : ∀ W, KT W → CL A x W → Calls Tryz.prog 5 #[crV A x, .int .i64 t] W fun e w' => e = .returned (.tuple #[.bool b, .int .i64 k]) ∧ Below W.heap.size W w')
    (p3 : ∀ W, Hd W → KT W → CL A x W → Calls Tryz.prog 6 #[crV A x, .int .i64 t] W fun e w' => e = .returned (.tuple #[.int .i64 r, .int .i64 k']) ∧ Below W.heap.size W w')
    (p4 : ∀ W, KT W → CL A x W → Calls Tryz.prog 7 #[crV A x, .int .i64 t] W fun e w' => e = .returned (.tuple #[.int .i64 r, .int .i64 k']) ∧ Below W.heap.size W w') :
    Calls Tryz.prog 3 #[crV A x, .int .i64 t] w fun e w' => e = .returned (.bool true) ∧ Below w.heap.size w w' := by
  have HW := hide (CW.new hk hl)
  have K1 := hide (fun W (hw : CW w A x W) => p1 W (hd.later hw.be) hw.kt hw.cl)
  have K2 := hide (fun W (hw : CW w A x W) => p2 W hw.kt hw.cl)
  have K3 := hide (fun W (hw : CW w A x W) => p3 W (hd.later hw.be) hw.kt hw.cl)
  have K4 := hide (fun W (hw : CW w A x W) => p4 W hw.kt hw.cl)
  clear hd hk hl p1 p2 p3 p4
  go_enter Tryz.func3, Tryz.ntmps3
  go_upto_region 1 with fail
  obtain ⟨W0, hW0⟩ : ∃ W0, (w.alloc (crO A x)) = W0 := ⟨_, rfl⟩
  have hw := HW.out
  rw [hW0] at hw ⊢
  clear hW0 HW
  obtain ⟨x0, x1, x2, x3, x4, x5, x6, x7, x8, x9, x10⟩ := hw.bx.cells
  go_wp2_with fail
  refine (K1.out _ hw).mono ?_
  rintro e W1 ⟨rfl, b1⟩
  replace hw := hw.later b1
  clear b1 x0 x1 x2 x3 x4 x5 x6 x7 x8 x9 x10
  obtain ⟨x0, x1, x2, x3, x4, x5, x6, x7, x8, x9, x10⟩ := hw.bx.cells
  go_wp2_with fail
  refine (K2.out _ hw).mono ?_
  rintro e W2 ⟨rfl, b2⟩
  replace hw := hw.later b2
  clear b2 x0 x1 x2 x3 x4 x5 x6 x7 x8 x9 x10
  obtain ⟨x0, x1, x2, x3, x4, x5, x6, x7, x8, x9, x10⟩ := hw.bx.cells
  go_wp2_with fail
  refine (K3.out _ hw).mono ?_
  rintro e W3 ⟨rfl, b3⟩
  replace hw := hw.later b3
  clear b3 x0 x1 x2 x3 x4 x5 x6 x7 x8 x9 x10
  obtain ⟨x0, x1, x2, x3, x4, x5, x6, x7, x8, x9, x10⟩ := hw.bx.cells
  go_wp2_with fail
  refine (K4.out _ hw).mono ?_
  rintro e W4 ⟨rfl, b4⟩
  replace hw := hw.later b4
  clear b4 x0 x1 x2 x3 x4 x5 x6 x7 x8 x9 x10
  go_wp2
  go_ret
  exact ⟨ret_bool (by simp), hw.be⟩
theorem crontimes_walk (A : CAd) (x : Crn.C) (t : Int) (w : World) (hd : Hd w) (hk : KT w) (hl : CL A x w) (b1 : -9223372036854775808 ≤ t) (b2 : t < 9223372036854775808) :
    Calls Tryz.prog 3 #[crV A x, .int .i64 t] w fun e w' => e = .returned (.bool true) ∧ Below w.heap.size w w' := by
  have rc : ∀ (w W : World), CW w A x W → Calls Tryz.prog 10 #[crV A x] W fun e w' => e = .returned (.int .i64 (argN (Crn.ok x))) ∧ Below W.heap.size W w' := fun w W hw => rcheck_any A x W hw.kt hw.cl
  cases hok : Crn.ok x
  · exact crontimes_steps A x t 0 false 1 1 w hd hk hl
      (fun W h1 h2 h3 => pfits_bad A x t false 1 W h1 h2 h3 (fun X hw => fits_no A x t X hw.kt hw.cl hok))
      (fun W h2 h3 => rfits_no A x t W h2 h3 hok (rc W))
      (fun W h1 h2 h3 => pnext_bad A x t 0 1 W h1 h2 h3 (fun X hw => next_no A x t X hw.kt hw.cl hok))
      (fun W h2 h3 => rnext_no A x t W h2 h3 hok (rc W))
  · by_cases ht : t < -345600000000 ∨ 345600086399 < t
    · exact crontimes_steps A x t 0 false 4 4 w hd hk hl
        (fun W h1 h2 h3 => pfits_bad A x t false 4 W h1 h2 h3 (fun X hw => fits_out A x t X hw.kt hw.cl hok (fun Y => split_no t Y ht)))
        (fun W h2 h3 => rfits_out A x t W h2 h3 hok (rc W) (fun Y => rsplit_no t Y b1 b2 ht))
        (fun W h1 h2 h3 => pnext_bad A x t 0 4 W h1 h2 h3 (fun X hw => next_out A x t X hw.kt hw.cl hok (fun Y => split_no t Y ht)))
        (fun W h2 h3 => rnext_out A x t W h2 h3 hok (rc W) (fun Y => rsplit_no t Y b1 b2 ht))
    · have t1 : -345600000000 ≤ t := by omega
      have t2 : t ≤ 345600086399 := by omega
      have d1 : -4000000 ≤ t / 86400 := by omega
      have d2 : t / 86400 ≤ 4000000 := by omega
      have hD := (dtC_is (t / 86400) w d1 d2).1
      have hM := (mon_c w).one (t / 86400) d1 d2
      have NO := fun (X : World) (h2 : KT X) (h3 : CL A x X) => next_ok A x mC dC lC (mon_c X) t (t % 86400) (t / 86400) X h2 h3 hok d1 d2 (by omega) (by omega) (fun Y => split_ok t Y t1 t2) (fun d Y e1 e2 => monthOf_day d Y e1 e2)
      obtain ⟨e0, w0, fr0, ⟨r, k, _, hN, _⟩, _⟩ := NO w hk hl []
      have NX' : ∀ X, KT X → CL A x X → Calls Tryz.prog 14 #[crV A x, .int .i64 t] X fun e w' => e = .returned (.tuple #[.int .i64 r, if k = 0 then .nilIface else .iface 27 (.int .i64 k)]) ∧ Below X.heap.size X w' := fun X h2 h3 => by
        refine (NO X h2 h3).mono ?_
        rintro e W ⟨r', k', rfl, hN', hb⟩
        obtain ⟨rfl, rfl⟩ := nx_one hN hN'
        exact ⟨rfl, hb⟩
      refine crontimes_steps A x t r (fitT x (t % 86400) (mC (t / 86400)) (dC (t / 86400)) (lC (t / 86400)) (t / 86400)) 0 k w hd hk hl
        (fun W h1 h2 h3 => pfits_good A x t _ W h1 h2 h3 (fun X hw => fits_ok A x t (t % 86400) (t / 86400) _ _ _ X hw.kt hw.cl hok (by omega) (by omega) d1 d2 hM.1 (by omega) (fun Y => split_ok t Y t1 t2) (fun Y => monthOf_day _ Y d1 d2)))
        (fun W h2 h3 => rfits_ok A x t (t % 86400) (t / 86400) _ _ _ W h2 h3 hok (by omega) (by omega) (rc W) (fun Y => rsplit_ok t Y t1 t2) (fun X hw => cronDay_c A x _ X hw.kt hw.cl hok d1 d2))
        (fun W h1 h2 h3 => ?_) (fun W h2 h3 => ?_)
      · by_cases hk0 : k = 0
        · subst hk0
          exact pnext_good A x t r W h1 h2 h3 (fun X hw => NX' X hw.kt hw.cl)
        · refine pnext_bad A x t r k W h1 h2 h3 (fun X hw => ?_)
          have := NX' X hw.kt hw.cl
          rw [if_neg hk0] at this
          exact this
      · refine (rnext_ok A x (fDay x mC dC lC) t (t % 86400) (t / 86400) _ W h2 h3 hok d1 d2 (by omega) (by omega) rfl (rc W) (fun Y => rsplit_ok t Y t1 t2) (fun d X e1 e2 hw => cronDay_c A x d X hw.kt hw.cl hok (by omega) (by split at e2 <;> omega))).mono ?_
        rintro e W' ⟨r', k', rfl, hN', hb⟩
        obtain ⟨rfl, rfl⟩ := nx_one hN hN'
        exact ⟨rfl, hb⟩
end Go.Proofs.YtgbbplkpepaidaaGreatDoor
