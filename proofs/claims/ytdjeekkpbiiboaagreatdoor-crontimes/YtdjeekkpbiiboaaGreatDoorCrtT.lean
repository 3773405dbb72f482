/- package cron: the months of the days; what the four answer. -/
import Derived.Test.YtdjeekkpbiiboaaGreatDoorCrtS
import Derived.Test.YtdjeekkpbiiboaaGreatDoorCrtJ
import Derived.Test.YtdjeekkpbiiboaaGreatDoorCrtL
import Derived.Test.YtdjeekkpbiiboaaGreatDoorCrtH
import Derived.Test.YtdjeekkpbiiboaaGreatDoorCrtI
import Derived.Test.YtdjeekkpbiiboaaGreatDoorDaysC
import Derived.Test.YtdjeekkpbiiboaaGreatDoorRefH
import Derived.Test.YtdjeekkpbiiboaaGreatDoorRefK
import Derived.Test.YtdjeekkpbiiboaaGreatDoorClockA
namespace Go.Proofs.YtdjeekkpbiiboaaGreatDoor
open Go.RowKit Go.Shelf
set_option linter.unusedVariables false
set_option linter.unusedSimpArgs false

theorem dof_ok (day y m d : Int) (w : World) (d1 : -4000000 ≤ day) (d2 : day ≤ 4000000) (hd : Alm.IsDate 1 day y m d) :
    Calls Tryz.prog 34 #[.int .i64 1, .int .i64 day] w fun e w' => e = .returned (.tuple #[.agg #[.int .i64 1, .int .i64 y, .int .i64 m, .int .i64 d], .nilIface]) ∧ Below w.heap.size w w' := by
  refine (of_ok 1 day w (by omega) (by omega) d1 d2).mono ?_
  rintro e w' ⟨y', m', d', rfl, hd', _, _, hb⟩
  obtain ⟨rfl, rfl, rfl⟩ := hd.unique (by omega) (by omega) hd'
  exact ⟨rfl, hb⟩
theorem ddate_ex (day : Int) (w : World) (d1 : -4000000 ≤ day) (d2 : day ≤ 4000000) : ∃ p : Int × Int × Int, Alm.IsDate 1 day p.1 p.2.1 p.2.2 ∧ -20000 ≤ p.1 ∧ p.1 ≤ 20000 := by
  obtain ⟨e, w', fr, ⟨y, m, d, _, hd, y1, y2, _⟩, _⟩ := of_ok 1 day w (by omega) (by omega) d1 d2 []
  exact ⟨(y, m, d), hd, y1, y2⟩
open Classical in
/-- a day's date -/
noncomputable def dtC (d : Int) : Int × Int × Int := if h : ∃ p : Int × Int × Int, Alm.IsDate 1 d p.1 p.2.1 p.2.2 ∧ -20000 ≤ p.1 ∧ p.1 ≤ 20000 then Classical.choose h else (0, 0, 0)
theorem dtC_is (d : Int) (w : World) (d1 : -4000000 ≤ d) (d2 : d ≤ 4000000) : Alm.IsDate 1 d (dtC d).1 (dtC d).2.1 (dtC d).2.2 ∧ -20000 ≤ (dtC d).1 ∧ (dtC d).1 ≤ 20000 := by
  have h := ddate_ex d w d1 d2
  unfold dtC
  rw [dif_pos h]
  exact Classical.choose_spec h
noncomputable def mC (d : Int) : Int := (dtC d).2.1
noncomputable def dC (d : Int) : Int := (dtC d).2.2
noncomputable def lC (d : Int) : Int := Alm.mlen 1 (dtC d).1 (dtC d).2.1
theorem mon_c (w : World) : Mon mC dC lC := by
  refine ⟨fun d d1 d2 => ?_, fun d n d1 d2 n1 n2 e1 e2 => ?_⟩
  · have h := (dtC_is d w d1 d2).1
    exact ⟨h.d1, h.d2, (Alm.mlen_bd _ _ _ h.m1 h.m2).2⟩
  · obtain ⟨h, y1, y2⟩ := dtC_is d w d1 d2
    obtain ⟨k, _, _⟩ := dtC_is (d - dC d + n) w e1 e2
    have hn : Alm.IsDate 1 (d - dC d + n) (dtC d).1 (dtC d).2.1 n := ⟨h.m1, h.m2, n1, n2, by have := h.eq; unfold dC; omega⟩
    obtain ⟨g1, g2, g3⟩ := hn.unique (by omega) (by omega) k
    unfold mC lC
    rw [← g1, ← g2]
    exact ⟨rfl, g3.symm, rfl⟩
theorem monthOf_day (d : Int) (W : World) (d1 : -4000000 ≤ d) (d2 : d ≤ 4000000) : Calls Tryz.prog 17 #[.int .i64 d] W fun e w' => e = .returned (monV (mC d) (d - dC d) (lC d)) ∧ Below W.heap.size W w' := by
  obtain ⟨h, y1, y2⟩ := dtC_is d W d1 d2
  have hb := Alm.mlen_bd _ _ _ h.m1 h.m2
  exact monthOfM_any d (dtC d).1 (mC d) (dC d) (lC d) W d1 d2 h.d1 (by have := h.d2; unfold dC; omega) (fun X => dof_ok d _ _ _ X d1 d2 h) (fun X => length_ok 1 _ _ X (by omega) (by omega) y1 y2 h.m1 h.m2)
theorem cronDay_c (A : CAd) (x : Crn.C) (d : Int) (w : World) (hk : KT w) (hl : CL A x w) (hok : Crn.ok x = true) (d1 : -4000000 ≤ d) (d2 : d ≤ 4000000) :
    Calls Tryz.prog 13 #[crV A x, .int .i64 d] w fun e w' => e = .returned (.bool (fDay x mC dC lC d)) ∧ Below w.heap.size w w' := by
  obtain ⟨h, y1, y2⟩ := dtC_is d w d1 d2
  have hb := Alm.mlen_bd _ _ _ h.m1 h.m2
  have hm1 := h.m1
  have hm2 := h.m2
  have h12 : Alm.months 1 (dtC d).1 = 12 := by simp [Alm.months, Alm.lens]
  have em : mC d = (((dtC d).2.1 - 1).toNat : Int) + 1 := by unfold mC; omega
  have hnb : ∀ k, k < x.nth.length → -1000 ≤ (x.nth.getD k (0, 0)).1 ∧ (x.nth.getD k (0, 0)).1 ≤ 1000 := fun k hk => by
    have hr : Crn.risesN x.nth = true := by
      rw [ok_parts] at hok
      unfold listsB at hok
      simp only [Bool.and_eq_true] at hok
      exact hok.1.2
    have := Crn.okN_bd (Crn.allB_yes hr k hk)
    omega
  unfold fDay
  rw [em]
  refine cronDay_any A x d (dtC d).1 (dC d) (lC d) ((dtC d).2.1 - 1).toNat w hk hl (ok_u hok) hnb (by omega) d1 d2 h.d1 (by have := h.d2; unfold dC; omega) (fun W => ?_) (fun W => ?_)
  · rw [← em]
    exact rgreg_any d _ _ _ W d1 d2 y1 y2 h
  · refine (lens_any 1 (dtC d).1 W (by omega) (by omega) (by omega) (by omega)).mono ?_
    rintro e W' ⟨b, cap, rfl, hr, c1, c2, _, hB⟩
    have hlen : (Alm.lens 1 (dtC d).1).length = 12 := by simp [Alm.lens]
    have hlt : ((dtC d).2.1 - 1).toNat < (Alm.lens 1 (dtC d).1).length := by omega
    refine ⟨b, _, cap, rfl, hlt, by omega, ?_, hB⟩
    rw [hr _ hlt, mlen_get]
    unfold lC
    rw [show (((dtC d).2.1 - 1).toNat : Int) + 1 = (dtC d).2.1 by omega]
end Go.Proofs.YtdjeekkpbiiboaaGreatDoor
