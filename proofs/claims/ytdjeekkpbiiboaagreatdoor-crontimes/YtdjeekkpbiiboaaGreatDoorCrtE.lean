/- package cron: fits. -/
import Derived.Test.YtdjeekkpbiiboaaGreatDoorCrtD
namespace Go.Proofs.YtdjeekkpbiiboaaGreatDoor
open Go.RowKit
set_option linter.unusedVariables false
set_option linter.unusedSimpArgs false

set_option maxRecDepth 100000 in
set_option maxHeartbeats 8000000 in
theorem fits_any (A : CAd) (x : Crn.C) (q a L n : Int) (w : World) (hl : CL A x w) (ho : OkT x) (a1 : -5000000 ≤ a) (a2 : a ≤ 5000000) (n1 : 1 ≤ n) (n2 : n ≤ 1000) :
    Calls Tryz.prog 19 #[monV q a L, crV A x, .int .i64 n] w fun e w' => e = .returned (.bool (fitD x a L n)) ∧ Below w.heap.size w w' := by
  have K1 := hide (fun W (hb : Below w.heap.size w W) => fitsByMonth_any A x q a L n W (hl.later hb) ho a1 a2)
  have K2 := hide (fun W (hb : Below w.heap.size w W) => fitsByWeek_any A x q a L n W (hl.later hb) ho a1 a2 n1 n2)
  have HF : Hid (fitD x a L n = if x.any then (x.anyW || fitW x a L n) else if x.anyW then fitM x a L n else (fitM x a L n || fitW x a L n)) := rfl
  generalize fitD x a L n = R at *
  generalize fitW x a L n = b2 at *
  generalize fitM x a L n = b1 at *
  have HX := hide (FW.new w A x q a L)
  clear hl ho
  go_enter Tryz.func19, Tryz.ntmps19
  go_upto_region 1 with fail
  have hw := HX.out
  obtain ⟨W0, hW0⟩ : ∃ W0, ((w.alloc (.cells #[.int .i64 q, .int .i64 a, .int .i64 L] 49)).alloc (crO A x)) = W0 := ⟨_, rfl⟩
  rw [hW0] at hw ⊢
  clear hW0 HX
  obtain ⟨m0, m1, m2⟩ := hw.m.cells
  obtain ⟨x0, x1, x2, x3, x4, x5, x6, x7, x8, x9, x10⟩ := hw.c.cells
  cases hany : x.any
  · cases hw2 : x.anyW
    · unfold crV at K1 K2
      rw [hany, hw2] at K1 K2
      rw [hany] at x3
      rw [hw2] at x7
      have hR : R = (b1 || b2) := by rw [HF.out, hany, hw2]; rfl
      have HR := hide hR
      have HA := hide hany
      have HW2 := hide hw2
      clear hany hw2 HF hR
      go_wp2_with fail
      refine (K1.out _ hw.be).mono ?_
      rintro e W1 ⟨rfl, b⟩
      replace hw := hw.later b
      clear b m0 m1 m2 x0 x1 x2 x3 x4 x5 x6 x7 x8 x9 x10
      obtain ⟨m0, m1, m2⟩ := hw.m.cells
      obtain ⟨x0, x1, x2, x3, x4, x5, x6, x7, x8, x9, x10⟩ := hw.c.cells
      rw [HA.out] at x3
      rw [HW2.out] at x7
      cases b1
      · obtain rfl : R = b2 := by rw [HR.out]; rfl
        clear HR
        go_wp2_with fail
        refine (K2.out _ hw.be).mono ?_
        rintro e W2 ⟨rfl, b⟩
        have hB := hw.be.trans (b.mono hw.be.size)
        go_wp2
        go_ret
        exact ⟨rfl, hB⟩
      · obtain rfl : R = true := by rw [HR.out]; rfl
        clear HR
        go_wp2
        go_ret
        exact ⟨rfl, hw.be⟩
    · unfold crV at K1 K2
      rw [hany, hw2] at K1 K2
      rw [hany] at x3
      rw [hw2] at x7
      obtain rfl : R = b1 := by rw [HF.out, hany, hw2]; rfl
      clear hany hw2 HF
      go_wp2_with fail
      refine (K1.out _ hw.be).mono ?_
      rintro e W1 ⟨rfl, b⟩
      have hB := hw.be.trans (b.mono hw.be.size)
      go_wp2
      go_ret
      exact ⟨rfl, hB⟩
  · cases hw2 : x.anyW
    · unfold crV at K1 K2
      rw [hany, hw2] at K1 K2
      rw [hany] at x3
      rw [hw2] at x7
      obtain rfl : R = b2 := by rw [HF.out, hany, hw2]; rfl
      clear hany hw2 HF
      go_wp2_with fail
      refine (K2.out _ hw.be).mono ?_
      rintro e W1 ⟨rfl, b⟩
      have hB := hw.be.trans (b.mono hw.be.size)
      go_wp2
      go_ret
      exact ⟨rfl, hB⟩
    · unfold crV at K1 K2
      rw [hany, hw2] at K1 K2
      rw [hany] at x3
      rw [hw2] at x7
      obtain rfl : R = true := by rw [HF.out, hany, hw2]; rfl
      clear hany hw2 HF
      go_wp2
      go_ret
      exact ⟨rfl, hw.be⟩
end Go.Proofs.YtdjeekkpbiiboaaGreatDoor
