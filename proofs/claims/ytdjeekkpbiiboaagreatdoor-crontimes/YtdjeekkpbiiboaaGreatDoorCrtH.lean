/- The reference of package cron: CronFits, by what its own callees say. -/
import Derived.Test.YtdjeekkpbiiboaaGreatDoorCrtG
import Derived.Test.YtdjeekkpbiiboaaGreatDoorCrnE0
namespace Go.Proofs.YtdjeekkpbiiboaaGreatDoor
open Go.RowKit
set_option linter.unusedVariables false
set_option linter.unusedSimpArgs false

set_option maxRecDepth 100000 in
set_option maxHeartbeats 4000000 in
theorem rfits_no (A : CAd) (x : Crn.C) (t : Int) (w : World) (hk : KT w) (hl : CL A x w) (hok : Crn.ok x = false)
    (kc : ∀ W, CW w A x W → Calls Tryz.prog 10 #[crV A x] W fun e w' => e = .returned (.int .i64 (argN (Crn.ok x))) ∧ Below W.heap.size W w') :
    Calls Tryz.prog 5 #[crV A x, .int .i64 t] w fun e w' => e = .returned (.tuple #[.bool false, .int .i64 1]) ∧ Below w.heap.size w w' := by
  have HW := hide (CW.new hk hl)
  have KC := hide kc
  rw [hok, show argN false = 1 from rfl] at KC
  clear hk hl hok kc
  go_enter Tryz.func5, Tryz.ntmps5
  go_upto_region 1 with fail
  have hw := HW.out
  obtain ⟨W0, hW0⟩ : ∃ W0, (w.alloc (crO A x)) = W0 := ⟨_, rfl⟩
  rw [hW0] at hw ⊢
  clear hW0 HW
  obtain ⟨x0, x1, x2, x3, x4, x5, x6, x7, x8, x9, x10⟩ := hw.bx.cells
  go_wp2_with fail
  refine (KC.out _ hw).mono ?_
  rintro e W1 ⟨rfl, c1⟩
  replace hw := hw.later c1
  clear c1 x0 x1 x2 x3 x4 x5 x6 x7 x8 x9 x10
  go_wp2
  go_ret2
  exact ⟨rfl, hw.be⟩
set_option maxRecDepth 100000 in
set_option maxHeartbeats 4000000 in
theorem rfits_out (A : CAd) (x : Crn.C) (t : Int) (w : World) (hk : KT w) (hl : CL A x w) (hok : Crn.ok x = true)
    (kc : ∀ W, CW w A x W → Calls Tryz.prog 10 #[crV A x] W fun e w' => e = .returned (.int .i64 (argN (Crn.ok x))) ∧ Below W.heap.size W w')
    (ks : ∀ W, Calls Tryz.prog 11 #[.int .i64 t] W fun e w' => e = .returned (.tuple #[.int .i64 0, .int .i64 0, .int .i64 4]) ∧ w' = W) :
    Calls Tryz.prog 5 #[crV A x, .int .i64 t] w fun e w' => e = .returned (.tuple #[.bool false, .int .i64 4]) ∧ Below w.heap.size w w' := by
  have HW := hide (CW.new hk hl)
  have KC := hide kc
  have KS := hide ks
  rw [hok, show argN true = 0 from rfl] at KC
  clear hk hl hok kc ks
  go_enter Tryz.func5, Tryz.ntmps5
  go_upto_region 1 with fail
  have hw := HW.out
  obtain ⟨W0, hW0⟩ : ∃ W0, (w.alloc (crO A x)) = W0 := ⟨_, rfl⟩
  rw [hW0] at hw ⊢
  clear hW0 HW
  obtain ⟨x0, x1, x2, x3, x4, x5, x6, x7, x8, x9, x10⟩ := hw.bx.cells
  go_wp2_with fail
  refine (KC.out _ hw).mono ?_
  rintro e W1 ⟨rfl, c1⟩
  replace hw := hw.later c1
  clear c1 x0 x1 x2 x3 x4 x5 x6 x7 x8 x9 x10
  go_wp2_with fail
  refine (KS.out _).mono ?_
  rintro e W2 ⟨rfl, rfl⟩
  go_wp2
  go_ret2
  exact ⟨rfl, hw.be⟩
set_option maxRecDepth 100000 in
set_option maxHeartbeats 8000000 in
theorem rfits_ok (A : CAd) (x : Crn.C) (t s day M D L : Int) (w : World) (hk : KT w) (hl : CL A x w) (hok : Crn.ok x = true) (s0 : 0 ≤ s) (s1 : s < 86400)
    (kc : ∀ W, CW w A x W → Calls Tryz.prog 10 #[crV A x] W fun e w' => e = .returned (.int .i64 (argN (Crn.ok x))) ∧ Below W.heap.size W w')
    (ks : ∀ W, Calls Tryz.prog 11 #[.int .i64 t] W fun e w' => e = .returned (.tuple #[.int .i64 day, .int .i64 s, .int .i64 0]) ∧ w' = W)
    (kd : ∀ W, CW w A x W → Calls Tryz.prog 13 #[crV A x, .int .i64 day] W fun e w' => e = .returned (.bool (memB x.mo M && fitD x (day - D) L D)) ∧ Below W.heap.size W w') :
    Calls Tryz.prog 5 #[crV A x, .int .i64 t] w fun e w' => e = .returned (.tuple #[.bool (fitT x s M D L day), .int .i64 0]) ∧ Below w.heap.size w w' := by
  have HW := hide (CW.new hk hl)
  have KC := hide kc
  have KS := hide ks
  have KD := hide kd
  have hu := ok_u hok
  have K1 := hide (fun W (hw : CW w A x W) => member_any A.m A.cm x.mi (s / 60 % 60) W hw.cl.mi hu.mi)
  have K2 := hide (fun W (hw : CW w A x W) => member_any A.h A.ch x.ho (s / 60 / 60) W hw.cl.ho hu.ho)
  have HF : Hid (fitT x s M D L day = (memB x.mi (s / 60 % 60) && memB x.ho (s / 60 / 60) && (memB x.mo M && fitD x (day - D) L D))) := by unfold fitT; show _ = _; rw [Bool.and_assoc (memB x.mi (s / 60 % 60) && memB x.ho (s / 60 / 60))]
  have q1 : s.tdiv 60 = s / 60 := Int.tdiv_eq_ediv_of_nonneg s0
  have q2 : s.tdiv 3600 = s / 60 / 60 := by rw [Int.tdiv_eq_ediv_of_nonneg s0]; omega
  have q3 : (s / 60).tmod 60 = s / 60 % 60 := Int.tmod_eq_emod_of_nonneg (by omega)
  generalize fitT x s M D L day = R at *
  generalize memB x.mi (s / 60 % 60) = b1 at *
  generalize memB x.ho (s / 60 / 60) = b2 at *
  generalize (memB x.mo M && fitD x (day - D) L D) = b3 at *
  have z1 : 0 ≤ s / 60 := by omega
  have z2 : s / 60 < 1440 := by omega
  generalize s / 60 = mn at *
  rw [hok, show argN true = 0 from rfl] at KC
  clear hk hl hok kc ks kd hu
  go_enter Tryz.func5, Tryz.ntmps5
  go_upto_region 1 with fail
  have hw := HW.out
  obtain ⟨W0, hW0⟩ : ∃ W0, (w.alloc (crO A x)) = W0 := ⟨_, rfl⟩
  rw [hW0] at hw ⊢
  clear hW0 HW
  obtain ⟨x0, x1, x2, x3, x4, x5, x6, x7, x8, x9, x10⟩ := hw.bx.cells
  go_wp2_with fail
  refine (KC.out _ hw).mono ?_
  rintro e W1 ⟨rfl, c1⟩
  replace hw := hw.later c1
  clear c1 x0 x1 x2 x3 x4 x5 x6 x7 x8 x9 x10
  go_wp2_with fail
  refine (KS.out _).mono ?_
  rintro e W2 ⟨rfl, rfl⟩
  obtain ⟨x0, x1, x2, x3, x4, x5, x6, x7, x8, x9, x10⟩ := hw.bx.cells
  go_wp2_with fail
  refine (K1.out _ hw).mono ?_
  rintro e W5 ⟨rfl, c5⟩
  replace hw := hw.later c5
  clear c5 x0 x1 x2 x3 x4 x5 x6 x7 x8 x9 x10
  cases b1
  · obtain rfl : R = false := by rw [HF.out]; rfl
    clear HF
    go_wp2
    go_ret2
    exact ⟨rfl, hw.be⟩
  obtain ⟨x0, x1, x2, x3, x4, x5, x6, x7, x8, x9, x10⟩ := hw.bx.cells
  go_wp2_with fail
  refine (K2.out _ hw).mono ?_
  rintro e W6 ⟨rfl, c6⟩
  replace hw := hw.later c6
  clear c6 x0 x1 x2 x3 x4 x5 x6 x7 x8 x9 x10
  cases b2
  · obtain rfl : R = false := by rw [HF.out]; rfl
    clear HF
    go_wp2
    go_ret2
    exact ⟨rfl, hw.be⟩
  obtain rfl : R = b3 := by rw [HF.out]; simp
  clear HF
  obtain ⟨x0, x1, x2, x3, x4, x5, x6, x7, x8, x9, x10⟩ := hw.bx.cells
  go_wp2_with fail
  refine (KD.out _ hw).mono ?_
  rintro e W8 ⟨rfl, c8⟩
  have hB := hw.be.trans (c8.mono hw.be.size)
  go_wp2
  go_ret2
  exact ⟨rfl, hB⟩
end Go.Proofs.YtdjeekkpbiiboaaGreatDoor
