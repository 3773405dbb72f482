/- The reference of package cron: CronNext, by what its own callees say. -/
import Derived.Test.YtdjeekkpbiiboaaGreatDoorCrtG
import Derived.Test.YtdjeekkpbiiboaaGreatDoorCrnE0
namespace Go.Proofs.YtdjeekkpbiiboaaGreatDoor
open Go.RowKit
set_option linter.unusedVariables false
set_option linter.unusedSimpArgs false

set_option maxRecDepth 100000 in
set_option maxHeartbeats 4000000 in
theorem rnext_no (A : CAd) (x : Crn.C) (t : Int) (w : World) (hk : KT w) (hl : CL A x w) (hok : Crn.ok x = false)
    (kc : ∀ W, CW w A x W → Calls Tryz.prog 10 #[crV A x] W fun e w' => e = .returned (.int .i64 (argN (Crn.ok x))) ∧ Below W.heap.size W w') :
    Calls Tryz.prog 7 #[crV A x, .int .i64 t] w fun e w' => e = .returned (.tuple #[.int .i64 0, .int .i64 1]) ∧ Below w.heap.size w w' := by
  have HW := hide (CW.new hk hl)
  have KC := hide kc
  rw [hok, show argN false = 1 from rfl] at KC
  clear hk hl hok kc
  go_enter Tryz.func7, Tryz.ntmps7
  go_upto_region 1 with fail
  have hw := HW.out
  obtain ⟨W0, hW0⟩ : ∃ W0, (w.alloc (crO A x)) = W0 := ⟨_, rfl⟩
  rw [hW0] at hw ⊢
  clear hW0 HW
  obtain ⟨x0, x1, x2, x3, x4, x5, x6, x7, x8, x9, x10⟩ := hw.bx.cells
  go_wp2_with fail
  refine (KC.out _ hw).mono ?_
  rintro e W1 ⟨rfl, c1⟩
  replace hw := hw.later c1
  clear c1 x0 x1 x2 x3 x4 x5 x6 x7 x8 x9 x10
  go_wp2
  go_ret2
  exact ⟨rfl, hw.be⟩
set_option maxRecDepth 100000 in
set_option maxHeartbeats 4000000 in
theorem rnext_out (A : CAd) (x : Crn.C) (t : Int) (w : World) (hk : KT w) (hl : CL A x w) (hok : Crn.ok x = true)
    (kc : ∀ W, CW w A x W → Calls Tryz.prog 10 #[crV A x] W fun e w' => e = .returned (.int .i64 (argN (Crn.ok x))) ∧ Below W.heap.size W w')
    (ks : ∀ W, Calls Tryz.prog 11 #[.int .i64 t] W fun e w' => e = .returned (.tuple #[.int .i64 0, .int .i64 0, .int .i64 4]) ∧ w' = W) :
    Calls Tryz.prog 7 #[crV A x, .int .i64 t] w fun e w' => e = .returned (.tuple #[.int .i64 0, .int .i64 4]) ∧ Below w.heap.size w w' := by
  have HW := hide (CW.new hk hl)
  have KC := hide kc
  have KS := hide ks
  rw [hok, show argN true = 0 from rfl] at KC
  clear hk hl hok kc ks
  go_enter Tryz.func7, Tryz.ntmps7
  go_upto_region 1 with fail
  have hw := HW.out
  obtain ⟨W0, hW0⟩ : ∃ W0, (w.alloc (crO A x)) = W0 := ⟨_, rfl⟩
  rw [hW0] at hw ⊢
  clear hW0 HW
  obtain ⟨x0, x1, x2, x3, x4, x5, x6, x7, x8, x9, x10⟩ := hw.bx.cells
  go_wp2_with fail
  refine (KC.out _ hw).mono ?_
  rintro e W1 ⟨rfl, c1⟩
  replace hw := hw.later c1
  clear c1 x0 x1 x2 x3 x4 x5 x6 x7 x8 x9 x10
  go_wp2_with fail
  refine (KS.out _).mono ?_
  rintro e W2 ⟨rfl, rfl⟩
  go_wp2
  go_ret2
  exact ⟨rfl, hw.be⟩
end Go.Proofs.YtdjeekkpbiiboaaGreatDoor
