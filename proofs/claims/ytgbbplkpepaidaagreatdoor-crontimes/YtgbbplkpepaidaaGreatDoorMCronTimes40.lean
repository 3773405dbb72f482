/- plain.CronNext, by what cron.Next says. -/
import Derived.Test.YtgbbplkpepaidaaGreatDoorMCronTimes36
import Derived.Test.YtgbbplkpepaidaaGreatDoorMCronTimes12
namespace Go.Proofs.YtgbbplkpepaidaaGreatDoor
open Go.RowKit
set_option linter.unusedVariables false
set_option linter.unusedSimpArgs false
set_option maxRecDepth 100000 in
set_option maxHeartbeats 4000000 in
theorem pfits_good (A : CAd) (x : Crn.C) (t : Int) (b : Bool) (w : World) (hd : Hd w) (hk : KT w) (hl : CL A x w)
    (kf : ∀ W, CW w A x W → Calls Tryz.prog 8 #[crV A x, .int .i64 t] W fun e w' => e = .returned (.tuple #[.bool b, .nilIface]) ∧ Below W.heap.size W w') :
    Calls Tryz.prog 4 #[crV A x, .int .i64 t] w fun e w' => e = .returned (.tuple #[.bool b, .int .i64 0]) ∧ Below w.heap.size w w' := by
  have HW := hide (CW.new hk hl)
  have HH := hide (fun W (hw : CW w A x W) => hd.later (hw.be))
  have KF := hide kf
  clear hk hl hd kf
  go_enter Tryz.func4, Tryz.ntmps4
  go_upto_region 1 with fail
  obtain ⟨W0, hW0⟩ : ∃ W0, (w.alloc (crO A x)) = W0 := ⟨_, rfl⟩
  have hw := HW.out
  rw [hW0] at hw ⊢
  clear hW0 HW
  obtain ⟨x0, x1, x2, x3, x4, x5, x6, x7, x8, x9, x10⟩ := hw.bx.cells
  go_wp2_with fail
  refine (KF.out _ hw).mono ?_
  rintro e W1 ⟨rfl, b1⟩
  replace hw := hw.later b1
  clear x0 x1 x2 x3 x4 x5 x6 x7 x8 x9 x10 b1
  go_wp2_with fail
  refine (tell_nil _).mono ?_
  rintro e W2 ⟨rfl, b2⟩
  have hB := hw.be.trans (b2.mono hw.be.size)
  go_wp2
  go_ret2
  exact ⟨rfl, hB⟩
set_option maxRecDepth 100000 in
set_option maxHeartbeats 4000000 in
theorem pfits_bad (A : CAd) (x : Crn.C) (t : Int) (b : Bool) (k : Int) (w : World) (hd : Hd w) (hk : KT w) (hl : CL A x w)
    (kf : ∀ W, CW w A x W → Calls Tryz.prog 8 #[crV A x, .int .i64 t] W fun e w' => e = .returned (.tuple #[.bool b, .iface 27 (.int .i64 k)]) ∧ Below W.heap.size W w') :
    Calls Tryz.prog 4 #[crV A x, .int .i64 t] w fun e w' => e = .returned (.tuple #[.bool b, .int .i64 k]) ∧ Below w.heap.size w w' := by
  have HW := hide (CW.new hk hl)
  have HH := hide (fun W (hw : CW w A x W) => hd.later (hw.be))
  have KF := hide kf
  clear hk hl hd kf
  go_enter Tryz.func4, Tryz.ntmps4
  go_upto_region 1 with fail
  obtain ⟨W0, hW0⟩ : ∃ W0, (w.alloc (crO A x)) = W0 := ⟨_, rfl⟩
  have hw := HW.out
  rw [hW0] at hw ⊢
  clear hW0 HW
  obtain ⟨x0, x1, x2, x3, x4, x5, x6, x7, x8, x9, x10⟩ := hw.bx.cells
  go_wp2_with fail
  refine (KF.out _ hw).mono ?_
  rintro e W1 ⟨rfl, b1⟩
  replace hw := hw.later b1
  clear x0 x1 x2 x3 x4 x5 x6 x7 x8 x9 x10 b1
  go_wp2_with fail
  refine (tell_err k _ (HH.out _ hw)).mono ?_
  rintro e W2 ⟨rfl, b2⟩
  have hB := hw.be.trans (b2.mono hw.be.size)
  go_wp2
  go_ret2
  exact ⟨rfl, hB⟩
end Go.Proofs.YtgbbplkpepaidaaGreatDoor
namespace Go.Proofs.YtgbbplkpepaidaaGreatDoor
open Go.RowKit
set_option linter.unusedVariables false
set_option linter.unusedSimpArgs false
set_option maxRecDepth 100000 in
set_option maxHeartbeats 4000000 in
theorem pnext_good (A : CAd) (x : Crn.C) (t : Int) (b : Int) (w : World) (hd : Hd w) (hk : KT w) (hl : CL A x w)
    (kf : ∀ W, CW w A x W → Calls Tryz.prog 14 #[crV A x, .int .i64 t] W fun e w' => e = .returned (.tuple #[.int .i64 b, .nilIface]) ∧ Below W.heap.size W w') :
    Calls Tryz.prog 6 #[crV A x, .int .i64 t] w fun e w' => e = .returned (.tuple #[.int .i64 b, .int .i64 0]) ∧ Below w.heap.size w w' := by
  have HW := hide (CW.new hk hl)
  have HH := hide (fun W (hw : CW w A x W) => hd.later (hw.be))
  have KF := hide kf
  clear hk hl hd kf
  go_enter Tryz.func6, Tryz.ntmps6
  go_upto_region 1 with fail
  obtain ⟨W0, hW0⟩ : ∃ W0, (w.alloc (crO A x)) = W0 := ⟨_, rfl⟩
  have hw := HW.out
  rw [hW0] at hw ⊢
  clear hW0 HW
  obtain ⟨x0, x1, x2, x3, x4, x5, x6, x7, x8, x9, x10⟩ := hw.bx.cells
  go_wp2_with fail
  refine (KF.out _ hw).mono ?_
  rintro e W1 ⟨rfl, b1⟩
  replace hw := hw.later b1
  clear x0 x1 x2 x3 x4 x5 x6 x7 x8 x9 x10 b1
  go_wp2_with fail
  refine (tell_nil _).mono ?_
  rintro e W2 ⟨rfl, b2⟩
  have hB := hw.be.trans (b2.mono hw.be.size)
  go_wp2
  go_ret2
  exact ⟨rfl, hB⟩
set_option maxRecDepth 100000 in
set_option maxHeartbeats 4000000 in
theorem pnext_bad (A : CAd) (x : Crn.C) (t : Int) (b : Int) (k : Int) (w : World) (hd : Hd w) (hk : KT w) (hl : CL A x w)
    (kf : ∀ W, CW w A x W → Calls Tryz.prog 14 #[crV A x, .int .i64 t] W fun e w' => e = .returned (.tuple #[.int .i64 b, .iface 27 (.int .i64 k)]) ∧ Below W.heap.size W w') :
    Calls Tryz.prog 6 #[crV A x, .int .i64 t] w fun e w' => e = .returned (.tuple #[.int .i64 b, .int .i64 k]) ∧ Below w.heap.size w w' := by
  have HW := hide (CW.new hk hl)
  have HH := hide (fun W (hw : CW w A x W) => hd.later (hw.be))
  have KF := hide kf
  clear hk hl hd kf
  go_enter Tryz.func6, Tryz.ntmps6
  go_upto_region 1 with fail
  obtain ⟨W0, hW0⟩ : ∃ W0, (w.alloc (crO A x)) = W0 := ⟨_, rfl⟩
  have hw := HW.out
  rw [hW0] at hw ⊢
  clear hW0 HW
  obtain ⟨x0, x1, x2, x3, x4, x5, x6, x7, x8, x9, x10⟩ := hw.bx.cells
  go_wp2_with fail
  refine (KF.out _ hw).mono ?_
  rintro e W1 ⟨rfl, b1⟩
  replace hw := hw.later b1
  clear x0 x1 x2 x3 x4 x5 x6 x7 x8 x9 x10 b1
  go_wp2_with fail
  refine (tell_err k _ (HH.out _ hw)).mono ?_
  rintro e W2 ⟨rfl, b2⟩
  have hB := hw.be.trans (b2.mono hw.be.size)
  go_wp2
  go_ret2
  exact ⟨rfl, hB⟩
end Go.Proofs.YtgbbplkpepaidaaGreatDoor
