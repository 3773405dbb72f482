/- plain.ClockPeriodText. -/
import Derived.Test.YtcffomellimmiaaGreatDoorPerJ
import Derived.Test.YtcffomellimmiaaGreatDoorClockTexts
namespace Go.Proofs.YtcffomellimmiaaGreatDoor
open Go.RowKit Go.Shelf
set_option linter.unusedVariables false
set_option linter.unusedSimpArgs false

set_option maxHeartbeats 1600000 in
theorem pcper_gen (y m n d s k : Int) (T : ByteArray) (w : World) (hd : Hd w)
    (kc : ∀ W, Below w.heap.size w W → Calls Tryz.prog 32 #[.agg #[.int .i64 y, .int .i64 m, .int .i64 n, .int .i64 d, .int .i64 s]] W fun e w' => e = .returned (.tuple #[.string T, ev k]) ∧ Below W.heap.size W w') :
    Calls Tryz.prog 14 #[.agg #[.int .i64 y, .int .i64 m, .int .i64 n, .int .i64 d, .int .i64 s]] w fun e w' => e = .returned (.tuple #[.string T, .int .i64 k]) ∧ Below w.heap.size w w' := by
  have KT := hide (fun W hW => tell_ev k W hW)
  have KC := hide kc
  have hb0 : Below w.heap.size w (w.alloc (.cells #[.int .i64 y, .int .i64 m, .int .i64 n, .int .i64 d, .int .i64 s] 39)) := (Below.refl _ w).alloc (Nat.le_refl _) _
  clear kc
  generalize ev k = E at *
  go_enter Tryz.func14, Tryz.ntmps14
  go_wp2_with fail
  refine (KC.out _ hb0).mono ?_
  rintro e W ⟨rfl, hb⟩
  have hB := hb0.trans (hb.mono (by simp))
  clear hb hb0
  go_wp2_with fail
  refine (KT.out _ (hd.later hB)).mono ?_
  rintro e W2 ⟨rfl, hb2⟩
  go_wp2
  go_ret2
  exact ⟨rfl, hB.trans (hb2.mono hB.size)⟩
