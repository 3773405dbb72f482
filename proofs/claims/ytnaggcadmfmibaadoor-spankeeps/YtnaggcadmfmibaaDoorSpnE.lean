/- The reference's ways: In, SetOK, Way, SpanOf, Count. -/
import Derived.Test.YtnaggcadmfmibaaDoorSpnC
import Derived.WalkKit
namespace Go.Proofs.YtnaggcadmfmibaaDoor
open Go.RowKit
set_option linter.unusedVariables false
set_option linter.unusedSimpArgs false

theorem below_dr {B : Nat} {w w' : World} (h : Below B w w') (n : Nat) : Below B w (w'.drewN n) := ⟨h.os, h.tape, h.output, h.size, h.block⟩
theorem in_any (s : Int) (k : Nat) (w : World) (hk : k ≤ 60) : Calls Tryd.prog 25 #[.int .i64 s, .int .i64 k] w fun e w' => e = .returned (.bool (hasB s k)) ∧ w' = w := by
  go_enter Tryd.func25, Tryd.ntmps25
  go_wp2
  go_ret
  refine ⟨?_, rfl⟩
  unfold hasB
  simp [i64_and1]
theorem setok_any (s : Int) (w : World) : Calls Tryd.prog 46 #[.int .i64 s] w fun e w' => e = .returned (.bool (decide (0 ≤ s ∧ s ≤ 8191))) ∧ w' = w := by
  go_enter Tryd.func46, Tryd.ntmps46
  go_wp2
  all_goals
    go_ret
    refine ⟨ret_bool ?_, rfl⟩
    simp
    try omega
set_option maxHeartbeats 1000000 in
theorem rway_any (a b c d : Int) (w : World) (h1 : a < b) (h2 : c < d) :
    Calls Tryd.prog 26 #[.agg #[.int .i64 a, .int .i64 b], .agg #[.int .i64 c, .int .i64 d]] w fun e w' => e = .returned (.int .i64 (Spn.way a b c d : Nat)) ∧ Below w.heap.size w w' := by
  have hB : Below w.heap.size w ((w.alloc (.cells #[.int .i64 a, .int .i64 b] 29)).alloc (.cells #[.int .i64 c, .int .i64 d] 29)) := ((Below.refl _ w).alloc (Nat.le_refl _) _).alloc (by simp) _
  have HB := hide hB
  clear hB
  go_enter Tryd.func26, Tryd.ntmps26
  go_wp2_with fail
  all_goals
    go_ret
    refine ⟨ret_int ?_, ((Below.refl _ w).alloc (Nat.le_refl _) _).alloc (by simp) _⟩
    clear HB
    unfold Spn.way
    repeat' split
    all_goals first | rfl | (exfalso; simp at *; omega)
/-- how many ways a set has: of the first k -/
def cntN (s : Int) : Nat → Nat
  | 0 => 0
  | k + 1 => if hasB s k then cntN s k + 1 else cntN s k
theorem cntN_le (s : Int) : ∀ k, cntN s k ≤ k
  | 0 => Nat.le_refl 0
  | k + 1 => by have := cntN_le s k; unfold cntN; split <;> omega
end Go.Proofs.YtnaggcadmfmibaaDoor
