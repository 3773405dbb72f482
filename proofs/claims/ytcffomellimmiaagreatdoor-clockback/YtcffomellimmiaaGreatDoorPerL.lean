/- A period of one sign, written. -/
import Derived.Test.YtcffomellimmiaaGreatDoorPerK
namespace Go.Proofs.YtcffomellimmiaaGreatDoor
open Go.RowKit Go.Shelf
set_option linter.unusedVariables false
set_option linter.unusedSimpArgs false

theorem per_text (bk : Bool) (y m n d x : Nat) (w : World) (ht : Tab w) (h1 : y ≤ 1000000000000) (h2 : m ≤ 1000000000000) (h3 : n ≤ 1000000000000) (h4 : d ≤ 1000000000000) (h5 : x ≤ 1000000000000) (hz : ¬ (y = 0 ∧ m = 0 ∧ n = 0 ∧ d = 0 ∧ x = 0)) :
    Calls Tryz.prog 32 #[.agg #[.int .i64 (sgn bk y), .int .i64 (sgn bk m), .int .i64 (sgn bk n), .int .i64 (sgn bk d), .int .i64 (sgn bk x)]] w fun e w' => e = .returned (.tuple #[.string (stx bk (pbody y m n d x)), .nilIface]) ∧ Below w.heap.size w w' := by
  cases bk
  · simp only [sgn, stx, Bool.false_eq_true, if_false]
    refine ptext_loop y m n d x _ _ w ht (by omega) (by omega) (by omega) (by omega) (by omega) (by omega) ?_ ?_ ?_
    · intro g; exfalso; unfold Neg at g; omega
    · intro g; exfalso; unfold Neg at g; omega
    · intro _; exact ⟨by simp only [Int.toNat_natCast], rfl⟩
  · simp only [sgn, stx, if_true]
    refine ptext_loop (-y) (-m) (-n) (-d) (-x) _ _ w ht (by omega) (by omega) (by omega) (by omega) (by omega) (by omega) ?_ ?_ ?_
    · intro _ g; exfalso; unfold Pos at g; omega
    · intro _ _; exact ⟨by simp only [Int.neg_neg, Int.toNat_natCast], rfl⟩
    · intro g; exfalso; unfold Neg at g; omega
