/- package clock: Since, at the dates of two times. -/
import Derived.Test.YtcffomellimmiaaGreatDoorClockF
namespace Go.Proofs.YtcffomellimmiaaGreatDoor
open Go.RowKit Go.Shelf
set_option linter.unusedVariables false
set_option linter.unusedSimpArgs false

theorem ctell_ok (t y m d : Int) (w : World) (t1 : -345600000000 ≤ t) (t2 : t ≤ 345600086399) (hD : Alm.IsDate 1 (t / 86400) y m d) :
    Calls Tryz.prog 34 #[.int .i64 t] w fun e w' => e = .returned (.tuple #[.agg #[.int .i64 1, .int .i64 y, .int .i64 m, .int .i64 d], clk (t % 86400), .nilIface]) ∧ Below w.heap.size w w' :=
  tell_steps t 1 y m d w t1 t2 (fun W => of_ok' 1 (t / 86400) y m d W (by omega) (by omega) (by omega) (by omega) hD)
theorem small0 (M : Int) (h1 : -1000000000000 ≤ M) (h2 : M ≤ 1000000000000) : Small 0 M 0 0 0 := ⟨by omega, ⟨h1, h2⟩, by omega, by omega, by omega⟩
/-- what Since finds -/
structure Found (a b i d F v : Int) : Prop where
  f0 : 0 ≤ F
  f1 : F ≤ 1000000
  leads : Leads i d F
  eq : v = 86400 * Alm.amon i d F + a % 86400
  le : v ≤ b
  days : b - v < 31 * 86400
  next : b < 86400 * Alm.amon i d (F + 1) + a % 86400
end Go.Proofs.YtcffomellimmiaaGreatDoor
