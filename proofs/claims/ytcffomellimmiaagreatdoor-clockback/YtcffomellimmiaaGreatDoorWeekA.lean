/- Weeks: the first Monday of a year. -/
import Derived.Test.YtcffomellimmiaaGreatDoorDaysMeet
namespace Go.Proofs.YtcffomellimmiaaGreatDoor
open Go.RowKit Go.Shelf
set_option linter.unusedVariables false

theorem field3 (g0 : Nat) (l0 : Array Value) (g1 : Nat) (l1 : Array Value) (g2 : Nat) (l2 : Array Value) (g3 : Nat) (l3 : Array Value) (W : World) :
    Sem.run Tryz.prog (Instr.field 150 (.agg #[fv g0 l0, fv g1 l1, fv g2 l2, fv g3 l3]) 3) W = .ok (fv g3 l3) W := by
  kernel_rfl

/-- the day with which the weeks of a year begin -/
def fmon (y : Int) : Int := Alm.start 1 y + 3 - (Alm.start 1 y + 3 + 3) % 7
theorem fmon_bd (y : Int) (y1 : -20001 ≤ y) (y2 : y ≤ 20001) : -10000000 ≤ fmon y ∧ fmon y ≤ 10000000 := by
  unfold fmon; simp [Alm.start, Alm.gahead]; omega
set_option maxRecDepth 100000 in
theorem fmon_any (y : Int) (w : World) (y1 : -20001 ≤ y) (y2 : y ≤ 20001) :
    Calls Tryz.prog 179 #[.int .i64 y] w fun e w' => e = .returned (.int .i64 (fmon y)) ∧ Below w.heap.size w w' := by
  have sb := Alm.start_bd 1 y (by omega) (by omega) (by omega) (by omega)
  go_enter Tryz.func179, Tryz.ntmps179
  go_wp2_with fail
  refine (gregorian_any _).mono ?_
  rintro e W ⟨g0, l0, g1, l1, g2, l2, g3, l3, rfl, hc, hb⟩
  have en := hc.start.enters
  have k1 := hc.start.calls _ y (Since.refl _ _) (by omega) (by omega)
  clear hc
  have E := hide (show Alm.start 1 y + 3 - ((Alm.start 1 y + 3 + 3) % 7 + 1) + 1 = fmon y by unfold fmon; omega)
  generalize Alm.start 1 y = st at *
  go_wp2_with (first | (go_at_call 188; refine (weekday_any _ _).mono ?_; rintro e w' ⟨rfl, rfl⟩) | (go_at_fn g3; refine k1.mono ?_; rintro e w' ⟨rfl, q, rfl⟩))
  rw [field3]
  go_wp2_with (first | (go_at_call 188; refine (weekday_any _ _).mono ?_; rintro e w' ⟨rfl, rfl⟩) | (go_at_fn g3; refine k1.mono ?_; rintro e w' ⟨rfl, q, rfl⟩))
  go_ret
  exact ⟨ret_int E.out, below_drewN hb _⟩
end Go.Proofs.YtcffomellimmiaaGreatDoor
