/- The reference: weeks. -/
import Derived.Test.YtdjeekkpbiiboaaGreatDoorRefG
import Derived.Test.YtdjeekkpbiiboaaGreatDoorWeekC
namespace Go.Proofs.YtdjeekkpbiiboaaGreatDoor
open Go.RowKit Go.Shelf
set_option linter.unusedVariables false
set_option linter.unusedSimpArgs false

/-- the day with which the first week of a year begins, where weeks begin with the weekday b -/
def wone (c y b : Int) : Int := Alm.start c y + 3 - (Alm.start c y + 3 + 4 - b) % 7
theorem wone_fmon (y : Int) : wone 1 y 1 = fmon y := by unfold wone fmon; omega
theorem fieldYear (v0 v1 v2 v3 : Int) (W : World) : (Instr.field 60 (.agg #[.int .i64 v0, .int .i64 v1, .int .i64 v2, .int .i64 v3]) 1).run Tryz.prog W = .ok (.int .i64 v1) W := by kernel_rfl
theorem fmon_mono (Y : Int) : fmon Y + 364 ≤ fmon (Y + 1) := by
  have := start1_succ Y
  unfold fmon; omega
theorem rgreg_any (day Y M D : Int) (w : World) (d1 : -4000000 ≤ day) (d2 : day ≤ 4000000) (y1 : -20000 ≤ Y) (y2 : Y ≤ 20000) (hD : Alm.IsDate 1 day Y M D) :
    Calls Tryz.prog 25 #[.int .i64 day] w fun r w' => r = .returned (.agg #[.int .i64 1, .int .i64 Y, .int .i64 M, .int .i64 D]) ∧ Below w.heap.size w w' := by
  have K := hide (fun W => rof_ok 1 day Y M D W (by omega) (by omega) d1 d2 y1 y2 hD)
  clear hD
  go_enter Tryz.func25, Tryz.ntmps25
  go_wp2_with fail
  refine (K.out _).mono ?_
  rintro r W ⟨rfl, hb⟩
  obtain ⟨⟨z0, n0⟩, ⟨z1, n1⟩, ⟨z2, n2⟩, ⟨z3, n3⟩⟩ := slotD w W hb
  have hs : w.heap.size < W.heap.size := by have := hb.size; simp at this; omega
  have hB : Below w.heap.size w W := ((Below.refl _ w).alloc (Nat.le_refl _) _).trans (hb.mono (by simp))
  clear K hb
  go_wp2
  refine bodyPost_ret (v := .agg #[.int .i64 1, .int .i64 Y, .int .i64 M, .int .i64 D]) (by simp [results, Tryz.results25, go_sem, z0, z1, z2, z3, hs]) rfl ⟨rfl, ?_⟩
  exact ((((hB.setCell (Nat.le_refl _) _).setCell (Nat.le_refl _) _).setCell (Nat.le_refl _) _).setCell (Nat.le_refl _) _).alloc (by simp [World.setCell]; omega) _

/-- what OfWeek answers -/
def wval (y n d : Int) : Int := if werr y n d = 0 then fmon y + 7 * (n - 1) + d - 1 else 0
end Go.Proofs.YtdjeekkpbiiboaaGreatDoor
