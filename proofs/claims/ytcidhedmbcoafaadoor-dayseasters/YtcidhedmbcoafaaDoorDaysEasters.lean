/- DaysEasters: Easter. -/
import Derived.Test.YtcidhedmbcoafaaDoorRefI
namespace Go.Proofs.YtcidhedmbcoafaaDoor
open Go.RowKit Go.Shelf
set_option linter.unusedVariables false
set_option linter.unusedSimpArgs false

theorem deaster_steps (y a q : Int) (e : Bool) (w : World) (hd : Hd w)
    (k1 : ∀ W, Hd W → Calls Tryd.prog 32 #[.int .i64 y, .bool e] W fun r w' => r = .returned (.tuple #[.int .i64 a, .int .i64 q]) ∧ Below W.heap.size W w')
    (k2 : ∀ W, Calls Tryd.prog 33 #[.int .i64 y, .bool e] W fun r w' => r = .returned (.tuple #[.int .i64 a, .int .i64 q]) ∧ Below W.heap.size W w') :
    Calls Tryd.prog 7 #[.int .i64 y, .bool e] w fun r w' => r = .returned (.bool true) ∧ Below w.heap.size w w' := by
  have K1 := k1 _ hd
  have K2 := hide k2
  clear k1 k2
  go_enter Tryd.func7, Tryd.ntmps7
  go_wp2_with fail
  refine K1.mono ?_
  rintro r W ⟨rfl, hb⟩
  go_wp2_with fail
  refine (K2.out _).mono ?_
  rintro r W2 ⟨rfl, hb2⟩
  clear K1 K2
  go_wp2
  go_ret
  exact ⟨rfl, hb.trans (hb2.mono hb.size)⟩
theorem deaster_walk (y : Int) (e : Bool) (w : World) (hd : Hd w) :
    Calls Tryd.prog 7 #[.int .i64 y, .bool e] w fun r w' => r = .returned (.bool true) ∧ Below w.heap.size w w' := by
  by_cases hy : y < 1 ∨ 20000 < y
  · exact deaster_steps y 0 4 e w hd (fun W hW => peaster_no e y W hW (by omega)) (fun W => reaster_out e y W hy)
  · by_cases h1 : 4000000 < dnum (eCal e) y 4 19
    · exact deaster_steps y 0 4 e w hd (fun W hW => peaster_no e y W hW (by omega)) (fun W => reaster_val e y 0 4 W (by omega) (by omega) (.inl ⟨h1, rfl, rfl⟩))
    · by_cases h2 : 4000000 < eDay e y
      · exact deaster_steps y 0 4 e w hd (fun W hW => peaster_no e y W hW (by omega)) (fun W => reaster_val e y 0 4 W (by omega) (by omega) (.inr ⟨by omega, .inl ⟨h2, rfl, rfl⟩⟩))
      · exact deaster_steps y _ 0 e w hd (fun W hW => peaster_ok e y W (by omega) (by omega) (by omega) (by omega)) (fun W => reaster_val e y _ 0 W (by omega) (by omega) (.inr ⟨by omega, .inr ⟨by omega, rfl, rfl⟩⟩))
end Go.Proofs.YtcidhedmbcoafaaDoor
