/- periods with a part that is too great; the reference's small. -/
import Derived.Test.YtafaacliphdndaaGreatDoorMClockBack30
namespace Go.Proofs.YtafaacliphdndaaGreatDoor
open Go.RowKit Go.Shelf
set_option linter.unusedVariables false
set_option linter.unusedSimpArgs false

set_option maxRecDepth 100000 in
set_option maxHeartbeats 8000000 in
theorem check_no (y m n d s : Int) (w : World) (hp : ¬ Small y m n d s) :
    Calls Tryz.prog 42 #[.agg #[.int .i64 y, .int .i64 m, .int .i64 n, .int .i64 d, .int .i64 s]] w fun e w' => e = .returned (.iface 25 (.int .i64 4)) ∧ Below w.heap.size w w' := by
  have HP := hide hp
  clear hp
  go_enter Tryz.func42, Tryz.ntmps42
  go_wp2_with fail
  refine (parts_any y m n d s _).mono ?_
  rintro e W ⟨rfl, hb⟩
  have hb0 : Below w.heap.size w W := ((Below.refl _ w).alloc (Nat.le_refl _) _).trans (hb.mono (by simp))
  have hB := hb0.alloc hb0.size (.cells #[.int .i64 y, .int .i64 m, .int .i64 n, .int .i64 d, .int .i64 s] 110)
  clear hb hb0
  go_wp2_with fail
  go_loop [7] (fun k => ∃ j : Nat, j ≤ 5 ∧ k = .int .i64 j ∧ (0 < j → -1000000000000 ≤ y ∧ y ≤ 1000000000000) ∧ (1 < j → -1000000000000 ≤ m ∧ m ≤ 1000000000000) ∧ (2 < j → -1000000000000 ≤ n ∧ n ≤ 1000000000000) ∧ (3 < j → -1000000000000 ≤ d ∧ d ≤ 1000000000000) ∧ (4 < j → -1000000000000 ≤ s ∧ s ≤ 1000000000000)) (fun k => 5 - (intOf k).toNat)
  case atStart => exact ⟨0, by omega, rfl, fun h => absurd h (by omega), fun h => absurd h (by omega), fun h => absurd h (by omega), fun h => absurd h (by omega), fun h => absurd h (by omega)⟩
  case round =>
    obtain ⟨j, hj, rfl, g0, g1, g2, g3, g4⟩ := hrel
    rcases (show j = 0 ∨ j = 1 ∨ j = 2 ∨ j = 3 ∨ j = 4 ∨ j = 5 by omega) with rfl | rfl | rfl | rfl | rfl | rfl
    · by_cases hy : -1000000000000 ≤ y ∧ y ≤ 1000000000000
      · skip
        obtain ⟨q1, q2⟩ := hy
        have hy : -1000000000000 ≤ y ∧ y ≤ 1000000000000 := ⟨q1, q2⟩
        clear g0 g1 g2 g3 g4
        go_wp2
        go_round
        case rel => exact ⟨1, by omega, rfl, fun _ => hy, fun h => absurd h (by omega), fun h => absurd h (by omega), fun h => absurd h (by omega), fun h => absurd h (by omega)⟩
        case measure => simp [intOf]
      · have hh : y < -1000000000000 ∨ (-1000000000000 ≤ y ∧ 1000000000000 < y) := by omega
        clear g0 g1 g2 g3 g4 hy
        rcases hh with h | ⟨h0, h⟩
        · go_wp2
          go_ret
          exact ⟨rfl, hB⟩
        · go_wp2
          go_ret
          exact ⟨rfl, hB⟩
    · by_cases hm : -1000000000000 ≤ m ∧ m ≤ 1000000000000
      · have hy := g0 (by omega)
        obtain ⟨q1, q2⟩ := hm
        have hm : -1000000000000 ≤ m ∧ m ≤ 1000000000000 := ⟨q1, q2⟩
        clear g0 g1 g2 g3 g4
        go_wp2
        go_round
        case rel => exact ⟨2, by omega, rfl, fun _ => hy, fun _ => hm, fun h => absurd h (by omega), fun h => absurd h (by omega), fun h => absurd h (by omega)⟩
        case measure => simp [intOf]
      · have hh : m < -1000000000000 ∨ (-1000000000000 ≤ m ∧ 1000000000000 < m) := by omega
        clear g0 g1 g2 g3 g4 hm
        rcases hh with h | ⟨h0, h⟩
        · go_wp2
          go_ret
          exact ⟨rfl, hB⟩
        · go_wp2
          go_ret
          exact ⟨rfl, hB⟩
    · by_cases hn : -1000000000000 ≤ n ∧ n ≤ 1000000000000
      · have hy := g0 (by omega)
        have hm := g1 (by omega)
        obtain ⟨q1, q2⟩ := hn
        have hn : -1000000000000 ≤ n ∧ n ≤ 1000000000000 := ⟨q1, q2⟩
        clear g0 g1 g2 g3 g4
        go_wp2
        go_round
        case rel => exact ⟨3, by omega, rfl, fun _ => hy, fun _ => hm, fun _ => hn, fun h => absurd h (by omega), fun h => absurd h (by omega)⟩
        case measure => simp [intOf]
      · have hh : n < -1000000000000 ∨ (-1000000000000 ≤ n ∧ 1000000000000 < n) := by omega
        clear g0 g1 g2 g3 g4 hn
        rcases hh with h | ⟨h0, h⟩
        · go_wp2
          go_ret
          exact ⟨rfl, hB⟩
        · go_wp2
          go_ret
          exact ⟨rfl, hB⟩
    · by_cases hd : -1000000000000 ≤ d ∧ d ≤ 1000000000000
      · have hy := g0 (by omega)
        have hm := g1 (by omega)
        have hn := g2 (by omega)
        obtain ⟨q1, q2⟩ := hd
        have hd : -1000000000000 ≤ d ∧ d ≤ 1000000000000 := ⟨q1, q2⟩
        clear g0 g1 g2 g3 g4
        go_wp2
        go_round
        case rel => exact ⟨4, by omega, rfl, fun _ => hy, fun _ => hm, fun _ => hn, fun _ => hd, fun h => absurd h (by omega)⟩
        case measure => simp [intOf]
      · have hh : d < -1000000000000 ∨ (-1000000000000 ≤ d ∧ 1000000000000 < d) := by omega
        clear g0 g1 g2 g3 g4 hd
        rcases hh with h | ⟨h0, h⟩
        · go_wp2
          go_ret
          exact ⟨rfl, hB⟩
        · go_wp2
          go_ret
          exact ⟨rfl, hB⟩
    · by_cases hs : -1000000000000 ≤ s ∧ s ≤ 1000000000000
      · have hy := g0 (by omega)
        have hm := g1 (by omega)
        have hn := g2 (by omega)
        have hd := g3 (by omega)
        obtain ⟨q1, q2⟩ := hs
        have hs : -1000000000000 ≤ s ∧ s ≤ 1000000000000 := ⟨q1, q2⟩
        clear g0 g1 g2 g3 g4
        go_wp2
        go_round
        case rel => exact ⟨5, by omega, rfl, fun _ => hy, fun _ => hm, fun _ => hn, fun _ => hd, fun _ => hs⟩
        case measure => simp [intOf]
      · have hh : s < -1000000000000 ∨ (-1000000000000 ≤ s ∧ 1000000000000 < s) := by omega
        clear g0 g1 g2 g3 g4 hs
        rcases hh with h | ⟨h0, h⟩
        · go_wp2
          go_ret
          exact ⟨rfl, hB⟩
        · go_wp2
          go_ret
          exact ⟨rfl, hB⟩
    · exact absurd ⟨g0 (by omega), g1 (by omega), g2 (by omega), g3 (by omega), g4 (by omega)⟩ HP.out
set_option maxRecDepth 100000 in
set_option maxHeartbeats 8000000 in
theorem rsmall_no (y m n d s : Int) (w : World) (hp : ¬ Small y m n d s) :
    Calls Tryz.prog 23 #[.agg #[.int .i64 y, .int .i64 m, .int .i64 n, .int .i64 d, .int .i64 s]] w fun e w' => e = .returned (.bool false) ∧ Below w.heap.size w w' := by
  have HP := hide hp
  clear hp
  have hB : Below w.heap.size w ((w.alloc (.cells #[.int .i64 y, .int .i64 m, .int .i64 n, .int .i64 d, .int .i64 s] 24)).alloc (.cells #[.int .i64 y, .int .i64 m, .int .i64 n, .int .i64 d, .int .i64 s] 3)) := ((Below.refl _ w).alloc (Nat.le_refl _) _).alloc (by simp) _
  go_enter Tryz.func23, Tryz.ntmps23
  go_wp2_with fail
  go_loop [17] (fun k => ∃ j : Nat, j ≤ 5 ∧ k = .int .i64 j ∧ (0 < j → -1000000000000 ≤ y ∧ y ≤ 1000000000000) ∧ (1 < j → -1000000000000 ≤ m ∧ m ≤ 1000000000000) ∧ (2 < j → -1000000000000 ≤ n ∧ n ≤ 1000000000000) ∧ (3 < j → -1000000000000 ≤ d ∧ d ≤ 1000000000000) ∧ (4 < j → -1000000000000 ≤ s ∧ s ≤ 1000000000000)) (fun k => 5 - (intOf k).toNat)
  case atStart => exact ⟨0, by omega, rfl, fun h => absurd h (by omega), fun h => absurd h (by omega), fun h => absurd h (by omega), fun h => absurd h (by omega), fun h => absurd h (by omega)⟩
  case round =>
    obtain ⟨j, hj, rfl, g0, g1, g2, g3, g4⟩ := hrel
    rcases (show j = 0 ∨ j = 1 ∨ j = 2 ∨ j = 3 ∨ j = 4 ∨ j = 5 by omega) with rfl | rfl | rfl | rfl | rfl | rfl
    · by_cases hy : -1000000000000 ≤ y ∧ y ≤ 1000000000000
      · skip
        obtain ⟨q1, q2⟩ := hy
        have hy : -1000000000000 ≤ y ∧ y ≤ 1000000000000 := ⟨q1, q2⟩
        clear g0 g1 g2 g3 g4
        go_wp2
        go_round
        case rel => exact ⟨1, by omega, rfl, fun _ => hy, fun h => absurd h (by omega), fun h => absurd h (by omega), fun h => absurd h (by omega), fun h => absurd h (by omega)⟩
        case measure => simp [intOf]
      · have hh : y < -1000000000000 ∨ (-1000000000000 ≤ y ∧ 1000000000000 < y) := by omega
        clear g0 g1 g2 g3 g4 hy
        rcases hh with h | ⟨h0, h⟩
        · go_wp2
          go_ret
          exact ⟨rfl, hB⟩
        · go_wp2
          go_ret
          exact ⟨rfl, hB⟩
    · by_cases hm : -1000000000000 ≤ m ∧ m ≤ 1000000000000
      · have hy := g0 (by omega)
        obtain ⟨q1, q2⟩ := hm
        have hm : -1000000000000 ≤ m ∧ m ≤ 1000000000000 := ⟨q1, q2⟩
        clear g0 g1 g2 g3 g4
        go_wp2
        go_round
        case rel => exact ⟨2, by omega, rfl, fun _ => hy, fun _ => hm, fun h => absurd h (by omega), fun h => absurd h (by omega), fun h => absurd h (by omega)⟩
        case measure => simp [intOf]
      · have hh : m < -1000000000000 ∨ (-1000000000000 ≤ m ∧ 1000000000000 < m) := by omega
        clear g0 g1 g2 g3 g4 hm
        rcases hh with h | ⟨h0, h⟩
        · go_wp2
          go_ret
          exact ⟨rfl, hB⟩
        · go_wp2
          go_ret
          exact ⟨rfl, hB⟩
    · by_cases hn : -1000000000000 ≤ n ∧ n ≤ 1000000000000
      · have hy := g0 (by omega)
        have hm := g1 (by omega)
        obtain ⟨q1, q2⟩ := hn
        have hn : -1000000000000 ≤ n ∧ n ≤ 1000000000000 := ⟨q1, q2⟩
        clear g0 g1 g2 g3 g4
        go_wp2
        go_round
        case rel => exact ⟨3, by omega, rfl, fun _ => hy, fun _ => hm, fun _ => hn, fun h => absurd h (by omega), fun h => absurd h (by omega)⟩
        case measure => simp [intOf]
      · have hh : n < -1000000000000 ∨ (-1000000000000 ≤ n ∧ 1000000000000 < n) := by omega
        clear g0 g1 g2 g3 g4 hn
        rcases hh with h | ⟨h0, h⟩
        · go_wp2
          go_ret
          exact ⟨rfl, hB⟩
        · go_wp2
          go_ret
          exact ⟨rfl, hB⟩
    · by_cases hd : -1000000000000 ≤ d ∧ d ≤ 1000000000000
      · have hy := g0 (by omega)
        have hm := g1 (by omega)
        have hn := g2 (by omega)
        obtain ⟨q1, q2⟩ := hd
        have hd : -1000000000000 ≤ d ∧ d ≤ 1000000000000 := ⟨q1, q2⟩
        clear g0 g1 g2 g3 g4
        go_wp2
        go_round
        case rel => exact ⟨4, by omega, rfl, fun _ => hy, fun _ => hm, fun _ => hn, fun _ => hd, fun h => absurd h (by omega)⟩
        case measure => simp [intOf]
      · have hh : d < -1000000000000 ∨ (-1000000000000 ≤ d ∧ 1000000000000 < d) := by omega
        clear g0 g1 g2 g3 g4 hd
        rcases hh with h | ⟨h0, h⟩
        · go_wp2
          go_ret
          exact ⟨rfl, hB⟩
        · go_wp2
          go_ret
          exact ⟨rfl, hB⟩
    · by_cases hs : -1000000000000 ≤ s ∧ s ≤ 1000000000000
      · have hy := g0 (by omega)
        have hm := g1 (by omega)
        have hn := g2 (by omega)
        have hd := g3 (by omega)
        obtain ⟨q1, q2⟩ := hs
        have hs : -1000000000000 ≤ s ∧ s ≤ 1000000000000 := ⟨q1, q2⟩
        clear g0 g1 g2 g3 g4
        go_wp2
        go_round
        case rel => exact ⟨5, by omega, rfl, fun _ => hy, fun _ => hm, fun _ => hn, fun _ => hd, fun _ => hs⟩
        case measure => simp [intOf]
      · have hh : s < -1000000000000 ∨ (-1000000000000 ≤ s ∧ 1000000000000 < s) := by omega
        clear g0 g1 g2 g3 g4 hs
        rcases hh with h | ⟨h0, h⟩
        · go_wp2
          go_ret
          exact ⟨rfl, hB⟩
        · go_wp2
          go_ret
          exact ⟨rfl, hB⟩
    · exact absurd ⟨g0 (by omega), g1 (by omega), g2 (by omega), g3 (by omega), g4 (by omega)⟩ HP.out
set_option maxRecDepth 100000 in
set_option maxHeartbeats 8000000 in
theorem rsmall_ok (y m n d s : Int) (w : World) (hy : -1000000000000 ≤ y ∧ y ≤ 1000000000000) (hm : -1000000000000 ≤ m ∧ m ≤ 1000000000000) (hn : -1000000000000 ≤ n ∧ n ≤ 1000000000000) (hd : -1000000000000 ≤ d ∧ d ≤ 1000000000000) (hs : -1000000000000 ≤ s ∧ s ≤ 1000000000000) :
    Calls Tryz.prog 23 #[.agg #[.int .i64 y, .int .i64 m, .int .i64 n, .int .i64 d, .int .i64 s]] w fun e w' => e = .returned (.bool true) ∧ Below w.heap.size w w' := by
  have hB : Below w.heap.size w ((w.alloc (.cells #[.int .i64 y, .int .i64 m, .int .i64 n, .int .i64 d, .int .i64 s] 24)).alloc (.cells #[.int .i64 y, .int .i64 m, .int .i64 n, .int .i64 d, .int .i64 s] 3)) := ((Below.refl _ w).alloc (Nat.le_refl _) _).alloc (by simp) _
  go_enter Tryz.func23, Tryz.ntmps23
  go_wp2_with fail
  go_loop [17] (fun k => ∃ j : Nat, j ≤ 5 ∧ k = .int .i64 j) (fun k => 5 - (intOf k).toNat)
  case atStart => exact ⟨0, by omega, rfl⟩
  case round =>
    obtain ⟨j, hj, rfl⟩ := hrel
    rcases (show j = 0 ∨ j = 1 ∨ j = 2 ∨ j = 3 ∨ j = 4 ∨ j = 5 by omega) with rfl | rfl | rfl | rfl | rfl | rfl
    · go_wp2
      go_round
      case rel => exact ⟨1, by omega, rfl⟩
      case measure => simp [intOf]
    · go_wp2
      go_round
      case rel => exact ⟨2, by omega, rfl⟩
      case measure => simp [intOf]
    · go_wp2
      go_round
      case rel => exact ⟨3, by omega, rfl⟩
      case measure => simp [intOf]
    · go_wp2
      go_round
      case rel => exact ⟨4, by omega, rfl⟩
      case measure => simp [intOf]
    · go_wp2
      go_round
      case rel => exact ⟨5, by omega, rfl⟩
      case measure => simp [intOf]
    · go_wp2
      go_ret
      exact ⟨rfl, hB⟩
set_option maxHeartbeats 1600000 in
theorem add_great (t y m n d s : Int) (w : World) (hp : ¬ Small y m n d s) :
    Calls Tryz.prog 20 #[.int .i64 t, .agg #[.int .i64 y, .int .i64 m, .int .i64 n, .int .i64 d, .int .i64 s]] w fun e w' => e = .returned (.tuple #[.int .i64 0, .iface 25 (.int .i64 4)]) ∧ Below w.heap.size w w' := by
  have K := hide (fun W => check_no y m n d s W hp)
  have hb0 : Below w.heap.size w (w.alloc (.cells #[.int .i64 y, .int .i64 m, .int .i64 n, .int .i64 d, .int .i64 s] 24)) := (Below.refl _ w).alloc (Nat.le_refl _) _
  clear hp
  go_enter Tryz.func20, Tryz.ntmps20
  go_wp2_with fail
  refine (K.out _).mono ?_
  rintro e X ⟨rfl, hx⟩
  have hB := hb0.trans (hx.mono (by simp))
  clear hx hb0 K
  go_wp2
  go_ret2
  exact ⟨rfl, hB⟩
end Go.Proofs.YtafaacliphdndaaGreatDoor
