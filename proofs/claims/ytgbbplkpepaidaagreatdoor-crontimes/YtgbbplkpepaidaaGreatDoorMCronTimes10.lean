/- The reference's months, first days and rounds. -/
import Derived.Test.YtgbbplkpepaidaaGreatDoorMCronTimes8
namespace Go.Proofs.YtgbbplkpepaidaaGreatDoor
open Go.RowKit Go.Shelf

theorem row_new' (X : World) (L : List Int) (T : TypeId) : Row L X.heap.size (X.alloc (.cells (L.map (Value.int .i64)).toArray T)) := by
  intro i hi
  rw [World.cell?_alloc_at _ _ _ _ rfl]
  simp [hi]

/-- a new slice that holds the lengths of the months of a year -/
def IsLens (c y : Int) (w : World) (e : Ending) (w' : World) : Prop :=
  ∃ b cap, e = .returned (.slice (some ⟨b, 0, none⟩) (Alm.lens c y).length cap) ∧ Row (Alm.lens c y) b w' ∧ (Alm.lens c y).length ≤ cap ∧ cap ≤ maxLen ∧ w.heap.size ≤ b ∧ Below w.heap.size w w'
theorem isLens_mk (c y : Int) (w : World) (L : List Int) (h : Alm.lens c y = L) (hn : L.length ≤ 100000) : IsLens c y w (.returned (.slice (some ⟨w.heap.size, 0, none⟩) L.length L.length)) (w.alloc (.cells (L.map (Value.int .i64)).toArray 3)) := by
  subst h
  exact ⟨w.heap.size, _, rfl, row_new' w _ _, Nat.le_refl _, by unfold maxLen; omega, Nat.le_refl _, (Below.refl _ w).alloc (Nat.le_refl _) _⟩
theorem lens_1 (y : Int) (w : World) (y1 : -100000 ≤ y) (y2 : y ≤ 100000) : Calls Tryz.prog 26 #[.int .i64 1, .int .i64 y] w (IsLens 1 y w) := by
  have hl := fun W => leapYear_any 1 y W y1 y2
  cases hi : Alm.leap 1 y
  · rw [hi] at hl
    have he : Alm.l01 1 y = 0 := by unfold Alm.l01; rw [hi]; rfl
    have He := hide (show Alm.lens 1 y = [31, 28, 31, 30, 31, 30, 31, 31, 30, 31, 30, 31] by unfold Alm.lens; rw [he]; rfl)
    clear he
    go_enter Tryz.func26, Tryz.ntmps26
    go_wp2_with (go_at_call 44; refine (hl _).mono ?_; rintro e w' ⟨rfl, rfl⟩)
    go_ret
    exact isLens_mk 1 y _ [31, 28, 31, 30, 31, 30, 31, 31, 30, 31, 30, 31] He.out (by decide)
  · rw [hi] at hl
    have he : Alm.l01 1 y = 1 := by unfold Alm.l01; rw [hi]; rfl
    have He := hide (show Alm.lens 1 y = [31, 29, 31, 30, 31, 30, 31, 31, 30, 31, 30, 31] by unfold Alm.lens; rw [he]; rfl)
    clear he
    go_enter Tryz.func26, Tryz.ntmps26
    go_wp2_with (go_at_call 44; refine (hl _).mono ?_; rintro e w' ⟨rfl, rfl⟩)
    go_ret
    exact isLens_mk 1 y _ [31, 29, 31, 30, 31, 30, 31, 31, 30, 31, 30, 31] He.out (by decide)
theorem lens_2 (y : Int) (w : World) (y1 : -100000 ≤ y) (y2 : y ≤ 100000) : Calls Tryz.prog 26 #[.int .i64 2, .int .i64 y] w (IsLens 2 y w) := by
  have hl := fun W => leapYear_any 2 y W y1 y2
  cases hi : Alm.leap 2 y
  · rw [hi] at hl
    have he : Alm.l01 2 y = 0 := by unfold Alm.l01; rw [hi]; rfl
    have He := hide (show Alm.lens 2 y = [31, 28, 31, 30, 31, 30, 31, 31, 30, 31, 30, 31] by unfold Alm.lens; rw [he]; rfl)
    clear he
    go_enter Tryz.func26, Tryz.ntmps26
    go_wp2_with (go_at_call 44; refine (hl _).mono ?_; rintro e w' ⟨rfl, rfl⟩)
    go_ret
    exact isLens_mk 2 y _ [31, 28, 31, 30, 31, 30, 31, 31, 30, 31, 30, 31] He.out (by decide)
  · rw [hi] at hl
    have he : Alm.l01 2 y = 1 := by unfold Alm.l01; rw [hi]; rfl
    have He := hide (show Alm.lens 2 y = [31, 29, 31, 30, 31, 30, 31, 31, 30, 31, 30, 31] by unfold Alm.lens; rw [he]; rfl)
    clear he
    go_enter Tryz.func26, Tryz.ntmps26
    go_wp2_with (go_at_call 44; refine (hl _).mono ?_; rintro e w' ⟨rfl, rfl⟩)
    go_ret
    exact isLens_mk 2 y _ [31, 29, 31, 30, 31, 30, 31, 31, 30, 31, 30, 31] He.out (by decide)
theorem lens_3 (y : Int) (w : World) (y1 : -100000 ≤ y) (y2 : y ≤ 100000) : Calls Tryz.prog 26 #[.int .i64 3, .int .i64 y] w (IsLens 3 y w) := by
  have hl := fun W => leapYear_any 3 y W y1 y2
  cases hi : Alm.leap 3 y
  · rw [hi] at hl
    have he : Alm.l01 3 y = 0 := by unfold Alm.l01; rw [hi]; rfl
    have He := hide (show Alm.lens 3 y = [30, 30, 30, 30, 30, 30, 30, 30, 30, 30, 30, 30, 5] by unfold Alm.lens; rw [he]; rfl)
    clear he
    go_enter Tryz.func26, Tryz.ntmps26
    go_wp2_with (go_at_call 44; refine (hl _).mono ?_; rintro e w' ⟨rfl, rfl⟩)
    go_ret
    exact isLens_mk 3 y _ [30, 30, 30, 30, 30, 30, 30, 30, 30, 30, 30, 30, 5] He.out (by decide)
  · rw [hi] at hl
    have he : Alm.l01 3 y = 1 := by unfold Alm.l01; rw [hi]; rfl
    have He := hide (show Alm.lens 3 y = [30, 30, 30, 30, 30, 30, 30, 30, 30, 30, 30, 30, 6] by unfold Alm.lens; rw [he]; rfl)
    clear he
    go_enter Tryz.func26, Tryz.ntmps26
    go_wp2_with (go_at_call 44; refine (hl _).mono ?_; rintro e w' ⟨rfl, rfl⟩)
    go_ret
    exact isLens_mk 3 y _ [30, 30, 30, 30, 30, 30, 30, 30, 30, 30, 30, 30, 6] He.out (by decide)
theorem lens_4 (y : Int) (w : World) (y1 : -100000 ≤ y) (y2 : y ≤ 100000) : Calls Tryz.prog 26 #[.int .i64 4, .int .i64 y] w (IsLens 4 y w) := by
  have hl := fun W => leapYear_any 4 y W y1 y2
  cases hi : Alm.leap 4 y
  · rw [hi] at hl
    have he : Alm.l01 4 y = 0 := by unfold Alm.l01; rw [hi]; rfl
    have He := hide (show Alm.lens 4 y = [30, 30, 30, 30, 30, 30, 30, 30, 30, 30, 30, 30, 5] by unfold Alm.lens; rw [he]; rfl)
    clear he
    go_enter Tryz.func26, Tryz.ntmps26
    go_wp2_with (go_at_call 44; refine (hl _).mono ?_; rintro e w' ⟨rfl, rfl⟩)
    go_ret
    exact isLens_mk 4 y _ [30, 30, 30, 30, 30, 30, 30, 30, 30, 30, 30, 30, 5] He.out (by decide)
  · rw [hi] at hl
    have he : Alm.l01 4 y = 1 := by unfold Alm.l01; rw [hi]; rfl
    have He := hide (show Alm.lens 4 y = [30, 30, 30, 30, 30, 30, 30, 30, 30, 30, 30, 30, 6] by unfold Alm.lens; rw [he]; rfl)
    clear he
    go_enter Tryz.func26, Tryz.ntmps26
    go_wp2_with (go_at_call 44; refine (hl _).mono ?_; rintro e w' ⟨rfl, rfl⟩)
    go_ret
    exact isLens_mk 4 y _ [30, 30, 30, 30, 30, 30, 30, 30, 30, 30, 30, 30, 6] He.out (by decide)
theorem lens_5 (y : Int) (w : World) (y1 : -100000 ≤ y) (y2 : y ≤ 100000) : Calls Tryz.prog 26 #[.int .i64 5, .int .i64 y] w (IsLens 5 y w) := by
  have hl := fun W => leapYear_any 5 y W y1 y2
  cases hi : Alm.leap 5 y
  · rw [hi] at hl
    have he : Alm.l01 5 y = 0 := by unfold Alm.l01; rw [hi]; rfl
    have He := hide (show Alm.lens 5 y = [30, 29, 30, 29, 30, 29, 30, 29, 30, 29, 30, 29] by unfold Alm.lens; rw [he]; rfl)
    clear he
    go_enter Tryz.func26, Tryz.ntmps26
    go_wp2_with (go_at_call 44; refine (hl _).mono ?_; rintro e w' ⟨rfl, rfl⟩)
    go_ret
    exact isLens_mk 5 y _ [30, 29, 30, 29, 30, 29, 30, 29, 30, 29, 30, 29] He.out (by decide)
  · rw [hi] at hl
    have he : Alm.l01 5 y = 1 := by unfold Alm.l01; rw [hi]; rfl
    have He := hide (show Alm.lens 5 y = [30, 29, 30, 29, 30, 29, 30, 29, 30, 29, 30, 30] by unfold Alm.lens; rw [he]; rfl)
    clear he
    go_enter Tryz.func26, Tryz.ntmps26
    go_wp2_with (go_at_call 44; refine (hl _).mono ?_; rintro e w' ⟨rfl, rfl⟩)
    go_ret
    exact isLens_mk 5 y _ [30, 29, 30, 29, 30, 29, 30, 29, 30, 29, 30, 30] He.out (by decide)
theorem lens_6 (y : Int) (w : World) (y1 : -100000 ≤ y) (y2 : y ≤ 100000) : Calls Tryz.prog 26 #[.int .i64 6, .int .i64 y] w (IsLens 6 y w) := by
  have hl := fun W => leapYear_any 6 y W y1 y2
  cases hi : Alm.leap 6 y
  · rw [hi] at hl
    have he : Alm.l01 6 y = 0 := by unfold Alm.l01; rw [hi]; rfl
    have He := hide (show Alm.lens 6 y = [31, 31, 31, 31, 31, 31, 30, 30, 30, 30, 30, 29] by unfold Alm.lens; rw [he]; rfl)
    clear he
    go_enter Tryz.func26, Tryz.ntmps26
    go_wp2_with (go_at_call 44; refine (hl _).mono ?_; rintro e w' ⟨rfl, rfl⟩)
    go_ret
    exact isLens_mk 6 y _ [31, 31, 31, 31, 31, 31, 30, 30, 30, 30, 30, 29] He.out (by decide)
  · rw [hi] at hl
    have he : Alm.l01 6 y = 1 := by unfold Alm.l01; rw [hi]; rfl
    have He := hide (show Alm.lens 6 y = [31, 31, 31, 31, 31, 31, 30, 30, 30, 30, 30, 30] by unfold Alm.lens; rw [he]; rfl)
    clear he
    go_enter Tryz.func26, Tryz.ntmps26
    go_wp2_with (go_at_call 44; refine (hl _).mono ?_; rintro e w' ⟨rfl, rfl⟩)
    go_ret
    exact isLens_mk 6 y _ [31, 31, 31, 31, 31, 31, 30, 30, 30, 30, 30, 30] He.out (by decide)
theorem lens_8 (y : Int) (w : World) (y1 : -100000 ≤ y) (y2 : y ≤ 100000) : Calls Tryz.prog 26 #[.int .i64 8, .int .i64 y] w (IsLens 8 y w) := by
  have hl := fun W => leapYear_any 8 y W y1 y2
  cases hi : Alm.leap 8 y
  · rw [hi] at hl
    have he : Alm.l01 8 y = 0 := by unfold Alm.l01; rw [hi]; rfl
    have He := hide (show Alm.lens 8 y = [30, 31, 31, 31, 31, 31, 30, 30, 30, 30, 30, 30] by unfold Alm.lens; rw [he]; rfl)
    clear he
    go_enter Tryz.func26, Tryz.ntmps26
    go_wp2_with (go_at_call 44; refine (hl _).mono ?_; rintro e w' ⟨rfl, rfl⟩)
    go_ret
    exact isLens_mk 8 y _ [30, 31, 31, 31, 31, 31, 30, 30, 30, 30, 30, 30] He.out (by decide)
  · rw [hi] at hl
    have he : Alm.l01 8 y = 1 := by unfold Alm.l01; rw [hi]; rfl
    have He := hide (show Alm.lens 8 y = [31, 31, 31, 31, 31, 31, 30, 30, 30, 30, 30, 30] by unfold Alm.lens; rw [he]; rfl)
    clear he
    go_enter Tryz.func26, Tryz.ntmps26
    go_wp2_with (go_at_call 44; refine (hl _).mono ?_; rintro e w' ⟨rfl, rfl⟩)
    go_ret
    exact isLens_mk 8 y _ [31, 31, 31, 31, 31, 31, 30, 30, 30, 30, 30, 30] He.out (by decide)
theorem lens_9 (y : Int) (w : World) (y1 : -100000 ≤ y) (y2 : y ≤ 100000) : Calls Tryz.prog 26 #[.int .i64 9, .int .i64 y] w (IsLens 9 y w) := by
  have hl := fun W => leapYear_any 9 y W y1 y2
  cases hi : Alm.leap 9 y
  · rw [hi] at hl
    have he : Alm.l01 9 y = 0 := by unfold Alm.l01; rw [hi]; rfl
    have He := hide (show Alm.lens 9 y = [30, 30, 30, 30, 30, 30, 30, 30, 30, 30, 30, 30, 5] by unfold Alm.lens; rw [he]; rfl)
    clear he
    go_enter Tryz.func26, Tryz.ntmps26
    go_wp2_with (go_at_call 44; refine (hl _).mono ?_; rintro e w' ⟨rfl, rfl⟩)
    go_ret
    exact isLens_mk 9 y _ [30, 30, 30, 30, 30, 30, 30, 30, 30, 30, 30, 30, 5] He.out (by decide)
  · rw [hi] at hl
    have he : Alm.l01 9 y = 1 := by unfold Alm.l01; rw [hi]; rfl
    have He := hide (show Alm.lens 9 y = [30, 30, 30, 30, 30, 30, 30, 30, 30, 30, 30, 30, 6] by unfold Alm.lens; rw [he]; rfl)
    clear he
    go_enter Tryz.func26, Tryz.ntmps26
    go_wp2_with (go_at_call 44; refine (hl _).mono ?_; rintro e w' ⟨rfl, rfl⟩)
    go_ret
    exact isLens_mk 9 y _ [30, 30, 30, 30, 30, 30, 30, 30, 30, 30, 30, 30, 6] He.out (by decide)
theorem lens_10 (y : Int) (w : World) (y1 : -100000 ≤ y) (y2 : y ≤ 100000) : Calls Tryz.prog 26 #[.int .i64 10, .int .i64 y] w (IsLens 10 y w) := by
  have hl := fun W => leapYear_any 10 y W y1 y2
  cases hi : Alm.leap 10 y
  · rw [hi] at hl
    have he : Alm.l01 10 y = 0 := by unfold Alm.l01; rw [hi]; rfl
    have He := hide (show Alm.lens 10 y = [30, 30, 30, 30, 30, 30, 30, 30, 30, 30, 30, 30, 5] by unfold Alm.lens; rw [he]; rfl)
    clear he
    go_enter Tryz.func26, Tryz.ntmps26
    go_wp2_with (go_at_call 44; refine (hl _).mono ?_; rintro e w' ⟨rfl, rfl⟩)
    go_ret
    exact isLens_mk 10 y _ [30, 30, 30, 30, 30, 30, 30, 30, 30, 30, 30, 30, 5] He.out (by decide)
  · rw [hi] at hl
    have he : Alm.l01 10 y = 1 := by unfold Alm.l01; rw [hi]; rfl
    have He := hide (show Alm.lens 10 y = [30, 30, 30, 30, 30, 30, 30, 30, 30, 30, 30, 30, 6] by unfold Alm.lens; rw [he]; rfl)
    clear he
    go_enter Tryz.func26, Tryz.ntmps26
    go_wp2_with (go_at_call 44; refine (hl _).mono ?_; rintro e w' ⟨rfl, rfl⟩)
    go_ret
    exact isLens_mk 10 y _ [30, 30, 30, 30, 30, 30, 30, 30, 30, 30, 30, 30, 6] He.out (by decide)

end Go.Proofs.YtgbbplkpepaidaaGreatDoor
