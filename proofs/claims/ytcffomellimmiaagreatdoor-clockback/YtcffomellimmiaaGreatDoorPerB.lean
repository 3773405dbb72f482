/- package clock: PeriodText. -/
import Derived.Test.YtcffomellimmiaaGreatDoorPerA
import Derived.Test.YtcffomellimmiaaGreatDoorClockJ
namespace Go.Proofs.YtcffomellimmiaaGreatDoor
open Go.RowKit Go.Shelf
set_option linter.unusedVariables false
set_option linter.unusedSimpArgs false

/-- a period's text, none of whose parts is below 0 -/
def pbody (y m n d s : Nat) : ByteArray :=
  if s = 0 then ⟨#[80]⟩ ++ pt y 89 ++ pt m 77 ++ pt n 87 ++ pt d 68 else ⟨#[80]⟩ ++ pt y 89 ++ pt m 77 ++ pt n 87 ++ pt d 68 ++ ⟨#[84]⟩ ++ pt (s / 3600) 72 ++ pt (s % 3600 / 60) 77 ++ pt (s % 60) 83
theorem pbody_size (y m n d s : Nat) (h1 : y ≤ 1000000000000) (h2 : m ≤ 1000000000000) (h3 : n ≤ 1000000000000) (h4 : d ≤ 1000000000000) (h5 : s ≤ 1000000000000) : (pbody y m n d s).size ≤ 200 := by
  have z1 := pt_size y 89 h1
  have z2 := pt_size m 77 h2
  have z3 := pt_size n 87 h3
  have z4 := pt_size d 68 h4
  have z5 := pt_size (s / 3600) 72 (by omega)
  have z6 := pt_size (s % 3600 / 60) 77 (by omega)
  have z7 := pt_size (s % 60) 83 (by omega)
  have q1 : (⟨#[80]⟩ : ByteArray).size = 1 := rfl
  have q2 : (⟨#[84]⟩ : ByteArray).size = 1 := rfl
  unfold pbody
  split
  · simp only [ByteArray.size_append, q1]; omega
  · simp only [ByteArray.size_append, q1, q2]; omega
theorem partsText_any (y m n d s : Nat) (w : World) (ht : Tab w) (h1 : y ≤ 1000000000000) (h2 : m ≤ 1000000000000) (h3 : n ≤ 1000000000000) (h4 : d ≤ 1000000000000) (h5 : s ≤ 1000000000000) :
    Calls Tryz.prog 52 #[.agg #[.int .i64 y, .int .i64 m, .int .i64 n, .int .i64 d, .int .i64 s]] w fun e w' => e = .returned (.string (pbody y m n d s)) ∧ Below w.heap.size w w' := by
  by_cases h0 : s = 0
  · subst h0
    have e : pbody y m n d 0 = ⟨#[80]⟩ ++ pt y 89 ++ pt m 77 ++ pt n 87 ++ pt d 68 := by unfold pbody; rw [if_pos rfl]
    rw [e]
    exact partsText_days y m n d w ht h1 h2 h3 h4
  · have e : pbody y m n d s = ⟨#[80]⟩ ++ pt y 89 ++ pt m 77 ++ pt n 87 ++ pt d 68 ++ ⟨#[84]⟩ ++ pt (s / 3600) 72 ++ pt (s % 3600 / 60) 77 ++ pt (s % 60) 83 := by unfold pbody; rw [if_neg h0]
    rw [e]
    exact partsText_secs y m n d s _ _ _ w ht h1 h2 h3 h4 (by omega) (by omega) (by omega) (by omega) (by omega)
theorem turned_any (y m n d s : Int) (w : World) (hy : -1000000000000 ≤ y ∧ y ≤ 1000000000000) (hm : -1000000000000 ≤ m ∧ m ≤ 1000000000000) (hn : -1000000000000 ≤ n ∧ n ≤ 1000000000000) (hd : -1000000000000 ≤ d ∧ d ≤ 1000000000000) (hs : -1000000000000 ≤ s ∧ s ≤ 1000000000000) :
    Calls Tryz.prog 53 #[.agg #[.int .i64 y, .int .i64 m, .int .i64 n, .int .i64 d, .int .i64 s]] w fun e w' => e = .returned (.agg #[.int .i64 (-y), .int .i64 (-m), .int .i64 (-n), .int .i64 (-d), .int .i64 (-s)]) ∧ Below w.heap.size w w' := by
  go_enter Tryz.func53, Tryz.ntmps53
  go_wp2
  exact bodyPost_ret (v := .agg #[.int .i64 (-y), .int .i64 (-m), .int .i64 (-n), .int .i64 (-d), .int .i64 (-s)]) (by simp [results, Tryz.results53, go_sem]) rfl ⟨rfl, by repeat (first | exact (Below.refl _ w).alloc (Nat.le_refl _) _ | refine Below.alloc ?_ (by simp) _ | refine Below.setCell ?_ (by simp) _)⟩
set_option maxHeartbeats 1600000 in
theorem ptext_no (y m n d s : Int) (w : World) (hp : ¬ Small y m n d s) :
    Calls Tryz.prog 32 #[.agg #[.int .i64 y, .int .i64 m, .int .i64 n, .int .i64 d, .int .i64 s]] w fun e w' => e = .returned (.tuple #[.string ⟨#[]⟩, ev 4]) ∧ Below w.heap.size w w' := by
  have K := hide (fun W => check_no y m n d s W hp)
  clear hp
  go_enter Tryz.func32, Tryz.ntmps32
  go_wp2_with fail
  refine (K.out _).mono ?_
  rintro e W ⟨rfl, hb⟩
  have hB := ((Below.refl _ w).alloc (Nat.le_refl _) _).trans (hb.mono (by simp))
  go_wp2_with fail
  go_ret2
  exact ⟨rfl, hB⟩
set_option maxHeartbeats 1600000 in
theorem ptext_zero (w : World) :
    Calls Tryz.prog 32 #[.agg #[.int .i64 0, .int .i64 0, .int .i64 0, .int .i64 0, .int .i64 0]] w fun e w' => e = .returned (.tuple #[.string ⟨#[80, 84, 48, 83]⟩, .nilIface]) ∧ Below w.heap.size w w' := by
  have K := hide (fun W => check_ok 0 0 0 0 0 W (by omega) (by omega) (by omega) (by omega) (by omega))
  go_enter Tryz.func32, Tryz.ntmps32
  go_wp2_with fail
  refine (K.out _).mono ?_
  rintro e W ⟨rfl, hb⟩
  obtain ⟨⟨a0, a1, a2, a3, a4⟩, fz, hsz⟩ := box5 w W _ _ _ _ _ _ hb
  have hB := ((Below.refl _ w).alloc (Nat.le_refl _) _).trans (hb.mono (by simp))
  clear hb
  go_wp2_with fail
  go_ret2
  exact ⟨rfl, hB⟩
end Go.Proofs.YtcffomellimmiaaGreatDoor
