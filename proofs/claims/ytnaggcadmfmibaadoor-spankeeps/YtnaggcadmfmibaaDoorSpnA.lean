/- package span: how two spans lie to each other (Of), and plain.SpanOf. -/
import Derived.Test.YtnaggcadmfmibaaDoorBase
import Derived.Test.YtnaggcadmfmibaaDoorTell
import Derived.Test.YtnaggcadmfmibaaDoorSpnM
import Derived.BigQuiet
import Derived.Deep.QuietTactic
import Derived.Deep.RegionWith
import Derived.Deep.RegionHeld3
namespace Go.Proofs.YtnaggcadmfmibaaDoor
open Go.RowKit
set_option linter.unusedVariables false
set_option linter.unusedSimpArgs false

theorem isnan_any (x : Int) (w : World) : Calls Tryd.prog 69 #[.int .i64 x] w fun e w' => e = .returned (.bool false) ∧ w' = w := by
  go_enter Tryd.func69, Tryd.ntmps69
  go_wp2
  go_ret
  exact ⟨by simp, rfl⟩
def cmpI (x y : Int) : Int := if x < y then -1 else if y < x then 1 else 0
theorem cmp_any (x y : Int) (w : World) : Calls Tryd.prog 65 #[.int .i64 x, .int .i64 y] w fun e w' => e = .returned (.int .i64 (cmpI x y)) ∧ w' = w := by
  go_enter Tryd.func65, Tryd.ntmps65
  go_wp2_with (go_at_call 69; refine (isnan_any _ _).mono ?_; rintro e w' ⟨rfl, rfl⟩)
  all_goals
    go_ret
    refine ⟨ret_int ?_, rfl⟩
    unfold cmpI
    first | rw [if_pos (by omega)] | rw [if_neg (by omega), if_pos (by omega)] | rw [if_neg (by omega), if_neg (by omega)]
theorem cmp_any' (x y : Int) (w : World) : Calls Tryd.prog 65 #[.int .i64 x, .int .i64 y] w fun e w' => e = .returned (.int .i64 (cmpI x y)) ∧ Below w.heap.size w w' :=
  (cmp_any x y w).mono fun e w' ⟨h, k⟩ => ⟨h, k ▸ Below.refl _ _⟩
/-- two boxes of two cells -/
theorem twoBox (w : World) (T : TypeId) (v0 v1 v2 v3 : Value) :
    ((((w.alloc (.cells #[v0, v1] T)).alloc (.cells #[v2, v3] T)).cell? ⟨w.heap.size, 0, none⟩ = some v0 ∧ ((w.alloc (.cells #[v0, v1] T)).alloc (.cells #[v2, v3] T)).cell? ⟨w.heap.size, 1, none⟩ = some v1 ∧
      ((w.alloc (.cells #[v0, v1] T)).alloc (.cells #[v2, v3] T)).cell? ⟨w.heap.size + 1, 0, none⟩ = some v2 ∧ ((w.alloc (.cells #[v0, v1] T)).alloc (.cells #[v2, v3] T)).cell? ⟨w.heap.size + 1, 1, none⟩ = some v3)) ∧
    w.heap.size + 1 < ((w.alloc (.cells #[v0, v1] T)).alloc (.cells #[v2, v3] T)).heap.size :=
  ⟨⟨by simp [go_sem], by simp [go_sem], by simp [go_sem], by simp [go_sem]⟩, by simp⟩
def Has4 (B : Nat) (v0 v1 v2 v3 : Value) (X : World) : Prop := X.cell? ⟨B, 0, none⟩ = some v0 ∧ X.cell? ⟨B, 1, none⟩ = some v1 ∧ X.cell? ⟨B + 1, 0, none⟩ = some v2 ∧ X.cell? ⟨B + 1, 1, none⟩ = some v3
theorem held4 {B : Nat} {V X X' : World} {v0 v1 v2 v3 : Value} (h0 : B < V.heap.size) (h1 : B + 1 < V.heap.size) (h : (X.cell? ⟨B, 0, none⟩ = some v0 ∧ X.cell? ⟨B, 1, none⟩ = some v1 ∧ X.cell? ⟨B + 1, 0, none⟩ = some v2 ∧ X.cell? ⟨B + 1, 1, none⟩ = some v3) ∧ Below V.heap.size V X)
    (hx : Below X.heap.size X X') : (X'.cell? ⟨B, 0, none⟩ = some v0 ∧ X'.cell? ⟨B, 1, none⟩ = some v1 ∧ X'.cell? ⟨B + 1, 0, none⟩ = some v2 ∧ X'.cell? ⟨B + 1, 1, none⟩ = some v3) ∧ Below V.heap.size V X' := by
  obtain ⟨⟨g0, g1, g2, g3⟩, hv⟩ := h
  have q0 : B < X.heap.size := Nat.lt_of_lt_of_le h0 hv.size
  have q1 : B + 1 < X.heap.size := Nat.lt_of_lt_of_le h1 hv.size
  exact ⟨⟨(hx.cell (p := ⟨B, 0, none⟩) q0).trans g0, (hx.cell (p := ⟨B, 1, none⟩) q0).trans g1, (hx.cell (p := ⟨B + 1, 0, none⟩) q1).trans g2, (hx.cell (p := ⟨B + 1, 1, none⟩) q1).trans g3⟩, hv.trans (hx.mono hv.size)⟩
/-- what together tells -/
def togI (b e : Int) : Int :=
  if b = -1 then (if e = -1 then 2 else if e = 0 then 7 else 8) else if b = 0 then (if e = -1 then 3 else if e = 0 then 6 else 9) else (if e = -1 then 4 else if e = 0 then 5 else 10)
set_option maxHeartbeats 1000000 in
theorem tog_any (b e : Int) (w : World) (hb : b = -1 ∨ b = 0 ∨ b = 1) (he : e = -1 ∨ e = 0 ∨ e = 1) :
    Calls Tryd.prog 64 #[.int .i64 b, .int .i64 e] w fun r w' => r = .returned (.int .i64 (togI b e)) ∧ Below w.heap.size w w' := by
  rcases hb with rfl | rfl | rfl <;> rcases he with rfl | rfl | rfl
  all_goals
    go_enter Tryd.func64, Tryd.ntmps64
    go_wp2
    go_ret
    exact ⟨ret_int (by decide), (Below.refl _ _).alloc (Nat.le_refl _) _⟩
theorem cmpI_01 (x y : Int) : cmpI x y = -1 ∨ cmpI x y = 0 ∨ cmpI x y = 1 := by
  unfold cmpI
  split
  · simp
  · split <;> simp
theorem togI_way (a b c d : Int) (h1 : ¬ b < c) (h2 : ¬ b = c) (h3 : ¬ a = d) (h4 : ¬ d < a) : togI (cmpI a c) (cmpI b d) = (Spn.way a b c d : Nat) := by
  unfold Spn.way
  rw [if_neg h1, if_neg h2, if_neg h3, if_neg h4]
  rcases Int.lt_trichotomy a c with g | g | g <;> rcases Int.lt_trichotomy b d with f | f | f
  · simp [togI, cmpI, g, f]
  · simp [togI, cmpI, g, f]
  · simp [togI, cmpI, g, f, show ¬ b < d by omega, show ¬ b = d by omega]
  · simp [togI, cmpI, g, f]
  · simp [togI, cmpI, g, f]
  · simp [togI, cmpI, g, f, show ¬ b < d by omega, show ¬ b = d by omega]
  · simp [togI, cmpI, g, f, show ¬ a < c by omega, show ¬ a = c by omega]
  · simp [togI, cmpI, g, f, show ¬ a < c by omega, show ¬ a = c by omega]
  · simp [togI, cmpI, g, f, show ¬ a < c by omega, show ¬ a = c by omega, show ¬ b < d by omega, show ¬ b = d by omega]
set_option maxHeartbeats 1000000 in
theorem way_any (a b c d : Int) (w : World) :
    Calls Tryd.prog 51 #[.agg #[.int .i64 a, .int .i64 b], .agg #[.int .i64 c, .int .i64 d]] w fun e w' => e = .returned (.int .i64 (Spn.way a b c d : Nat)) ∧ Below w.heap.size w w' := by
  have hB : Below w.heap.size w ((w.alloc (.cells #[.int .i64 a, .int .i64 b] 29)).alloc (.cells #[.int .i64 c, .int .i64 d] 29)) := ((Below.refl _ w).alloc (Nat.le_refl _) _).alloc (by simp) _
  have h5 := togI_way a b c d
  have HW : Hid (∀ n : Nat, Spn.way a b c d = n → (Spn.way a b c d : Int) = (n : Int)) := fun n h => by rw [h]
  generalize hR : Spn.way a b c d = R
  have HR := hide hR
  rw [hR] at h5
  have H5 := hide h5
  clear h5 hR
  go_enter Tryd.func51, Tryd.ntmps51
  go_wp2_with fail
  · go_ret
    exact ⟨ret_int (by rw [← HR.out]; unfold Spn.way; rw [if_pos (by assumption)]; rfl), hB⟩
  · go_ret
    have h1 : (b == c) = true := by assumption
    have h1 : b = c := by simpa using h1
    exact ⟨ret_int (by rw [← HR.out]; unfold Spn.way; rw [if_neg (by omega), if_pos h1]; rfl), hB⟩
  · go_ret
    have h1 : (b == c) = false := by assumption
    have h1 : ¬ b = c := by simpa using h1
    have h2 : (a == d) = true := by assumption
    have h2 : a = d := by simpa using h2
    exact ⟨ret_int (by rw [← HR.out]; unfold Spn.way; rw [if_neg (by omega), if_neg h1, if_pos h2]; rfl), hB⟩
  · go_ret
    have h1 : (b == c) = false := by assumption
    have h1 : ¬ b = c := by simpa using h1
    have h2 : (a == d) = false := by assumption
    have h2 : ¬ a = d := by simpa using h2
    exact ⟨ret_int (by rw [← HR.out]; unfold Spn.way; rw [if_neg (by omega), if_neg h1, if_neg h2, if_pos (by assumption)]; rfl), hB⟩
  · have h1 : (b == c) = false := by assumption
    have h1 : ¬ b = c := by simpa using h1
    have h2 : (a == d) = false := by assumption
    have h2 : ¬ a = d := by simpa using h2
    have E := hide (H5.out (by omega) h1 h2 (by omega))
    have c1 := cmpI_01 a c
    have c2 := cmpI_01 b d
    clear h1 h2 H5 HW
    obtain ⟨⟨a0, a1, a2, a3⟩, hsz⟩ := twoBox w 29 (.int .i64 a) (.int .i64 b) (.int .i64 c) (.int .i64 d)
    generalize hV : ((w.alloc (.cells #[.int .i64 a, .int .i64 b] 29)).alloc (.cells #[.int .i64 c, .int .i64 d] 29)) = V at *
    have HB := hide hB
    generalize hb0 : w.heap.size = B at *
    clear hV hB
    have hs0 : B < V.heap.size := by omega
    go_region_held3 (fun X => (X.cell? ⟨B, 0, none⟩ = some (.int .i64 a) ∧ X.cell? ⟨B, 1, none⟩ = some (.int .i64 b) ∧ X.cell? ⟨B + 1, 0, none⟩ = some (.int .i64 c) ∧ X.cell? ⟨B + 1, 1, none⟩ = some (.int .i64 d)) ∧ Below V.heap.size V X)
      (first | (refine ⟨⟨a0, a1, a2, a3⟩, Below.drew (Below.refl _ _)⟩) | (exact held4 hs0 hsz (by assumption) hx))
      (first
        | (go_at_call 65; refine (cmp_any' _ _ _).mono ?_; rintro e X ⟨rfl, hx⟩)
        | (go_at_call 64; refine (tog_any _ _ _ (cmpI_01 _ _) (cmpI_01 _ _)).mono ?_; rintro e X ⟨rfl, hx⟩))
    have hF := (‹(X.cell? ⟨B, 0, none⟩ = _ ∧ _) ∧ _›).2
    clear hx
    go_wp2
    go_ret
    exact ⟨ret_int E.out, by rw [hb0]; exact HB.out.trans (hF.mono (hb0 ▸ HB.out.size))⟩
theorem empty_any (a b : Int) (w : World) : Calls Tryd.prog 29 #[.agg #[.int .i64 a, .int .i64 b]] w fun e w' => e = .returned (.bool (decide (b ≤ a))) ∧ Below w.heap.size w w' := by
  go_enter Tryd.func29, Tryd.ntmps29
  go_wp2
  go_ret
  exact ⟨rfl, (Below.refl _ _).alloc (Nat.le_refl _) _⟩
end Go.Proofs.YtnaggcadmfmibaaDoor
