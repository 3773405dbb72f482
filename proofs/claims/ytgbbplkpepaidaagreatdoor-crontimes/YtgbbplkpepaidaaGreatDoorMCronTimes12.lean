/- package clock: Add, out of what addMonths answers. -/
import Derived.Test.YtgbbplkpepaidaaGreatDoorAs
import Derived.Test.YtgbbplkpepaidaaGreatDoorMCronTimes1
namespace Go.Proofs.YtgbbplkpepaidaaGreatDoor
open Go.RowKit Go.Extern.Stop Go.Stop Go.Extern

/-- package errors' variable holds the handle of the type error -/
def Hd (w : World) : Prop := w.cell? ⟨5, 0, none⟩ = some (.iface 105 (.agg #[.pointer (some ⟨7, 34, none⟩)]))
theorem Hd.pos {w : World} (h : Hd w) : 5 < w.heap.size := World.block_lt_of_cell? _ _ h
theorem Hd.later {w w' : World} (h : Hd w) (hb : Below w.heap.size w w') : Hd w' := by
  have := hb.cell (p := ⟨5, 0, none⟩) h.pos
  unfold Hd at *; rw [this]; exact h

theorem tell_nil (w : World) : Calls Tryz.prog 9 #[.nilIface] w fun e w' => e = .returned (.int .i64 0) ∧ Below w.heap.size w w' := by
  go_enter Tryz.func9, Tryz.ntmps9
  go_wp2
  go_ret
  exact ⟨rfl, (Below.refl _ _).alloc (Nat.le_refl _) _⟩
set_option maxHeartbeats 4000000 in
theorem tell_err (k : Int) (w : World) (h : Hd w) : Calls Tryz.prog 9 #[.iface 27 (.int .i64 k)] w fun e w' => e = .returned (.int .i64 k) ∧ Below w.heap.size w w' := by
  have hgA : (w.alloc (.cells #[.int .i64 0] 27)).cell? ⟨5, 0, none⟩ = some (.iface 105 (.agg #[.pointer (some ⟨7, 34, none⟩)])) := by
    rw [World.cell?_alloc_lt _ _ ⟨5, 0, none⟩ h.pos]; exact h
  have htA : (w.alloc (.cells #[.int .i64 0] 27)).cell? ⟨w.heap.size, 0, none⟩ = some (.int .i64 0) := by simp
  have hfA : (w.alloc (.cells #[.int .i64 0] 27)).frozen? ⟨w.heap.size, 0, none⟩ = false := by simp
  go_enter Tryz.func9, Tryz.ntmps9
  go_wp2_with (go_at_call 20; refine (as_hit k _ (.int .i64 0) _ hgA htA hfA).mono ?_; rintro e w' ⟨rfl, rfl⟩)
  go_ret
  exact ⟨rfl, (((((Below.refl _ w).alloc (Nat.le_refl _) _).alloc (by simp) _).alloc (by simp; omega) _).alloc (by simp; omega) _).alloc (by simp; omega) _⟩
end Go.Proofs.YtgbbplkpepaidaaGreatDoor
namespace Go.Proofs.YtgbbplkpepaidaaGreatDoor
open Go.RowKit
set_option linter.unusedVariables false
set_option linter.unusedSimpArgs false

theorem cmod_any (n b : Int) (w : World) (hb : 0 < b) (hb2 : b ≤ 1000000000) :
    Calls Tryz.prog 33 #[.int .i64 n, .int .i64 b] w fun e w' => e = .returned (.int .i64 (n % b)) ∧ w' = w := by
  obtain ⟨hc, c1, c2⟩ := tmod_cases n b hb
  go_enter Tryz.func33, Tryz.ntmps33
  go_wp2
  all_goals
    go_ret
    refine ⟨ret_int ?_, rfl⟩
    first | omega | (rw [wrap64_id] <;> omega)
theorem cfloor_any (n b : Int) (w : World) (hb : 0 < b) (hb2 : b ≤ 1000000000) (h1 : -9000000000000000000 ≤ n) (h2 : n ≤ 9000000000000000000) :
    Calls Tryz.prog 32 #[.int .i64 n, .int .i64 b] w fun e w' => e = .returned (.int .i64 (n / b)) ∧ w' = w := by
  have hq := tdiv_cases n b hb
  have hd := tdiv_bd n b h1 h2
  have Hq : Hid (n.tdiv b = n / b + (if n.tmod b < 0 then 1 else 0)) := hq
  clear hq
  go_enter Tryz.func32, Tryz.ntmps32
  go_wp2
  all_goals
    go_ret
    refine ⟨ret_int ?_, rfl⟩
    have hq := Hq.out
    split at hq
    all_goals first | omega | (rw [wrap64_id] <;> first | omega | (rw [wrap64_id] <;> omega))
theorem cthere_ok (t : Int) (w : World) (h1 : -345600000000 ≤ t) (h2 : t ≤ 345600086399) :
    Calls Tryz.prog 31 #[.int .i64 t] w fun e w' => e = .returned (.tuple #[.int .i64 t, .nilIface]) ∧ w' = w := by
  go_enter Tryz.func31, Tryz.ntmps31
  go_wp2
  go_ret2
  exact ⟨rfl, rfl⟩
theorem cthere_no (t : Int) (w : World) (h : t < -345600000000 ∨ 345600086399 < t) :
    Calls Tryz.prog 31 #[.int .i64 t] w fun e w' => e = .returned (.tuple #[.int .i64 0, .iface 27 (.int .i64 4)]) ∧ w' = w := by
  have hh : t < -345600000000 ∨ (-345600000000 ≤ t ∧ 345600086399 < t) := by omega
  clear h
  rcases hh with h | ⟨h0, h⟩
  all_goals
    go_enter Tryz.func31, Tryz.ntmps31
    go_wp2
    go_ret2
    exact ⟨rfl, rfl⟩
/-- what behindMidnight and ifThere answer -/
def tval (t : Int) : Value := .tuple #[.int .i64 (if t < -345600000000 ∨ 345600086399 < t then 0 else t), if t < -345600000000 ∨ 345600086399 < t then .iface 27 (.int .i64 4) else .nilIface]
theorem tval_ok (t : Int) (h1 : -345600000000 ≤ t) (h2 : t ≤ 345600086399) : tval t = .tuple #[.int .i64 t, .nilIface] := by unfold tval; rw [if_neg (by omega), if_neg (by omega)]
theorem tval_no (t : Int) (h : t < -345600000000 ∨ 345600086399 < t) : tval t = .tuple #[.int .i64 0, .iface 27 (.int .i64 4)] := by unfold tval; rw [if_pos h, if_pos h]
theorem cthere_any (t : Int) (w : World) : Calls Tryz.prog 31 #[.int .i64 t] w fun e w' => e = .returned (tval t) ∧ w' = w := by
  by_cases h : t < -345600000000 ∨ 345600086399 < t
  · rw [tval_no t h]; exact cthere_no t w h
  · rw [tval_ok t (by omega) (by omega)]; exact cthere_ok t w (by omega) (by omega)
theorem split_ok (t : Int) (w : World) (h1 : -345600000000 ≤ t) (h2 : t ≤ 345600086399) :
    Calls Tryz.prog 16 #[.int .i64 t] w fun e w' => e = .returned (.tuple #[.int .i64 (t / 86400), .int .i64 (t % 86400), .nilIface]) ∧ w' = w := by
  have KT := hide (fun W => cthere_ok t W h1 h2)
  go_enter Tryz.func16, Tryz.ntmps16
  go_wp2_with (first | (go_at_call 31; refine (KT.out _).mono ?_; rintro e w' ⟨rfl, rfl⟩) | (go_at_call 32; refine (cfloor_any _ _ _ (by omega) (by omega) (by omega) (by omega)).mono ?_; rintro e w' ⟨rfl, rfl⟩) | (go_at_call 33; refine (cmod_any _ _ _ (by omega) (by omega)).mono ?_; rintro e w' ⟨rfl, rfl⟩))
  exact bodyPost_ret (v := .tuple #[.int .i64 (t / 86400), .int .i64 (t % 86400), .nilIface]) (by simp [results, Tryz.results16, go_sem]) rfl ⟨rfl, rfl⟩
theorem split_no (t : Int) (w : World) (h : t < -345600000000 ∨ 345600086399 < t) :
    Calls Tryz.prog 16 #[.int .i64 t] w fun e w' => e = .returned (.tuple #[.int .i64 0, .int .i64 0, .iface 27 (.int .i64 4)]) ∧ w' = w := by
  have KT := hide (fun W => cthere_no t W h)
  clear h
  go_enter Tryz.func16, Tryz.ntmps16
  go_wp2_with (go_at_call 31; refine (KT.out _).mono ?_; rintro e w' ⟨rfl, rfl⟩)
  exact bodyPost_ret (v := .tuple #[.int .i64 0, .int .i64 0, .iface 27 (.int .i64 4)]) (by simp [results, Tryz.results16, go_sem]) rfl ⟨rfl, rfl⟩
/-- what a clock shows so many seconds from midnight on -/
def clk (s : Int) : Value := .agg #[.int .i64 (s / 3600), .int .i64 (s % 3600 / 60), .int .i64 (s % 60)]
end Go.Proofs.YtgbbplkpepaidaaGreatDoor
namespace Go.Proofs.YtgbbplkpepaidaaGreatDoor
open Go.RowKit
set_option linter.unusedVariables false
set_option linter.unusedSimpArgs false

theorem box4 (W X : World) (T : TypeId) (v0 v1 v2 v3 : Value) (hb : Below (W.alloc (.cells #[v0, v1, v2, v3] T)).heap.size (W.alloc (.cells #[v0, v1, v2, v3] T)) X) :
    (X.cell? ⟨W.heap.size, 0, none⟩ = some v0 ∧ X.cell? ⟨W.heap.size, 1, none⟩ = some v1 ∧ X.cell? ⟨W.heap.size, 2, none⟩ = some v2 ∧ X.cell? ⟨W.heap.size, 3, none⟩ = some v3) ∧ (∀ j, X.frozen? ⟨W.heap.size, j, none⟩ = false) ∧ W.heap.size < X.heap.size := by
  refine ⟨⟨?_, ?_, ?_, ?_⟩, fun j => ?_, by have := hb.size; simp at this; omega⟩
  · rw [hb.cell (p := ⟨W.heap.size, 0, none⟩) (by simp)]; simp
  · rw [hb.cell (p := ⟨W.heap.size, 1, none⟩) (by simp)]; simp
  · rw [hb.cell (p := ⟨W.heap.size, 2, none⟩) (by simp)]; simp
  · rw [hb.cell (p := ⟨W.heap.size, 3, none⟩) (by simp)]; simp
  · rw [hb.frozen (p := ⟨W.heap.size, j, none⟩) (by simp)]; simp
end Go.Proofs.YtgbbplkpepaidaaGreatDoor
namespace Go.Proofs.YtgbbplkpepaidaaGreatDoor
open Go.RowKit
set_option linter.unusedVariables false
set_option linter.unusedSimpArgs false

/-- may a period's parts be? -/
def Small (y m n d s : Int) : Prop := (-1000000000000 ≤ y ∧ y ≤ 1000000000000) ∧ (-1000000000000 ≤ m ∧ m ≤ 1000000000000) ∧ (-1000000000000 ≤ n ∧ n ≤ 1000000000000) ∧ (-1000000000000 ≤ d ∧ d ≤ 1000000000000) ∧ (-1000000000000 ≤ s ∧ s ≤ 1000000000000)
theorem box5 (W X : World) (T : TypeId) (v0 v1 v2 v3 v4 : Value) (hb : Below (W.alloc (.cells #[v0, v1, v2, v3, v4] T)).heap.size (W.alloc (.cells #[v0, v1, v2, v3, v4] T)) X) :
    (X.cell? ⟨W.heap.size, 0, none⟩ = some v0 ∧ X.cell? ⟨W.heap.size, 1, none⟩ = some v1 ∧ X.cell? ⟨W.heap.size, 2, none⟩ = some v2 ∧ X.cell? ⟨W.heap.size, 3, none⟩ = some v3 ∧ X.cell? ⟨W.heap.size, 4, none⟩ = some v4) ∧ (∀ j, X.frozen? ⟨W.heap.size, j, none⟩ = false) ∧ W.heap.size < X.heap.size := by
  refine ⟨⟨?_, ?_, ?_, ?_, ?_⟩, fun j => ?_, by have := hb.size; simp at this; omega⟩
  · rw [hb.cell (p := ⟨W.heap.size, 0, none⟩) (by simp)]; simp
  · rw [hb.cell (p := ⟨W.heap.size, 1, none⟩) (by simp)]; simp
  · rw [hb.cell (p := ⟨W.heap.size, 2, none⟩) (by simp)]; simp
  · rw [hb.cell (p := ⟨W.heap.size, 3, none⟩) (by simp)]; simp
  · rw [hb.cell (p := ⟨W.heap.size, 4, none⟩) (by simp)]; simp
  · rw [hb.frozen (p := ⟨W.heap.size, j, none⟩) (by simp)]; simp
end Go.Proofs.YtgbbplkpepaidaaGreatDoor
