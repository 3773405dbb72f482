/- The Maya: how many days a day is behind the beginning of their count, and the name of the round. -/
import Derived.Test.YtcidhedmbcoafaaDoorDaysKeep
namespace Go.Proofs.YtcidhedmbcoafaaDoor
open Go.RowKit Go.Shelf
set_option linter.unusedVariables false
set_option linter.unusedSimpArgs false

theorem count_ok (day : Int) (w : World) (d1 : -1856305 ≤ day) (d2 : day ≤ 4000000) :
    Calls Tryd.prog 82 #[.int .i64 day] w fun e w' => e = .returned (.tuple #[.int .i64 (day + 1856305), .nilIface]) ∧ w' = w := by
  go_enter Tryd.func82, Tryd.ntmps82
  go_wp2_with (go_at_call 72; refine (checkDay_ok day _ (by omega) d2).mono ?_; rintro e w' ⟨rfl, rfl⟩)
  go_ret2
  exact ⟨by simp, rfl⟩
theorem count_no (day : Int) (w : World) (h : day < -1856305 ∨ 4000000 < day) :
    Calls Tryd.prog 82 #[.int .i64 day] w fun e w' => e = .returned (.tuple #[.int .i64 0, .iface 23 (.int .i64 4)]) ∧ w' = w := by
  by_cases h0 : day < -1856305
  · clear h
    go_enter Tryd.func82, Tryd.ntmps82
    go_wp2
    go_ret2
    exact ⟨rfl, rfl⟩
  · have h1 : 4000000 < day := by omega
    have h2 : -1856305 ≤ day := by omega
    clear h h0
    go_enter Tryd.func82, Tryd.ntmps82
    go_wp2_with (go_at_call 72; refine (checkDay_no day _ (Or.inr h1)).mono ?_; rintro e w' ⟨rfl, rfl⟩)
    go_ret2
    exact ⟨rfl, rfl⟩
/-- the round's name -/
def rname (n : Int) : Value := .agg #[.int .i64 (1 + (n + 348) % 365 / 20), .int .i64 ((n + 348) % 365 % 20), .int .i64 (1 + (n + 3) % 13), .int .i64 (1 + (n + 19) % 20)]
set_option maxHeartbeats 800000 in
theorem round_any (n : Int) (w : World) (n1 : 0 ≤ n) (n2 : n ≤ 10000000) :
    Calls Tryd.prog 83 #[.int .i64 n] w fun e w' => e = .returned (rname n) ∧ Below w.heap.size w w' := by
  go_enter Tryd.func83, Tryd.ntmps83
  go_wp2
  exact bodyPost_ret (v := rname n) (by simp [results, Tryd.results83, go_sem, rname]) rfl ⟨rfl, (Below.refl _ w).alloc (Nat.le_refl _) _⟩
theorem req_guard (x y : Operand) (a0 a1 a2 a3 r0 r1 r2 r3 : Int) (W : World) :
    Sem.run Tryd.prog (eqGuard BinOp.eql 46 x y (.agg #[.int .i64 a0, .int .i64 a1, .int .i64 a2, .int .i64 a3]) (.agg #[.int .i64 r0, .int .i64 r1, .int .i64 r2, .int .i64 r3])) W = .ok () W := by
  kernel_rfl
set_option maxRecDepth 100000 in
theorem req_bin (a0 a1 a2 a3 r0 r1 r2 r3 : Int) (W : World) :
    Sem.run Tryd.prog (binOp BinOp.eql 46 (.agg #[.int .i64 a0, .int .i64 a1, .int .i64 a2, .int .i64 a3]) (.agg #[.int .i64 r0, .int .i64 r1, .int .i64 r2, .int .i64 r3])) W = .ok (.bool (a0 == r0 && a1 == r1 && a2 == r2 && a3 == r3)) W := by
  (by_cases h0 : a0 = r0 <;> by_cases h1 : a1 = r1 <;> by_cases h2 : a2 = r2 <;> by_cases h3 : a3 = r3 <;> simp [go_sem, *]
    )

/-- is the round called so? -/
def rq (n r0 r1 r2 r3 : Int) : Bool := (1 + (n + 348) % 365 / 20 == r0 && (n + 348) % 365 % 20 == r1 && 1 + (n + 3) % 13 == r2 && 1 + (n + 19) % 20 == r3)
theorem name_calls (n r0 r1 r2 r3 : Int) (n1 : 0 ≤ n) (n2 : n ≤ 10000000) : ∃ V : Value, (∀ x w, x = n → Calls Tryd.prog 83 #[.int .i64 x] w fun e w' => e = .returned V ∧ Below w.heap.size w w') ∧
    (∀ W x y, Sem.run Tryd.prog (eqGuard BinOp.eql 46 x y V (.agg #[.int .i64 r0, .int .i64 r1, .int .i64 r2, .int .i64 r3])) W = .ok () W) ∧
    (∀ W, Sem.run Tryd.prog (binOp BinOp.eql 46 V (.agg #[.int .i64 r0, .int .i64 r1, .int .i64 r2, .int .i64 r3])) W = .ok (.bool (rq n r0 r1 r2 r3)) W) :=
  ⟨rname n, fun x w h => by rw [h]; exact round_any n w n1 n2, fun W x y => req_guard x y _ _ _ _ r0 r1 r2 r3 W, fun W => req_bin _ _ _ _ r0 r1 r2 r3 W⟩
end Go.Proofs.YtcidhedmbcoafaaDoor
