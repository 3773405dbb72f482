/- DaysRound: the round of the Maya comes back behind 18,980 days, and not sooner. -/
import Derived.Test.YtcidhedmbcoafaaDoorMayaD
namespace Go.Proofs.YtcidhedmbcoafaaDoor
open Go.RowKit Go.Shelf
set_option linter.unusedVariables false
set_option linter.unusedSimpArgs false

theorem rq_own (n : Int) : rq n (1 + (n + 348) % 365 / 20) ((n + 348) % 365 % 20) (1 + (n + 3) % 13) (1 + (n + 19) % 20) = true := by simp [rq]
theorem mod_shift (x d m : Int) (h : d % m = 0) : (x + d) % m = x % m := by rw [Int.add_emod, h]; simp
theorem rq_shift (n d : Int) : rq (n + d) (1 + (n + 348) % 365 / 20) ((n + 348) % 365 % 20) (1 + (n + 3) % 13) (1 + (n + 19) % 20) = decide (d % 365 = 0 ∧ d % 13 = 0 ∧ d % 20 = 0) := by
  rw [Bool.eq_iff_iff]
  unfold rq
  simp only [Bool.and_eq_true, beq_iff_eq, decide_eq_true_eq]
  constructor
  · rintro ⟨⟨⟨a, b⟩, c⟩, f⟩
    have h : (n + d + 348) % 365 = (n + 348) % 365 := by omega
    refine ⟨?_, ?_, ?_⟩ <;> omega
  · rintro ⟨a, b, c⟩
    have e1 : (n + d + 348) % 365 = (n + 348) % 365 := by rw [show n + d + 348 = n + 348 + d from by omega]; exact mod_shift _ _ _ a
    have e2 : (n + d + 3) % 13 = (n + 3) % 13 := by rw [show n + d + 3 = n + 3 + d from by omega]; exact mod_shift _ _ _ b
    have e3 : (n + d + 19) % 20 = (n + 19) % 20 := by rw [show n + d + 19 = n + 19 + d from by omega]; exact mod_shift _ _ _ c
    rw [e1, e2, e3]
    exact ⟨⟨⟨rfl, rfl⟩, rfl⟩, rfl⟩
theorem rq_early (n d : Int) (h1 : 0 < d) (h2 : d < 18980) : rq (n + d) (1 + (n + 348) % 365 / 20) ((n + 348) % 365 % 20) (1 + (n + 3) % 13) (1 + (n + 19) % 20) = false := by
  rw [rq_shift, decide_eq_false_iff_not]
  omega
theorem next_own (day : Int) (W : World) (d1 : -1856305 ≤ day) (d2 : day ≤ 4000000) (n : Int) (hn : n = day + 1856305) :
    Calls Tryd.prog 62 #[.agg #[.int .i64 (1 + (n + 348) % 365 / 20), .int .i64 ((n + 348) % 365 % 20), .int .i64 (1 + (n + 3) % 13), .int .i64 (1 + (n + 19) % 20)], .int .i64 day] W fun e w' => e = .returned (.tuple #[.int .i64 day, .nilIface]) ∧ Below W.heap.size W w' := by
  refine next_any _ _ _ _ day W d1 d2 0 (by omega) (fun k hk => absurd hk (by omega)) (fun k hk => absurd hk (by omega)) _ _ (.inr (.inr ⟨by omega, by simpa using d2, ?_, by simp, rfl⟩))
  subst hn
  simpa using rq_own (day + 1856305)
theorem next_round (day : Int) (W : World) (d1 : -1856305 ≤ day) (d2 : day + 18980 ≤ 4000000) (n : Int) (hn : n = day + 1856305) :
    Calls Tryd.prog 62 #[.agg #[.int .i64 (1 + (n + 348) % 365 / 20), .int .i64 ((n + 348) % 365 % 20), .int .i64 (1 + (n + 3) % 13), .int .i64 (1 + (n + 19) % 20)], .int .i64 (day + 1)] W fun e w' => e = .returned (.tuple #[.int .i64 (day + 18980), .nilIface]) ∧ Below W.heap.size W w' := by
  refine next_any _ _ _ _ (day + 1) W (by omega) (by omega) 18979 (by omega) (fun k hk => by omega) (fun k hk => ?_) _ _ (.inr (.inr ⟨by omega, by simp; omega, ?_, by simp; omega, rfl⟩))
  · subst hn
    have e : day + 1 + 1856305 + (k : Int) = day + 1856305 + (k + 1) := by omega
    rw [e]
    exact rq_early _ _ (by omega) (by omega)
  · subst hn
    have e : day + 1 + 1856305 + ((18979 : Nat) : Int) = day + 1856305 + 18980 := by omega
    rw [e, rq_shift]
    decide

set_option maxRecDepth 100000 in
set_option maxHeartbeats 3200000 in
theorem round_no (day : Int) (w : World) (hd : Hd w) (h : day < -1856305 ∨ 4000000 < day) :
    Calls Tryd.prog 13 #[.int .i64 day] w fun e w' => e = .returned (.bool true) ∧ Below w.heap.size w w' := by
  have K1 := hide (pmaya_no day w hd h)
  clear h
  go_enter Tryd.func13, Tryd.ntmps13
  go_wp2_with fail
  refine K1.out.mono ?_
  rintro e W ⟨rfl, hb⟩
  have hs := hb.size
  clear K1
  go_wp2
  go_ret
  exact ⟨rfl, hb.alloc hs _⟩
set_option maxRecDepth 100000 in
set_option maxHeartbeats 3200000 in
theorem round_steps (day v0 v1 v2 v3 v4 r0 r1 r2 r3 : Int) (w : World) (d1 : -1856305 ≤ day) (d2 : day ≤ 4000000)
    (k1 : ∀ W, Calls Tryd.prog 34 #[.int .i64 day] W fun e w' => e = .returned (.tuple #[.agg #[.int .i64 v0, .int .i64 v1, .int .i64 v2, .int .i64 v3, .int .i64 v4, .int .i64 r0, .int .i64 r1, .int .i64 r2, .int .i64 r3], .int .i64 0]) ∧ Below W.heap.size W w')
    (k2 : ∀ W, Calls Tryd.prog 36 #[.agg #[.int .i64 r0, .int .i64 r1, .int .i64 r2, .int .i64 r3], .int .i64 day] W fun e w' => e = .returned (.tuple #[.int .i64 day, .int .i64 0]) ∧ Below W.heap.size W w')
    (k3 : day + 18980 ≤ 4000000 → ∀ W, Calls Tryd.prog 36 #[.agg #[.int .i64 r0, .int .i64 r1, .int .i64 r2, .int .i64 r3], .int .i64 (day + 1)] W fun e w' => e = .returned (.tuple #[.int .i64 (day + 18980), .int .i64 0]) ∧ Below W.heap.size W w') :
    Calls Tryd.prog 13 #[.int .i64 day] w fun e w' => e = .returned (.bool true) ∧ Below w.heap.size w w' := by
  have K1 := hide k1
  have K2 := hide k2
  have K3 := hide k3
  clear k1 k2 k3
  go_enter Tryd.func13, Tryd.ntmps13
  go_wp2_with fail
  refine (K1.out _).mono ?_
  rintro e W ⟨rfl, hb⟩
  have hs := hb.size
  go_wp2_with fail
  refine (K2.out _).mono ?_
  rintro e W2 ⟨rfl, hb2⟩
  have q0 : ∀ j, W2.cell? ⟨W.heap.size, j, none⟩ = (W.alloc (.cells #[.int .i64 v0, .int .i64 v1, .int .i64 v2, .int .i64 v3, .int .i64 v4, .int .i64 r0, .int .i64 r1, .int .i64 r2, .int .i64 r3] 48)).cell? ⟨W.heap.size, j, none⟩ := fun j => hb2.cell (p := ⟨W.heap.size, j, none⟩) (by simp)
  have e5 : W2.cell? ⟨W.heap.size, 5, none⟩ = some (.int .i64 r0) := by rw [q0]; simp
  have e6 : W2.cell? ⟨W.heap.size, 6, none⟩ = some (.int .i64 r1) := by rw [q0]; simp
  have e7 : W2.cell? ⟨W.heap.size, 7, none⟩ = some (.int .i64 r2) := by rw [q0]; simp
  have e8 : W2.cell? ⟨W.heap.size, 8, none⟩ = some (.int .i64 r3) := by rw [q0]; simp
  have hB2 : Below w.heap.size w W2 := (hb.alloc hs _).trans (hb2.mono (by simp; omega))
  clear q0 K1 K2 hb2
  by_cases hl : day + 18980 ≤ 4000000
  · have K4 := hide (K3.out hl)
    clear K3
    go_wp2_with fail
    refine (K4.out _).mono ?_
    rintro e W3 ⟨rfl, hb3⟩
    clear K4 e5 e6 e7 e8
    go_wp2
    go_ret
    exact ⟨rfl, hB2.trans (hb3.mono hB2.size)⟩
  · clear K3 e5 e6 e7 e8
    go_wp2
    go_ret
    exact ⟨rfl, hB2⟩
theorem dround_walk (day : Int) (w : World) (hd : Hd w) :
    Calls Tryd.prog 13 #[.int .i64 day] w fun e w' => e = .returned (.bool true) ∧ Below w.heap.size w w' := by
  by_cases h : day < -1856305 ∨ 4000000 < day
  · exact round_no day w hd h
  · exact round_steps day _ _ _ _ _ _ _ _ _ w (by omega) (by omega) (fun W => pmaya_ok day W (by omega) (by omega))
      (fun W => pnext_steps _ _ _ _ day day W (fun W' => next_own day W' (by omega) (by omega) _ rfl))
      (fun hl W => pnext_steps _ _ _ _ (day + 1) _ W (fun W' => next_round day W' (by omega) hl _ rfl))
end Go.Proofs.YtcidhedmbcoafaaDoor
