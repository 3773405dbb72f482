/- Lists come back (mathematics). -/
import Derived.Test.YtponocolfjkapaaDoorTxlN
namespace Go.Proofs.YtponocolfjkapaaDoor
open Go.RowKit
set_option linter.unusedVariables false
set_option linter.unusedSimpArgs false
namespace Tl
theorem run_escB (b : UInt8) (r : List UInt8) (i : Nat) (L : List (List UInt8)) (c : List UInt8) : ∃ j, run (escB b ++ r) i L c = run r j L (c ++ [b]) := by
  unfold escB
  by_cases h : b = 92 ∨ b = 44 ∨ b = 59
  · rw [if_pos h]
    exact ⟨i + 2, run_esc (by unfold un; rw [if_pos h]) r i L c⟩
  · rw [if_neg h]
    by_cases h2 : b = 10
    · rw [if_pos h2]
      subst h2
      exact ⟨i + 2, run_esc (by decide) r i L c⟩
    · rw [if_neg h2]
      simp only [not_or] at h
      exact ⟨i + 1, run_any h.2.1 h.2.2 h.1 r i L c⟩
theorem run_escs : ∀ (x r : List UInt8) (i : Nat) (L : List (List UInt8)) (c : List UInt8), ∃ j, run (esc x ++ r) i L c = run r j L (c ++ x)
  | [], r, i, L, c => ⟨i, by simp [esc_nil]⟩
  | b :: x, r, i, L, c => by
    obtain ⟨j, hj⟩ := run_escB b (esc x ++ r) i L c
    obtain ⟨j2, hj2⟩ := run_escs x r j L (c ++ [b])
    refine ⟨j2, ?_⟩
    have e : esc (b :: x) ++ r = escB b ++ (esc x ++ r) := by unfold esc; rw [List.flatMap_cons, List.append_assoc]
    rw [e, hj, hj2]
    simp
theorem run_join : ∀ (L : List (List UInt8)) (i : Nat) (M : List (List UInt8)), L ≠ [] → run (joinE L) i M [] = .ok (M ++ L)
  | [], _, _, h => absurd rfl h
  | [a], i, M, _ => by
    obtain ⟨j, hj⟩ := run_escs a [] i M []
    rw [List.append_nil] at hj
    show run (esc a) i M [] = _
    rw [hj]
    simp [run]
  | a :: b :: r, i, M, _ => by
    obtain ⟨j, hj⟩ := run_escs a ([44] ++ joinE (b :: r)) i M []
    show run (esc a ++ [44] ++ joinE (b :: r)) i M [] = _
    rw [List.append_assoc, hj, List.singleton_append, run_com, List.nil_append, run_join (b :: r) (j + 1) (M ++ [a]) (by simp)]
    simp
end Tl
end Go.Proofs.YtponocolfjkapaaDoor
