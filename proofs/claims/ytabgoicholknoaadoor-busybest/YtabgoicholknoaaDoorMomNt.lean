/- moments.Set.Not. -/
import Derived.Test.YtabgoicholknoaaDoorMomP
import Derived.Test.YtabgoicholknoaaDoorMomR
namespace Go.Proofs.YtabgoicholknoaaDoor
open Go.RowKit Go.Shelf
set_option linter.unusedVariables false
set_option linter.unusedSimpArgs false
attribute [local go_sem] Oper.semAt_some

set_option maxRecDepth 100000 in
set_option maxHeartbeats 4000000 in
theorem boxed_inj {W : World} {B : Nat} {t : TypeId} {u v : Value} (h : Boxed W B t u) (h' : Boxed W B t v) : u = v := by
  have := h.cell.symm.trans h'.cell
  exact Option.some.inj this
theorem own_ne {W : World} {b : Nat} {e : TypeId} {z : Nat} {v : Value} {n : Nat} {xs : List Value} (h : W.ownsRow b e z v n xs) : some W.heap.size ≠ v.ownBlock := by
  rcases h.2 with ⟨rfl, _⟩ | ⟨g, cap, cur, rfl, _, hgb, _⟩
  · simp [Value.ownBlock]
  · intro e'
    obtain rfl : W.heap.size = g := by simpa [Value.ownBlock] using e'
    rw [Array.getElem?_eq_none (Nat.le_refl _)] at hgb
    cases hgb
end Go.Proofs.YtabgoicholknoaaDoor
