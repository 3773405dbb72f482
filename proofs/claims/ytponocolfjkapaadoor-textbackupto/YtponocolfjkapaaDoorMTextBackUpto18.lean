/- The reference's Items. -/
import Derived.Test.YtponocolfjkapaaDoorMTextBackUpto5
import Derived.Test.YtponocolfjkapaaDoorMTextBackUpto14
import Derived.Laws.OwnMore
import Derived.Deep.AppendLies
namespace Go.Proofs.YtponocolfjkapaaDoor
open Go.RowKit
set_option linter.unusedVariables false
set_option linter.unusedSimpArgs false

theorem two_ext (s : ByteArray) (k : Nat) (h : k + 1 < s.size) : s.extract (k + 1) (k + 2) = Tl.str [s[k + 1]] := one_ext s (k + 1) h
/-- two cells of one's own -/
def B2 (w : World) (b : Nat) (x y : Value) : Prop := w.cell? ⟨b, 0, none⟩ = some x ∧ w.cell? ⟨b, 1, none⟩ = some y ∧ (∀ j, w.frozen? ⟨b, j, none⟩ = false)
theorem B2.lt {w : World} {b : Nat} {x y : Value} (h : B2 w b x y) : b < w.heap.size := World.block_lt_of_cell? _ _ h.1
theorem B2.at {w w' : World} {b : Nat} {x y : Value} (h : B2 w b x y) (e : w'.heap[b]? = w.heap[b]?) : B2 w' b x y :=
  ⟨(World.cell?_of_block (w := w) (a := ⟨b, 0, none⟩) e).trans h.1, (World.cell?_of_block (w := w) (a := ⟨b, 1, none⟩) e).trans h.2.1, fun j => (World.frozen?_of_block (w := w) (a := ⟨b, j, none⟩) e).trans (h.2.2 j)⟩
theorem B2.later {w w' : World} {b : Nat} {x y : Value} (h : B2 w b x y) (hb : Below w.heap.size w w') : B2 w' b x y := h.at (hb.block b h.lt)
theorem B2.set {w : World} {b : Nat} {x y : Value} (h : B2 w b x y) (u v : Value) : B2 ((w.setCell ⟨b, 0, none⟩ u).setCell ⟨b, 1, none⟩ v) b u v := by
  refine ⟨?_, ?_, fun j => by rw [World.frozen?_setCell, World.frozen?_setCell]; exact h.2.2 j⟩
  · rw [World.cell?_setCell_other _ _ _ _ (by simp)]; exact World.cell?_setCell_same _ _ _ h.1
  · exact World.cell?_setCell_same _ _ _ (by rw [World.cell?_setCell_other _ _ _ _ (by simp)]; exact h.2.1)
theorem str1_ne {x c : UInt8} (h : x ≠ c) : ((Tl.str [x]).toList == [c]) = false := by
  rw [ByteArray.toList_eq, beq_eq_false_iff_ne]
  intro e
  exact h (List.cons.inj e).1
theorem mono0' {w : World} {b b' : Nat} {e : TypeId} {s : Nat} {v : Value} {n : Nat} {xs : List Value} (h : w.ownsRow b e s v n xs) (hb : b' ≤ b) : w.ownsRow b' e s v n xs :=
  ⟨h.1, h.2.imp id fun ⟨g, cap, cur, h1, h2, h3⟩ => ⟨g, cap, cur, h1, Nat.le_trans hb h2, h3⟩⟩
/-- what the reference's Items answers -/
def RitP (R : Except Nat (List (List UInt8))) (base : Nat) (w : World) (e : Ending) (w' : World) : Prop :=
  (∃ v L, R = .ok (txs L) ∧ e = .returned (.tuple #[v, .agg #[.int .i64 0, .int .i64 (-1)]]) ∧ SR w' base v L ∧ L.length ≤ 1000000000 ∧ Below base w w') ∨
  (∃ i : Nat, R = .error i ∧ i ≤ 1000000000 ∧ e = .returned (.tuple #[.slice none 0 0, .agg #[.int .i64 5, .int .i64 i]]) ∧ Below base w w')
end Go.Proofs.YtponocolfjkapaaDoor
