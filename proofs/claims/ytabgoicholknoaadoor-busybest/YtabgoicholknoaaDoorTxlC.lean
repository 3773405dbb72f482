/- package text: escaped, Items. -/
import Derived.Test.YtabgoicholknoaaDoorTxlA
import Derived.Test.YtabgoicholknoaaDoorTxlN
namespace Go.Proofs.YtabgoicholknoaaDoor
open Go.RowKit
set_option linter.unusedVariables false
set_option linter.unusedSimpArgs false

def strs' (l : List ByteArray) : List Value := l.map .string
theorem strs_app' (l m : List ByteArray) : strs' (l ++ m) = strs' l ++ strs' m := by unfold strs'; rw [List.map_append]
theorem strs_len' (l : List ByteArray) : (strs' l).length = l.length := by unfold strs'; rw [List.length_map]
theorem infoStr' : (Tryd.prog.info? 9).map (fun i => (i.zero, i.size, i.bytes)) = some (some (.string ⟨#[]⟩), 1, 16) := by kernel_rfl
/-- a row of texts of one's own -/
abbrev SR (w : World) (base : Nat) (v : Value) (L : List ByteArray) : Prop := w.ownsRow base 9 1 v L.length (strs' L)
theorem SR.nil (w : World) (base : Nat) : SR w base (.slice none 0 0) [] := World.ownsRow_nil _ _ _ _
theorem SR.later {w w' : World} {b : Nat} {v : Value} {l : List ByteArray} (h : SR w b v l) (hb : Below w.heap.size w w') : SR w' b v l :=
  ⟨h.1, h.2.imp id fun ⟨g, cap, cur, h1, h2, h3, h4⟩ => ⟨g, cap, cur, h1, h2, (hb.block g (Array.getElem?_eq_some_iff.1 h3).1).trans h3, h4⟩⟩
theorem own_apart {w : World} {b1 b2 : Nat} {e1 e2 : TypeId} {z1 z2 : Nat} {v1 v2 : Value} {n1 n2 : Nat} {xs1 xs2 : List Value} (h1 : w.ownsRow b1 e1 z1 v1 n1 xs1) (h2 : w.ownsRow b2 e2 z2 v2 n2 xs2) (hne : e1 ≠ e2) :
    v1.ownBlock = none ∨ v1.ownBlock ≠ v2.ownBlock := by
  rcases h1.2 with ⟨rfl, _⟩ | ⟨g1, c1, cur1, rfl, _, hg1, _⟩
  · exact .inl rfl
  · rcases h2.2 with ⟨rfl, _⟩ | ⟨g2, c2, cur2, rfl, _, hg2, _⟩
    · exact .inr (by simp [Value.ownBlock])
    · refine .inr fun e => hne ?_
      have e' : g1 = g2 := by simpa [Value.ownBlock] using e
      subst e'
      have := hg1.symm.trans hg2
      simp only [Option.some.injEq, Obj.cells.injEq] at this
      exact this.2.1
theorem one_newS (w : World) (t : TypeId) (x : ByteArray) : ∀ j u, (strs' [x])[j]? = some u → (w.alloc (.cells #[.string x] t)).cell? ((⟨w.heap.size, 0, none⟩ : Addr).add j) = some u := by
  intro j u hj
  match j, hj with
  | 0, hj => simp [strs'] at hj; subst hj; simp [Addr.add]
theorem SR.kept {w w' : World} {b b2 : Nat} {v v2 : Value} {L : List ByteArray} {c : List UInt8} (h : SR w b v L) (h2 : BR w b2 v2 c) (hg : w.grownBy w' v2.ownBlock) : SR w' b v L :=
  World.ownsRow.kept h hg (own_apart h h2 (by decide))
theorem BR.kept {w w' : World} {b b2 : Nat} {v v2 : Value} {L : List ByteArray} {c : List UInt8} (h : BR w b v c) (h2 : SR w b2 v2 L) (hg : w.grownBy w' v2.ownBlock) : BR w' b v c :=
  World.ownsRow.kept h hg (own_apart h h2 (by decide))
theorem txs_snoc (L : List ByteArray) (c : List UInt8) : txs (L ++ [Tl.str c]) = txs L ++ [c] := by unfold txs; rw [List.map_append]; rfl
end Go.Proofs.YtabgoicholknoaaDoor
