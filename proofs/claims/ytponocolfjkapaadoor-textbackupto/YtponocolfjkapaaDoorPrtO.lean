/- package text: appends to bytes made of a text, in the walk's list of operations. -/
import Derived.Test.YtponocolfjkapaaDoorPrtN
namespace Go.Proofs.YtponocolfjkapaaDoor
open Go.RowKit
set_option linter.unusedVariables false
set_option linter.unusedSimpArgs false

/-- a slice of bytes of one's own, made of a text -/
def CO (w : World) (base : Nat) (v : Value) (l : List UInt8) : Prop := ∃ g cap, v = .slice (some ⟨g, 0, none⟩) l.length cap ∧ base ≤ g ∧ CB w g cap l
theorem CO.later {w w' : World} {base : Nat} {v : Value} {l : List UInt8} (h : CO w base v l) (hb : Below w.heap.size w w') : CO w' base v l := by
  obtain ⟨g, cap, e, hg, hc⟩ := h
  exact ⟨g, cap, e, hg, hc.later hb⟩
theorem CO.kept {w w' : World} {base : Nat} {v : Value} {l : List UInt8} (h : CO w base v l) {row : Option Nat} (hg : w.grownBy w' row) (hne : v.ownBlock ≠ row) : CO w' base v l := by
  obtain ⟨g, cap, rfl, hg1, hc⟩ := h
  exact ⟨g, cap, rfl, hg1, hc.at (hg.block _ hc.lt (fun e => hne e))⟩
theorem CO.conv {w : World} {base : Nat} {v : Value} {l : List UInt8} (h : CO w base v l) : (convert 59 9 v).run Tryd.prog w = .ok (.string (Tl.str l)) w := by
  obtain ⟨g, cap, rfl, _, hc⟩ := h
  exact hc.conv
/-- its block is no box of another type -/
theorem CO.not_box {w : World} {base : Nat} {v : Value} {l : List UInt8} (h : CO w base v l) {B : Nat} {cs : Array Value} {t : TypeId} {f : Nat × Nat} (hb : w.heap[B]? = some (.cells cs t f)) (ht : t ≠ 5) : v.ownBlock ≠ some B := by
  obtain ⟨g, cap, rfl, _, hc⟩ := h
  intro e
  obtain rfl : g = B := by simpa [Value.ownBlock] using e
  obtain ⟨cur, f', h1, _⟩ := hc.ex
  rw [h1] at hb
  cases hb
  exact ht rfl
theorem wpList_append_co {ops : Array Oper} {rest : List Oper} {o : Oper} {a : Act} {w : World} {Q : Exit → Act → World → Prop} (hgd : o.guard = none) (s x : Operand)
    (ho : o.op = .call { callee := .builtin .append, args := #[s, x], argTypes := #[59, 59] })
    (base : Nat) (v : Value) (l m : List UInt8) (hs : a.eval s = v) (hown : CO w base v l) (ad : Addr) (n c : Nat) (hn : m.length = n) (hx : a.eval x = .slice (some ad) n c) (hnews : ∀ j u, (Tl.bs m)[j]? = some u → w.cell? (ad.add j) = some u)
    (hlen : l.length + m.length ≤ 4000000000) (h0 : 0 < m.length) (hbase : base ≤ w.heap.size)
    (h : ∀ v' w', CO w' base v' (l ++ m) → w.grownBy w' v.ownBlock → Below base w w' → wpList Tryd.prog ops Q rest (a.put o.dst v') w') : wpList Tryd.prog ops Q (o :: rest) a w := by
  subst hn
  obtain ⟨g, cap, rfl, hg, hc⟩ := hown
  refine wpList_plain hgd fun K hK => ?_
  obtain ⟨g', cap', w', hr, h2, h3, h4⟩ := hc.push m ad c o.type hnews hlen h0
  unfold Oper.wp execOp
  simp only [ho, resolve, invoke, builtin, Sem.run_bind, Sem.run_pure, Result.andThen_ok, List.map_toArray, List.map_cons, List.map_nil, hs, hx, hr]
  exact hK _ _ (h _ w' ⟨g', cap', rfl, by omega, h2⟩ h4 ((Below.refl _ w).grown h4 hbase fun k e => by cases e; exact hg))
theorem wpList_append_cos {ops : Array Oper} {rest : List Oper} {o : Oper} {a : Act} {w : World} {Q : Exit → Act → World → Prop} (hgd : o.guard = none) (s x : Operand)
    (ho : o.op = .call { callee := .builtin .append, args := #[s, x], argTypes := #[59, 9] })
    (base : Nat) (v : Value) (l : List UInt8) (hs : a.eval s = v) (hown : CO w base v l) (t : ByteArray) (hx : a.eval x = .string t)
    (hlen : l.length + t.size ≤ 4000000000) (hbase : base ≤ w.heap.size)
    (h : ∀ v' w', CO w' base v' (l ++ Tl.tx t) → w.grownBy w' v.ownBlock → Below base w w' → wpList Tryd.prog ops Q rest (a.put o.dst v') w') : wpList Tryd.prog ops Q (o :: rest) a w := by
  obtain ⟨g, cap, rfl, hg, hc⟩ := hown
  refine wpList_plain hgd fun K hK => ?_
  obtain ⟨g', cap', w', hr, h2, h3, h4⟩ := hc.append t o.type hlen
  unfold Oper.wp execOp
  simp only [ho, resolve, invoke, builtin, Sem.run_bind, Sem.run_pure, Result.andThen_ok, List.map_toArray, List.map_cons, List.map_nil, hs, hx, hr]
  exact hK _ _ (h _ w' ⟨g', cap', rfl, by omega, h2⟩ h4 ((Below.refl _ w).grown h4 hbase fun k e => by cases e; exact hg))
end Go.Proofs.YtponocolfjkapaaDoor
