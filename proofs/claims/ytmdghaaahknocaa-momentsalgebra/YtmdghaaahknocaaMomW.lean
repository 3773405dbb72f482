/- the law MomentsAlgebra: what its walk keeps. -/
import Derived.Test.YtmdghaaahknocaaMomEq
namespace Go.Proofs.Ytmdghaaahknocaa
open Go.RowKit Go.Shelf
set_option linter.unusedVariables false
set_option linter.unusedSimpArgs false

/-- the slice value sv holds the numbers ts -/
def IntsW (w : World) (sv : Value) (ts : List Int) : Prop := ∃ a cap, sv = .slice a ts.length cap ∧ ∀ j, j < ts.length → ∃ ad, a = some ad ∧ w.cell? (ad.add j) = some (.int .i64 (ts.getD j 0))
theorem IntsW.below {w w' : World} {sv : Value} {ts : List Int} (hB : Below w.heap.size w w') : IntsW w sv ts → IntsW w' sv ts := fun ⟨a, cap, e, hc⟩ => ⟨a, cap, e, fun j hj => by
  obtain ⟨ad, e2, h1⟩ := hc j hj
  exact ⟨ad, e2, (hB.cell (World.block_lt_of_cell? w _ h1)).trans h1⟩⟩
/-- the three sets, in their boxes -/
structure ABC (w W : World) (n : Nat) (va vb vc : Value) (LA LB LC : List (Int × Int)) : Prop where
  below : Below w.heap.size w W
  ba : Boxed W n 27 va
  bb : Boxed W (n + 1) 27 vb
  bc : Boxed W (n + 1 + 1) 27 vc
  sa : SetAt W va LA
  sb : SetAt W vb LB
  sc : SetAt W vc LC
theorem ABC.step {w W W' : World} {n : Nat} {va vb vc : Value} {LA LB LC : List (Int × Int)} (h : ABC w W n va vb vc LA LB LC) (hb : Below W.heap.size W W') : ABC w W' n va vb vc LA LB LC :=
  ⟨h.below.trans (hb.mono h.below.size), boxed_later h.ba hb, boxed_later h.bb hb, boxed_later h.bc hb, h.sa.below hb, h.sb.below hb, h.sc.below hb⟩
theorem ABC.cells {w W : World} {n : Nat} {va vb vc : Value} {LA LB LC : List (Int × Int)} (h : ABC w W n va vb vc LA LB LC) : W.cell? ⟨n, 0, none⟩ = some va ∧ W.cell? ⟨n + 1, 0, none⟩ = some vb ∧ W.cell? ⟨n + 1 + 1, 0, none⟩ = some vc := ⟨h.ba.cell, h.bb.cell, h.bc.cell⟩
/-- the algebra's ten laws, of lists -/
theorem alg_or_comm {A B : List (Int × Int)} (hA : InvL A) (hB : InvL B) : orL A B = orL B A := invL_ext _ _ (orL_inv hA hB) (orL_inv hB hA) fun t => by rw [orL_in hA hB, orL_in hB hA]; exact or_comm
theorem alg_and_comm {A B : List (Int × Int)} (hA : InvL A) (hB : InvL B) : anL A B = anL B A := invL_ext _ _ (anL_inv hA hB) (anL_inv hB hA) fun t => by rw [anL_in hA hB, anL_in hB hA]; exact and_comm
theorem alg_or_assoc {A B C : List (Int × Int)} (hA : InvL A) (hB : InvL B) (hC : InvL C) : orL A (orL B C) = orL (orL A B) C :=
  invL_ext _ _ (orL_inv hA (orL_inv hB hC)) (orL_inv (orL_inv hA hB) hC) fun t => by rw [orL_in hA (orL_inv hB hC), orL_in hB hC, orL_in (orL_inv hA hB) hC, orL_in hA hB]; exact or_assoc.symm
theorem alg_and_assoc {A B C : List (Int × Int)} (hA : InvL A) (hB : InvL B) (hC : InvL C) : anL A (anL B C) = anL (anL A B) C :=
  invL_ext _ _ (anL_inv hA (anL_inv hB hC)) (anL_inv (anL_inv hA hB) hC) fun t => by rw [anL_in hA (anL_inv hB hC), anL_in hB hC, anL_in (anL_inv hA hB) hC, anL_in hA hB]; exact and_assoc.symm
theorem alg_and_or {A B C : List (Int × Int)} (hA : InvL A) (hB : InvL B) (hC : InvL C) : anL A (orL B C) = orL (anL A B) (anL A C) :=
  invL_ext _ _ (anL_inv hA (orL_inv hB hC)) (orL_inv (anL_inv hA hB) (anL_inv hA hC)) fun t => by rw [anL_in hA (orL_inv hB hC), orL_in hB hC, orL_in (anL_inv hA hB) (anL_inv hA hC), anL_in hA hB, anL_in hA hC]; exact and_or_left
theorem alg_or_and {A B C : List (Int × Int)} (hA : InvL A) (hB : InvL B) (hC : InvL C) : orL A (anL B C) = anL (orL A B) (orL A C) :=
  invL_ext _ _ (orL_inv hA (anL_inv hB hC)) (anL_inv (orL_inv hA hB) (orL_inv hA hC)) fun t => by rw [orL_in hA (anL_inv hB hC), anL_in hB hC, anL_in (orL_inv hA hB) (orL_inv hA hC), orL_in hA hB, orL_in hA hC]; exact or_and_left
theorem alg_not_or {A B : List (Int × Int)} (hA : InvL A) (hB : InvL B) : ntL (orL A B) = anL (ntL A) (ntL B) :=
  invL_ext _ _ (ntL_inv (orL_inv hA hB)) (anL_inv (ntL_inv hA) (ntL_inv hB)) fun t => by
    rw [ntL_in (orL_inv hA hB), orL_in hA hB, anL_in (ntL_inv hA) (ntL_inv hB), ntL_in hA, ntL_in hB]
    exact ⟨fun h => ⟨⟨h.1, h.2.1, fun k => h.2.2 (.inl k)⟩, h.1, h.2.1, fun k => h.2.2 (.inr k)⟩, fun h => ⟨h.1.1, h.1.2.1, fun k => k.elim h.1.2.2 h.2.2.2⟩⟩
theorem alg_not_not {A : List (Int × Int)} (hA : InvL A) : ntL (ntL A) = A :=
  invL_ext _ _ (ntL_inv (ntL_inv hA)) hA fun t => by
    rw [ntL_in (ntL_inv hA), ntL_in hA]
    constructor
    · rintro ⟨h1, h2, h3⟩
      exact Classical.byContradiction fun h => h3 ⟨h1, h2, h⟩
    · intro h
      exact ⟨(hA.bds h).1, (hA.bds h).2, fun k => k.2.2 h⟩
theorem alg_and_not {A E : List (Int × Int)} (hA : InvL A) (hE : InvL E) (he : ∀ t, ¬ InS E t) : anL A (ntL A) = E :=
  invL_ext _ _ (anL_inv hA (ntL_inv hA)) hE fun t => by
    rw [anL_in hA (ntL_inv hA), ntL_in hA]
    exact ⟨fun h => absurd h.1 h.2.2.2, fun h => absurd h (he t)⟩
theorem alg_absorb {A B : List (Int × Int)} (hA : InvL A) (hB : InvL B) : orL A (anL A B) = A :=
  invL_ext _ _ (orL_inv hA (anL_inv hA hB)) hA fun t => by
    rw [orL_in hA (anL_inv hA hB), anL_in hA hB]
    exact ⟨fun h => h.elim id fun h => h.1, .inl⟩
theorem inS_next (zs : List (Int × Int)) (k : Nat) (h : k < zs.length) (t : Int) : InS (zs.take (k + 1)) t ↔ InS (zs.take k) t ∨ ((zs.getD k (0, 0)).1 ≤ t ∧ t < (zs.getD k (0, 0)).2) := by
  rw [take_next zs k h, inS_app, inS_one]
theorem abcS {w A X : World} {n : Nat} {va vb vc : Value} {LA LB LC : List (Int × Int)} (h : (A.cell? ⟨n, 0, none⟩ = some va ∧ A.cell? ⟨n + 1, 0, none⟩ = some vb) ∧ ABC w A n va vb vc LA LB LC) (hb : Below A.heap.size A X) : (X.cell? ⟨n, 0, none⟩ = some va ∧ X.cell? ⟨n + 1, 0, none⟩ = some vb) ∧ ABC w X n va vb vc LA LB LC :=
  ⟨⟨(h.2.step hb).cells.1, (h.2.step hb).cells.2.1⟩, h.2.step hb⟩
theorem ib_next {ib : Bool} {P Q Q' R : Prop} (h : ib = true ↔ P ∧ Q) (hn : Q' ↔ Q ∨ R) (b : Bool) (hb : b = true ↔ (ib = true ∨ (P ∧ R))) : b = true ↔ P ∧ Q' := by
  rw [hb, h, hn]
  exact ⟨fun k => k.elim (fun k => ⟨k.1, .inl k.2⟩) fun k => ⟨k.1, .inr k.2⟩, fun k => k.2.elim (fun q => .inl ⟨k.1, q⟩) fun r => .inr ⟨k.1, r⟩⟩
theorem bool_of_iff {a b : Bool} {P Q : Prop} (ha : a = true ↔ P) (hb : b = true ↔ Q) (h : P ↔ Q) : a = b := Bool.eq_iff_iff.2 (ha.trans (h.trans hb.symm))
theorem not_of_iff {y : Bool} {P : Prop} (h : y = true ↔ P) : (!y) = true ↔ ¬ P := by
  rw [← h]
  cases y <;> simp
theorem abc3S {w A X : World} {n : Nat} {va vb vc : Value} {LA LB LC : List (Int × Int)} (h : (A.cell? ⟨n, 0, none⟩ = some va ∧ A.cell? ⟨n + 1, 0, none⟩ = some vb ∧ A.cell? ⟨n + 1 + 1, 0, none⟩ = some vc) ∧ ABC w A n va vb vc LA LB LC) (hb : Below A.heap.size A X) : (X.cell? ⟨n, 0, none⟩ = some va ∧ X.cell? ⟨n + 1, 0, none⟩ = some vb ∧ X.cell? ⟨n + 1 + 1, 0, none⟩ = some vc) ∧ ABC w X n va vb vc LA LB LC :=
  ⟨(h.2.step hb).cells, h.2.step hb⟩
end Go.Proofs.Ytmdghaaahknocaa
