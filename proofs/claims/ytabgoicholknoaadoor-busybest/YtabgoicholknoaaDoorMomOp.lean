/- moments.Set: Not, And, Or, Less, Next and Has, as calls on sets in memory. -/
import Derived.Test.YtabgoicholknoaaDoorMomAn
import Derived.Test.YtabgoicholknoaaDoorMomPo
import Derived.Test.YtabgoicholknoaaDoorMomL
namespace Go.Proofs.YtabgoicholknoaaDoor
open Go.RowKit Go.Shelf
set_option linter.unusedVariables false
set_option linter.unusedSimpArgs false

/-- of the form of a set, and of so many spans at most -/
def Ok (n : Nat) (L : List (Int × Int)) : Prop := InvL L ∧ L.length ≤ n
theorem Ok.not {n : Nat} {L : List (Int × Int)} (h : Ok n L) : Ok (n + 1) (ntL L) := ⟨ntL_inv h.1, by have := ntL_len L; have := h.2; omega⟩
theorem Ok.and {n m : Nat} {L M : List (Int × Int)} (h : Ok n L) (k : Ok m M) : Ok (n + m) (anL L M) := ⟨anL_inv h.1 k.1, by have := anL_len h.1 k.1; have := h.2; have := k.2; omega⟩
theorem Ok.or {n m : Nat} {L M : List (Int × Int)} (h : Ok n L) (k : Ok m M) : Ok (n + m + 3) (orL L M) := ⟨orL_inv h.1 k.1, by have := orL_len h.1 k.1; have := h.2; have := k.2; omega⟩
theorem Ok.less {n m : Nat} {L M : List (Int × Int)} (h : Ok n L) (k : Ok m M) : Ok (n + m + 1) (lsL L M) := ⟨lsL_inv h.1 k.1, by have := lsL_len h.1 k.1; have := h.2; have := k.2; omega⟩
theorem lenOk {n : Nat} {L : List (Int × Int)} (h : Ok n L) (k : n ≤ 1000000) : L.length ≤ 1000000 := Nat.le_trans h.2 k
theorem Ok.mono {n m : Nat} {L : List (Int × Int)} (h : Ok n L) (k : n ≤ m) : Ok m L := ⟨h.1, Nat.le_trans h.2 k⟩
theorem SetAt.slA {w : World} {v : Value} {L : List (Int × Int)} (h : SetAt w v L) : SlA w.heap.size w v L := by
  rcases h with h | ⟨g, c, e, hc, hg, hA⟩
  · exact .inl h
  · exact .inr ⟨g, 0, c, e, hc, hg, fun j hj => by rw [Nat.zero_add]; exact hA j hj⟩
theorem own_base {w : World} {b : Nat} {a : Option Addr} {l c : Nat} {e : TypeId} {z n : Nat} {xs : List Value} (h : w.ownsRow b e z (.slice a l c) n xs) : ∀ g o, a = some ⟨g, o, none⟩ → b ≤ g := fun g o e => by
  rcases h.2 with ⟨h', _⟩ | ⟨g', cap, cur, h', hg', _⟩
  · simp only [Value.slice.injEq] at h'; rw [h'.1] at e; cases e
  · simp only [Value.slice.injEq] at h'
    rw [h'.1] at e
    simp only [Option.some.injEq, Addr.mk.injEq] at e
    have := e.1
    omega
theorem boxed_later {W X : World} {B : Nat} {t : TypeId} {v : Value} (h : Boxed W B t v) (hb : Below W.heap.size W X) : Boxed X B t v := (hb.block B h.lt).trans h
theorem and_set (a1 : Option Addr) (l1 c1 : Nat) (L : List (Int × Int)) (hL : Ok 300000 L) (a2 : Option Addr) (l2 c2 : Nat) (M : List (Int × Int)) (hM : Ok 300000 M) (w : World) (h1 : SetAt w (.slice a1 l1 c1) L) (h2 : SetAt w (.slice a2 l2 c2) M) :
    Calls Tryd.prog 14 #[.agg #[.slice a1 l1 c1], .agg #[.slice a2 l2 c2]] w fun e W' => ∃ a l c, e = .returned (.agg #[.slice a l c]) ∧ SetAt W' (.slice a l c) (anL L M) ∧ Below w.heap.size w W' ∧ (∀ g o, a = some ⟨g, o, none⟩ → w.heap.size ≤ g) :=
  (and_any _ _ L M (by have := hL.2; omega) (by have := hM.2; omega) w h1.slA h2.slA).mono fun e W' ⟨v, he, ho, hb⟩ => by
    obtain ⟨a', l', c', rfl⟩ := own_form ho
    exact ⟨a', l', c', he, setAt_own ho, hb, own_base ho⟩
/-- the result's box, and the memory of the caller -/
def OrR (w X : World) : Prop := (∃ u, Boxed X (w.heap.size + 1 + 1) 30 u) ∧ Below w.heap.size w X
theorem orR_below {P : Prop} {w X : World} (h : P ∧ OrR w X) : Below w.heap.size w X := h.2.2
theorem orR_box {P : Prop} {w X : World} (h : P ∧ OrR w X) : ∃ u, X.cell? ⟨w.heap.size + 1 + 1, 0, none⟩ = some u ∧ X.frozen? ⟨w.heap.size + 1 + 1, 0, none⟩ = false := by
  obtain ⟨u, hu⟩ := h.2.1
  exact ⟨u, hu.cell, hu.frozen⟩
theorem orR_lt {P : Prop} {w X : World} (h : P ∧ OrR w X) : w.heap.size + 1 + 1 < X.heap.size := by
  obtain ⟨u, hu⟩ := h.2.1
  exact hu.lt
theorem orS_call {w A B : World} {v1 v2 : Value} (h : (A.cell? ⟨w.heap.size, 0, none⟩ = some v1 ∧ A.cell? ⟨w.heap.size + 1, 0, none⟩ = some v2) ∧ OrR w A) (hb : Below A.heap.size A B) : (B.cell? ⟨w.heap.size, 0, none⟩ = some v1 ∧ B.cell? ⟨w.heap.size + 1, 0, none⟩ = some v2) ∧ OrR w B := by
  obtain ⟨⟨h1, h2⟩, ⟨u, h3⟩, h4⟩ := h
  exact ⟨⟨(hb.cell (World.block_lt_of_cell? _ _ h1)).trans h1, (hb.cell (World.block_lt_of_cell? _ _ h2)).trans h2⟩, ⟨u, boxed_later h3 hb⟩, h4.trans (hb.mono h4.size)⟩
theorem orS_store {w A : World} {v1 v2 : Value} (v : Value) (h : (A.cell? ⟨w.heap.size, 0, none⟩ = some v1 ∧ A.cell? ⟨w.heap.size + 1, 0, none⟩ = some v2) ∧ OrR w A) : ((A.setCell ⟨w.heap.size + 1 + 1, 0, none⟩ v).cell? ⟨w.heap.size, 0, none⟩ = some v1 ∧ (A.setCell ⟨w.heap.size + 1 + 1, 0, none⟩ v).cell? ⟨w.heap.size + 1, 0, none⟩ = some v2) ∧ OrR w (A.setCell ⟨w.heap.size + 1 + 1, 0, none⟩ v) := by
  obtain ⟨⟨h1, h2⟩, ⟨u, h3⟩, h4⟩ := h
  exact ⟨⟨(World.cell?_of_block (Below.heap_setCell _ _ _ _ (by show w.heap.size ≠ w.heap.size + 1 + 1; omega))).trans h1, (World.cell?_of_block (Below.heap_setCell _ _ _ _ (by show w.heap.size + 1 ≠ w.heap.size + 1 + 1; omega))).trans h2⟩, ⟨v, h3.set v⟩, h4.setCell (p := ⟨w.heap.size + 1 + 1, 0, none⟩) (by show w.heap.size ≤ w.heap.size + 1 + 1; omega) v⟩
end Go.Proofs.YtabgoicholknoaaDoor
