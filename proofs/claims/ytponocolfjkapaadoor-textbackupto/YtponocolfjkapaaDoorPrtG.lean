/- package text: what a walk keeps that counts in one old cell. -/
import Derived.Test.YtponocolfjkapaaDoorPrtF
namespace Go.Proofs.YtponocolfjkapaaDoor
open Go.RowKit Go.Shelf
set_option linter.unusedVariables false
set_option linter.unusedSimpArgs false

/-- all that lay is as it was, but for one block -/
structure KB (B : Nat) (w w' : World) : Prop where
  os : w'.os = w.os
  tape : w'.tape = w.tape
  output : w'.output = w.output
  size : w.heap.size ≤ w'.heap.size
  block : ∀ k, k < w.heap.size → k ≠ B → w'.heap[k]? = w.heap[k]?
theorem KB.refl (B : Nat) (w : World) : KB B w w := ⟨rfl, rfl, rfl, Nat.le_refl _, fun _ _ _ => rfl⟩
theorem KB.trans {B : Nat} {w w' w'' : World} (h : KB B w w') (k : KB B w' w'') : KB B w w'' :=
  ⟨k.os.trans h.os, k.tape.trans h.tape, k.output.trans h.output, Nat.le_trans h.size k.size, fun i hi hne => (k.block i (Nat.lt_of_lt_of_le hi h.size) hne).trans (h.block i hi hne)⟩
theorem KB.of_below {B : Nat} {w w' : World} (h : Below w.heap.size w w') : KB B w w' := ⟨h.os, h.tape, h.output, h.size, fun k hk _ => h.block k hk⟩
theorem KB.set {B : Nat} {w w' : World} (h : KB B w w') (v : Value) : KB B w (w'.setCell ⟨B, 0, none⟩ v) :=
  ⟨h.os, h.tape, h.output, Nat.le_trans h.size (KeepsWalks.setCell _ _ _).size, fun k hk hne => (Below.heap_setCell _ _ _ k (fun e => hne e)).trans (h.block k hk hne)⟩
def noInt (v : Value) : Prop := ∀ i, v ≠ .int .i64 i
theorem cell_kb {B : Nat} {w w' : World} {t : TypeId} {n : Int} (h : KB B w w') (hb : Boxed w B t (.int .i64 n)) {p : Addr} {v : Value} (hc : w.cell? p = some v) (hn : noInt v) : w'.cell? p = some v := by
  by_cases e : p.block = B
  · exfalso
    unfold World.cell? at hc
    rw [e, show w.heap[B]? = _ from hb] at hc
    simp only [] at hc
    match ho : p.off with
    | 0 => rw [ho] at hc; simp at hc; exact hn n hc.2.symm
    | k + 1 => rw [ho] at hc; simp at hc
  · exact (World.cell?_of_block (w := w) (h.block p.block (World.block_lt_of_cell? _ _ hc) e)).trans hc
theorem noInt_str (s : ByteArray) : noInt (.string s) := fun i e => by cases e
theorem noInt_slice (A : Option Addr) (n c : Nat) : noInt (.slice A n c) := fun i e => by cases e
section
variable {B : Nat} {w w' : World} {t : TypeId} {n : Int} (h : KB B w w') (hb : Boxed w B t (.int .i64 n))
include h hb
theorem SL.kb {A : Option Addr} {l : List ByteArray} (hs : SL A l w) : SL A l w' := fun k hk => by
  obtain ⟨ad, e, hc⟩ := hs k hk
  exact ⟨ad, e, cell_kb h hb hc (noInt_str _)⟩
theorem PS.kb {A : Option Addr} {l : List PPm} (hs : PS A l w) : PS A l w' := fun k hk => by
  obtain ⟨ad, Av, c, e, h1, h2, h3⟩ := hs k hk
  exact ⟨ad, Av, c, e, cell_kb h hb h1 (noInt_str _), cell_kb h hb h2 (noInt_slice _ _ _), h3.kb h hb⟩
theorem LS.kb {A : Option Addr} {l : List PLn} (hs : LS A l w) : LS A l w' := fun k hk => by
  obtain ⟨ad, Av, c, e, h1, h2, h3, h4, h5⟩ := hs k hk
  exact ⟨ad, Av, c, e, cell_kb h hb h1 (noInt_str _), cell_kb h hb h2 (noInt_slice _ _ _), cell_kb h hb h3 (noInt_str _), h4.kb h hb, h5⟩
end
mutual
theorem PtM.kb {B : Nat} {w w' : World} {t : TypeId} {n : Int} (h : KB B w w') (hb : Boxed w B t (.int .i64 n)) : ∀ (x : PPt) (v : Value), PtM x v w → PtM x v w'
  | .mk nm ls ks, v, hp => by
    unfold PtM at hp ⊢
    obtain ⟨h1, h2, h3, A, c, A2, c2, e, h4, h5⟩ := hp
    exact ⟨h1, h2, h3, A, c, A2, c2, e, h4.kb h hb, KsM.kb h hb ks A2 0 h5⟩
theorem KsM.kb {B : Nat} {w w' : World} {t : TypeId} {n : Int} (h : KB B w w') (hb : Boxed w B t (.int .i64 n)) : ∀ (ks : List PPt) (A : Option Addr) (i : Nat), KsM ks A i w → KsM ks A i w'
  | [], _, _, _ => by unfold KsM; trivial
  | k :: ks, A, i, hp => by
    unfold KsM at hp ⊢
    obtain ⟨⟨ad, a, b, c, e, h1, h2, h3, h4⟩, h5⟩ := hp
    have h6 := h4
    cases k with
    | mk nm ls ks' =>
      unfold PtM at h6
      obtain ⟨_, _, _, A', c', A2', c2', e', _, _⟩ := h6
      simp only [Value.agg.injEq, Array.mk.injEq, List.cons.injEq, and_true] at e'
      obtain ⟨rfl, rfl, rfl⟩ := e'
      exact ⟨⟨ad, _, _, _, e, cell_kb h hb h1 (noInt_str _), cell_kb h hb h2 (noInt_slice _ _ _), cell_kb h hb h3 (noInt_slice _ _ _), PtM.kb h hb _ _ h4⟩, KsM.kb h hb ks A (i + 1) h5⟩
end
end Go.Proofs.YtponocolfjkapaaDoor
