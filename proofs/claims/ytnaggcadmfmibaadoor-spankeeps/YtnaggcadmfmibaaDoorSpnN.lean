/- The spans with six ends, laid in a list; the table of what follows: plain mathematics and small laws. -/
import Derived.Test.YtnaggcadmfmibaaDoorSpnE
import Derived.Deep.AppendLies
namespace Go.Proofs.YtnaggcadmfmibaaDoor
open Go.RowKit
set_option linter.unusedVariables false
set_option linter.unusedSimpArgs false

theorem infoSpan : (Tryd.prog.info? 29).map (fun i => (i.zero, i.size, i.bytes)) = some (some (.agg #[.int .i64 0, .int .i64 0]), 2, 16) := by kernel_rfl
/-- spans as cells; how many spans begin ahead of a number -/
def spC (L : List (Nat × Nat)) : List Value := L.flatMap fun u => [.int .i64 (u.1 : Int), .int .i64 (u.2 : Int)]
def cnt (i : Nat) : Nat := [0, 5, 9, 12, 14, 15, 15].getD i 0
theorem cnt_next (n m : Nat) (h : n < m) (k : m < 6) : spC (Spn.sp6.take (cnt n + (m - n - 1))) ++ [.int .i64 (n : Int), .int .i64 (m : Int)] = spC (Spn.sp6.take (cnt n + (m + 1 - n - 1))) ∧ cnt n + (m - n - 1) < 15 := by
  have g : ∀ n : Fin 6, ∀ m : Fin 6, n.1 < m.1 → Spn.sp6.take (cnt n.1 + (m.1 - n.1 - 1)) ++ [(n.1, m.1)] = Spn.sp6.take (cnt n.1 + (m.1 + 1 - n.1 - 1)) ∧ cnt n.1 + (m.1 - n.1 - 1) < 15 := by decide +kernel
  obtain ⟨g1, g2⟩ := g ⟨n, by omega⟩ ⟨m, k⟩ h
  refine ⟨?_, g2⟩
  rw [← g1]
  unfold spC
  simp
theorem cnt_end (n : Nat) (h : n < 6) : cnt n + (6 - n - 1) = cnt (n + 1) := by
  have g : ∀ n : Fin 6, cnt n.1 + (6 - n.1 - 1) = cnt (n.1 + 1) := by decide +kernel
  exact g ⟨n, h⟩
/-- the k-th span; a box that holds a span -/
def sp (k : Nat) : Nat × Nat := Spn.sp6.getD k (0, 0)
theorem sp_cell (k : Nat) (h : k < 15) : (spC Spn.sp6)[k * 2]? = some (.int .i64 ((sp k).1 : Int)) ∧ (spC Spn.sp6)[k * 2 + 1]? = some (.int .i64 ((sp k).2 : Int)) := by
  have g : ∀ k : Fin 15, (spC Spn.sp6)[k.1 * 2]? = some (.int .i64 ((sp k.1).1 : Int)) ∧ (spC Spn.sp6)[k.1 * 2 + 1]? = some (.int .i64 ((sp k.1).2 : Int)) := by
    intro k
    match k with
    | 0 | 1 | 2 | 3 | 4 | 5 | 6 | 7 | 8 | 9 | 10 | 11 | 12 | 13 | 14 => exact ⟨rfl, rfl⟩
  exact g ⟨k, h⟩
theorem sp_lt (k : Nat) (h : k < 15) : (sp k).1 < (sp k).2 := by
  have g : ∀ k : Fin 15, (sp k.1).1 < (sp k.1).2 := by decide +kernel
  exact g ⟨k, h⟩
theorem sp_take (k : Nat) (h : k < 15) : Spn.sp6.take (k + 1) = Spn.sp6.take k ++ [sp k] := by
  have g : ∀ k : Fin 15, Spn.sp6.take (k.1 + 1) = Spn.sp6.take k.1 ++ [sp k.1] := by decide +kernel
  exact g ⟨k, h⟩
def Bx (b : Nat) (u : Nat × Nat) (X : World) : Prop := b < X.heap.size ∧ X.cell? ⟨b, 0, none⟩ = some (.int .i64 (u.1 : Int)) ∧ X.cell? ⟨b, 1, none⟩ = some (.int .i64 (u.2 : Int))
theorem Bx.step {b : Nat} {u : Nat × Nat} {X X' : World} (h : Bx b u X) (hb : Below X.heap.size X X') : Bx b u X' :=
  ⟨Nat.lt_of_lt_of_le h.1 hb.size, (hb.cell (p := ⟨b, 0, none⟩) h.1).trans h.2.1, (hb.cell (p := ⟨b, 1, none⟩) h.1).trans h.2.2⟩
theorem wayP_lt (u v : Nat × Nat) : Spn.wayP u v < 13 := Spn.way_lt _ _ _ _
theorem or_lt (s k : Nat) (hs : s < 8192) (hk : k < 13) : s ||| 2 ^ k < 8192 :=
  Nat.or_lt_two_pow (n := 13) hs (Nat.pow_lt_pow_right (by omega) hk)
theorem fin1_lt (u v : Nat × Nat) (q : Nat) : ∀ (l : List (Nat × Nat)) (s : Nat), s < 8192 → Spn.fin1 u v q l s < 8192 := by
  intro l
  induction l with
  | nil => intro s h; exact h
  | cons w l ih =>
    intro s h
    show Spn.fin1 u v q l (if Spn.wayP v w = q then s ||| 2 ^ Spn.wayP u w else s) < 8192
    refine ih _ ?_
    split
    · exact or_lt _ _ h (wayP_lt u w)
    · exact h
theorem fin2_lt (u : Nat × Nat) (p q : Nat) : ∀ (l : List (Nat × Nat)) (s : Nat), s < 8192 → Spn.fin2 u p q l s < 8192 := by
  intro l
  induction l with
  | nil => intro s h; exact h
  | cons v l ih =>
    intro s h
    show Spn.fin2 u p q l (if Spn.wayP u v = p then Spn.fin1 u v q Spn.sp6 s else s) < 8192
    refine ih _ ?_
    split
    · exact fin1_lt _ _ _ _ _ h
    · exact h
theorem fin3_lt (p q : Nat) : ∀ (l : List (Nat × Nat)) (s : Nat), s < 8192 → Spn.fin3 p q l s < 8192 := by
  intro l
  induction l with
  | nil => intro s h; exact h
  | cons u l ih => intro s h; exact ih _ (fin2_lt _ _ _ _ _ h)
theorem fin1_next (u v : Nat × Nat) (q k s : Nat) (h : k < 15) : Spn.fin1 u v q (Spn.sp6.take (k + 1)) s = if Spn.wayP v (sp k) = q then Spn.fin1 u v q (Spn.sp6.take k) s ||| 2 ^ Spn.wayP u (sp k) else Spn.fin1 u v q (Spn.sp6.take k) s := by
  rw [sp_take k h]; unfold Spn.fin1; rw [List.foldl_append]; rfl
theorem fin2_next (u : Nat × Nat) (p q k s : Nat) (h : k < 15) : Spn.fin2 u p q (Spn.sp6.take (k + 1)) s = if Spn.wayP u (sp k) = p then Spn.fin1 u (sp k) q Spn.sp6 (Spn.fin2 u p q (Spn.sp6.take k) s) else Spn.fin2 u p q (Spn.sp6.take k) s := by
  rw [sp_take k h]; unfold Spn.fin2; rw [List.foldl_append]; rfl
theorem fin3_next (p q k s : Nat) (h : k < 15) : Spn.fin3 p q (Spn.sp6.take (k + 1)) s = Spn.fin2 (sp k) p q Spn.sp6 (Spn.fin3 p q (Spn.sp6.take k) s) := by
  rw [sp_take k h]; unfold Spn.fin3; rw [List.foldl_append]; rfl
theorem or_pow (s k : Nat) (hs : s < 8192) (hk : k < 13) : bits .or .i64 (s : Int) (wrap64 (2 ^ k)) = ((s ||| 2 ^ k : Nat) : Int) := by
  have g : (2 : Nat) ^ k ≤ 2 ^ 13 := Nat.pow_le_pow_right (by omega) (by omega)
  rw [wrap64_pow k hk]
  exact i64_or_nat _ _ (by omega) (by omega)
theorem bx_new (w : World) (u : Nat × Nat) : Bx w.heap.size u (w.alloc (.cells #[.int .i64 (u.1 : Int), .int .i64 (u.2 : Int)] 29)) := ⟨by simp, by simp [go_sem], by simp [go_sem]⟩
theorem Bx.alloc {b : Nat} {u : Nat × Nat} {X : World} (h : Bx b u X) (o : Obj) : Bx b u (X.alloc o) := h.step ((Below.refl _ _).alloc (Nat.le_refl _) _)
theorem take15 : Spn.sp6.take 15 = Spn.sp6 := rfl
/-- the table: as a row of cells -/
def tabA (M : Nat → Nat → Nat) : Array Value := ((List.range 169).map fun j => Value.int .i64 (M (j / 13) (j % 13) : Nat)).toArray
theorem tabA_size (M : Nat → Nat → Nat) : (tabA M).size = 169 := by simp [tabA]
theorem tabA_get (M : Nat → Nat → Nat) (i k : Nat) (hi : i < 13) (hk : k < 13) : (tabA M)[i * 13 + k]? = some (.int .i64 (M i k : Nat)) := by
  unfold tabA
  rw [List.getElem?_toArray, List.getElem?_map, List.getElem?_range (by omega)]
  simp only [Option.map_some]
  rw [show (i * 13 + k) / 13 = i by omega, show (i * 13 + k) % 13 = k by omega]
def upd (M : Nat → Nat → Nat) (i k v : Nat) : Nat → Nat → Nat := fun a b => if a = i ∧ b = k then v else M a b
theorem tabA_set (M : Nat → Nat → Nat) (i k v : Nat) (hi : i < 13) (hk : k < 13) : (tabA M).setIfInBounds (i * 13 + k) (.int .i64 (v : Nat)) = tabA (upd M i k v) := by
  apply Array.ext_getElem?
  intro j
  rw [Array.getElem?_setIfInBounds]
  by_cases hj : j < 169
  · obtain ⟨a, b, ha, hb, rfl⟩ : ∃ a b, a < 13 ∧ b < 13 ∧ j = a * 13 + b := ⟨j / 13, j % 13, by omega, by omega, by omega⟩
    rw [tabA_get _ a b ha hb, tabA_get _ a b ha hb]
    unfold upd
    by_cases h : a = i ∧ b = k
    · obtain ⟨rfl, rfl⟩ := h
      rw [if_pos rfl, if_pos (by rw [tabA_size]; omega), if_pos ⟨rfl, rfl⟩]
    · rw [if_neg (by omega), if_neg h]
  · rw [Array.getElem?_eq_none (by rw [tabA_size]; omega), Array.getElem?_eq_none (by rw [tabA_size]; omega)]
    split
    · rw [if_neg (by rw [tabA_size]; omega)]
    · rfl
def g1 (u v : Nat × Nat) (l : List (Nat × Nat)) (M : Nat → Nat → Nat) : Nat → Nat → Nat := l.foldl (fun M w => upd M (Spn.wayP u v) (Spn.wayP v w) (M (Spn.wayP u v) (Spn.wayP v w) ||| 2 ^ Spn.wayP u w)) M
def g2 (u : Nat × Nat) (l : List (Nat × Nat)) (M : Nat → Nat → Nat) : Nat → Nat → Nat := l.foldl (fun M v => g1 u v Spn.sp6 M) M
def g3 (l : List (Nat × Nat)) (M : Nat → Nat → Nat) : Nat → Nat → Nat := l.foldl (fun M u => g2 u Spn.sp6 M) M
theorem g1_at (u v : Nat × Nat) (i k : Nat) : ∀ (l : List (Nat × Nat)) (M : Nat → Nat → Nat), g1 u v l M i k = if Spn.wayP u v = i then Spn.fin1 u v k l (M i k) else M i k := by
  intro l
  induction l with
  | nil => intro M; show M i k = if Spn.wayP u v = i then M i k else M i k; split <;> rfl
  | cons w l ih =>
    intro M
    show g1 u v l (upd M (Spn.wayP u v) (Spn.wayP v w) (M (Spn.wayP u v) (Spn.wayP v w) ||| 2 ^ Spn.wayP u w)) i k = if Spn.wayP u v = i then Spn.fin1 u v k l (if Spn.wayP v w = k then M i k ||| 2 ^ Spn.wayP u w else M i k) else M i k
    rw [ih]
    unfold upd
    by_cases h1 : Spn.wayP u v = i
    · rw [if_pos h1, if_pos h1, h1]
      by_cases h2 : Spn.wayP v w = k
      · rw [if_pos ⟨rfl, h2.symm⟩, if_pos h2, h2]
      · rw [if_neg (by rintro ⟨_, g⟩; exact h2 g.symm), if_neg h2]
    · rw [if_neg h1, if_neg h1, if_neg (by rintro ⟨g, _⟩; exact h1 g.symm)]
theorem g2_at (u : Nat × Nat) (i k : Nat) : ∀ (l : List (Nat × Nat)) (M : Nat → Nat → Nat), g2 u l M i k = Spn.fin2 u i k l (M i k) := by
  intro l
  induction l with
  | nil => intro M; rfl
  | cons v l ih =>
    intro M
    show g2 u l (g1 u v Spn.sp6 M) i k = Spn.fin2 u i k l (if Spn.wayP u v = i then Spn.fin1 u v k Spn.sp6 (M i k) else M i k)
    rw [ih, g1_at]
theorem g3_at (i k : Nat) : ∀ (l : List (Nat × Nat)) (M : Nat → Nat → Nat), g3 l M i k = Spn.fin3 i k l (M i k) := by
  intro l
  induction l with
  | nil => intro M; rfl
  | cons u l ih =>
    intro M
    show g3 l (g2 u Spn.sp6 M) i k = Spn.fin3 i k l (Spn.fin2 u i k Spn.sp6 (M i k))
    rw [ih, g2_at]
theorem g3_fol : tabA (g3 Spn.sp6 fun _ _ => 0) = tabA Spn.fol := by
  apply Array.ext_getElem?
  intro j
  by_cases hj : j < 169
  · obtain ⟨a, b, ha, hb, rfl⟩ : ∃ a b, a < 13 ∧ b < 13 ∧ j = a * 13 + b := ⟨j / 13, j % 13, by omega, by omega, by omega⟩
    rw [tabA_get _ a b ha hb, tabA_get _ a b ha hb, g3_at, Spn.fin_fol a b ha hb]
  · rw [Array.getElem?_eq_none (by rw [tabA_size]; omega), Array.getElem?_eq_none (by rw [tabA_size]; omega)]
/-- all of a table is a set -/
def Lo (M : Nat → Nat → Nat) : Prop := ∀ i k, M i k < 8192
theorem g1_lo (u v : Nat × Nat) (l : List (Nat × Nat)) {M : Nat → Nat → Nat} (h : Lo M) : Lo (g1 u v l M) := by
  intro i k
  rw [g1_at]
  split
  · exact fin1_lt _ _ _ _ _ (h i k)
  · exact h i k
theorem g2_lo (u : Nat × Nat) (l : List (Nat × Nat)) {M : Nat → Nat → Nat} (h : Lo M) : Lo (g2 u l M) := fun i k => by rw [g2_at]; exact fin2_lt _ _ _ _ _ (h i k)
theorem g3_lo (l : List (Nat × Nat)) {M : Nat → Nat → Nat} (h : Lo M) : Lo (g3 l M) := fun i k => by rw [g3_at]; exact fin3_lt _ _ _ _ (h i k)
theorem g1_next (u v : Nat × Nat) (k : Nat) (h : k < 15) (M : Nat → Nat → Nat) : g1 u v (Spn.sp6.take (k + 1)) M = upd (g1 u v (Spn.sp6.take k) M) (Spn.wayP u v) (Spn.wayP v (sp k)) (g1 u v (Spn.sp6.take k) M (Spn.wayP u v) (Spn.wayP v (sp k)) ||| 2 ^ Spn.wayP u (sp k)) := by
  rw [sp_take k h]; unfold g1; rw [List.foldl_append, List.foldl_cons, List.foldl_nil]
theorem g2_next (u : Nat × Nat) (k : Nat) (h : k < 15) (M : Nat → Nat → Nat) : g2 u (Spn.sp6.take (k + 1)) M = g1 u (sp k) Spn.sp6 (g2 u (Spn.sp6.take k) M) := by
  rw [sp_take k h]; unfold g2; rw [List.foldl_append, List.foldl_cons, List.foldl_nil]
theorem g3_next (k : Nat) (h : k < 15) (M : Nat → Nat → Nat) : g3 (Spn.sp6.take (k + 1)) M = g2 (sp k) Spn.sp6 (g3 (Spn.sp6.take k) M) := by
  rw [sp_take k h]; unfold g3; rw [List.foldl_append, List.foldl_cons, List.foldl_nil]
end Go.Proofs.YtnaggcadmfmibaaDoor
