/- moments.Set.Not. -/
import Derived.Test.YtmdghaaahknocaaMomP
import Derived.Test.YtmdghaaahknocaaMomR
namespace Go.Proofs.Ytmdghaaahknocaa
open Go.RowKit Go.Shelf
set_option linter.unusedVariables false
set_option linter.unusedSimpArgs false
attribute [local go_sem] Oper.semAt_some

set_option maxRecDepth 100000 in
set_option maxHeartbeats 4000000 in
theorem boxed_inj {W : World} {B : Nat} {t : TypeId} {u v : Value} (h : Boxed W B t u) (h' : Boxed W B t v) : u = v := by
  have := h.cell.symm.trans h'.cell
  exact Option.some.inj this
theorem own_ne {W : World} {b : Nat} {e : TypeId} {z : Nat} {v : Value} {n : Nat} {xs : List Value} (h : W.ownsRow b e z v n xs) : some W.heap.size ≠ v.ownBlock := by
  rcases h.2 with ⟨rfl, _⟩ | ⟨g, cap, cur, rfl, _, hgb, _⟩
  · simp [Value.ownBlock]
  · intro e'
    obtain rfl : W.heap.size = g := by simpa [Value.ownBlock] using e'
    rw [Array.getElem?_eq_none (Nat.le_refl _)] at hgb
    cases hgb
set_option maxRecDepth 100000 in
set_option maxHeartbeats 4000000 in
theorem not_in (a : Option Addr) (len cap : Nat) (zs : List (Int × Int)) (hlen : zs.length ≤ 1000000) (w : World) (h : SpsB w.heap.size w (.slice a len cap) zs) :
    CallsIn Fence.wide 6 Try.prog 18 #[.agg #[.slice a len cap]] w fun e W' => ∃ v, e = .returned (.agg #[v]) ∧ W'.ownsRow w.heap.size 32 2 v (ntL zs).length (clZ (ntL zs)) ∧ Below w.heap.size w W' := by
  have hro : Fence.wide.round = none := rfl
  refine callsIn_of_wp_marks Try.func18 rfl trivial ?_ hro
  simp only [Try.ntmps18, List.size_toArray, List.length_cons, List.length_nil, Nat.reduceAdd, Nat.reduceSub, Array.replicate_succ, Array.replicate_zero, List.push_toArray, List.append_toArray, List.nil_append, List.cons_append]
  have hf1 : Fence.wide.fn 28 := trivial
  have hf2 : Fence.wide.fn 20 := trivial
  have hA := fun (W : World) => all_in Fence.wide 5 trivial hro a len cap W
  gi_wp2_with (gi_at_call 28; refine (hA _).mono ?_; rintro e w2 ⟨rfl, rfl⟩)
  try simp only [World.size_alloc]
  have bR : Boxed (((((w.alloc (.cells #[.slice a len cap] 25)).alloc (.cells #[.slice none 0 0] 25)).alloc (.cells #[.slice none 0 0] 22)).alloc (.cells #[.int .i64 (-1152921504606846976)] 3)).alloc (.cells #[.slice a len cap] 25)) (w.heap.size + 1) 25 (.slice none 0 0) := by
    have := (((Boxed.new (w.alloc (.cells #[.slice a len cap] 25)) 25 (.slice none 0 0)).alloc (.cells #[.slice none 0 0] 22)).alloc (.cells #[.int .i64 (-1152921504606846976)] 3)).alloc (.cells #[.slice a len cap] 25)
    simpa only [World.size_alloc] using this
  have bO : Boxed (((((w.alloc (.cells #[.slice a len cap] 25)).alloc (.cells #[.slice none 0 0] 25)).alloc (.cells #[.slice none 0 0] 22)).alloc (.cells #[.int .i64 (-1152921504606846976)] 3)).alloc (.cells #[.slice a len cap] 25)) (w.heap.size + 1 + 1) 22 (.slice none 0 0) := by
    have := ((Boxed.new ((w.alloc (.cells #[.slice a len cap] 25)).alloc (.cells #[.slice none 0 0] 25)) 22 (.slice none 0 0)).alloc (.cells #[.int .i64 (-1152921504606846976)] 3)).alloc (.cells #[.slice a len cap] 25)
    simpa only [World.size_alloc] using this
  have bE : Boxed (((((w.alloc (.cells #[.slice a len cap] 25)).alloc (.cells #[.slice none 0 0] 25)).alloc (.cells #[.slice none 0 0] 22)).alloc (.cells #[.int .i64 (-1152921504606846976)] 3)).alloc (.cells #[.slice a len cap] 25)) (w.heap.size + 1 + 1 + 1) 3 (.int .i64 (-1152921504606846976)) := by
    have := (Boxed.new (((w.alloc (.cells #[.slice a len cap] 25)).alloc (.cells #[.slice none 0 0] 25)).alloc (.cells #[.slice none 0 0] 22)) 3 (.int .i64 (-1152921504606846976))).alloc (.cells #[.slice a len cap] 25)
    simpa only [World.size_alloc] using this
  have bS : Boxed (((((w.alloc (.cells #[.slice a len cap] 25)).alloc (.cells #[.slice none 0 0] 25)).alloc (.cells #[.slice none 0 0] 22)).alloc (.cells #[.int .i64 (-1152921504606846976)] 3)).alloc (.cells #[.slice a len cap] 25)) (w.heap.size + 1 + 1 + 1 + 1) 25 (.slice a len cap) := by
    have := Boxed.new ((((w.alloc (.cells #[.slice a len cap] 25)).alloc (.cells #[.slice none 0 0] 25)).alloc (.cells #[.slice none 0 0] 22)).alloc (.cells #[.int .i64 (-1152921504606846976)] 3)) 25 (.slice a len cap)
    simpa only [World.size_alloc] using this
  have hB0 : Below w.heap.size w (((((w.alloc (.cells #[.slice a len cap] 25)).alloc (.cells #[.slice none 0 0] 25)).alloc (.cells #[.slice none 0 0] 22)).alloc (.cells #[.int .i64 (-1152921504606846976)] 3)).alloc (.cells #[.slice a len cap] 25)) := (((((Below.refl _ w).alloc (Nat.le_refl _) _).alloc (by simp) _).alloc (by simp; omega) _).alloc (by simp; omega) _).alloc (by simp; omega) _
  have hsz : (((((w.alloc (.cells #[.slice a len cap] 25)).alloc (.cells #[.slice none 0 0] 25)).alloc (.cells #[.slice none 0 0] 22)).alloc (.cells #[.int .i64 (-1152921504606846976)] 3)).alloc (.cells #[.slice a len cap] 25)).heap.size = w.heap.size + 5 := by simp only [World.size_alloc]
  obtain ⟨W0, hW0⟩ : ∃ W0, (((((w.alloc (.cells #[.slice a len cap] 25)).alloc (.cells #[.slice none 0 0] 25)).alloc (.cells #[.slice none 0 0] 22)).alloc (.cells #[.int .i64 (-1152921504606846976)] 3)).alloc (.cells #[.slice a len cap] 25)) = W0 := ⟨_, rfl⟩
  rw [hW0] at bR bO bE bS hB0 hsz ⊢
  clear hW0
  have hseq := all_stops Fence.wide 5 trivial hro (by omega) (w.heap.size + 1 + 1 + 1 + 1) w.heap.size (.slice a len cap) zs (by omega) W0 (by omega) (by omega) bS.cell (h.below hB0)
  refine wpIn_rangeFunc_ownH hro (by omega) (gf := 35) (lb := #[.pointer (some ⟨w.heap.size + 1 + 1 + 1 + 1, 0, none⟩)]) rfl trivial (enters_of Try.func35 (by kernel_rfl) rfl) hseq belowK_t (belowK_b (by omega)) (Below.refl _ _) (fun _ => rfl)
    (fun pre W => (((∃ v, Boxed W (w.heap.size + 1 + 1) 22 v ∧ W.ownsRow (w.heap.size + 1 + 1 + 1 + 1 + 1) 32 2 v (ntS pre).1.length (clZ (ntS pre).1) ∧ True) ∧ Boxed W (w.heap.size + 1 + 1 + 1) 3 (.int .i64 (ntS pre).2)) ∧ Boxed W (w.heap.size + 1) 25 (.slice none 0 0)) ∧ Below w.heap.size w W)
    (fun _ _ _ => False)
    (OwnFrom.and (OwnFrom.and (OwnFrom.and (Own.from (holdsRow_own (w.heap.size + 1 + 1 + 1 + 1 + 1) (w.heap.size + 1 + 1) 22 32 2 (fun pre => (ntS pre).1.length) (fun pre => clZ (ntS pre).1) (fun _ _ => True)) _) (Own.from (boxed_own _ _ _) _)) (Own.from (boxed_own _ _ _) _)) (ownFrom_below (Nat.le_refl _) (by omega)))
    (fun _ _ _ _ _ hs _ _ => hs)
    ⟨⟨⟨⟨_, bO, World.ownsRow_nil _ _ _ _, trivial⟩, bE⟩, bR⟩, hB0⟩
    (fun x a' W => ∃ Bx v, (Boxed W (w.heap.size + 1 + 1) 22 v ∧ some Bx ≠ v.ownBlock) ∧ Box2 W Bx x ∧ a' = { tmps := #[.agg #[.slice a len cap], .pointer (some ⟨w.heap.size, 0, none⟩), .pointer (some ⟨w.heap.size + 1, 0, none⟩), .pointer (some ⟨w.heap.size + 1 + 1, 0, none⟩), .pointer (some ⟨w.heap.size + 1 + 1 + 1, 0, none⟩), .pointer (some ⟨Bx, 0, none⟩), .agg #[.slice a len cap], .func (.func 35) #[] #[.pointer (some ⟨w.heap.size + 1 + 1 + 1 + 1, 0, none⟩)], .agg #[.int .i64 x.1, .int .i64 x.2], undef, undef, undef, undef, undef, undef, undef, undef, undef, undef, undef, undef, undef], defers := [] })
    (fun x a' _ X Y row hs hg hr => by obtain ⟨Bx, v, h1, h2, h3⟩ := hs; exact ⟨Bx, v, ⟨boxed_own (w.heap.size + 1 + 1) 22 (fun (_ : Unit) => v) () X Y row h1.1 hg (fun r e => (hr r e).2), h1.2⟩, box2_own Bx (fun (_ : Unit) => x) () X Y row h2 hg (fun r e => (hr r e).2), h3⟩)
    ?assign ?body ?done ?stop
  case assign =>
    rintro l pre x W K ⟨⟨⟨⟨v, bv, ho, _⟩, bg⟩, br⟩, hB1⟩ hK
    unfold enc2
    gi_wp2
    exact hK _ _ ((KeepsOthers.alloc _ _).from _) ((Below.refl _ W).alloc hB1.size _) ⟨⟨⟨⟨v, bv.alloc _, ho.alloc _, trivial⟩, bg.alloc _⟩, br.alloc _⟩, hB1.alloc hB1.size _⟩ ⟨W.heap.size, v, ⟨bv.alloc _, own_ne ho⟩, World.alloc_heap_new W _, rfl⟩
  case body =>
    rintro l pre x a' W hl ⟨r, hr⟩ ⟨⟨⟨⟨v, hv, hrow, _⟩, bg⟩, br⟩, hB⟩ ⟨Bx, v', ⟨hv', hBx⟩, bX, rfl⟩ hlt
    obtain rfl : v' = v := boxed_inj hv' hv
    clear hv'
    have hc := hv.cell
    have hf := hv.frozen
    have hcg := bg.cell
    have hfg := bg.frozen
    obtain ⟨hx0, hx1⟩ := bX.cells
    have hpl := ntS_len pre
    have hnx := ntS_next pre x
    unfold nt1 at hnx
    generalize ntS pre = st at hnx hpl hv hrow bg hc hcg
    obtain ⟨acc, en⟩ := st
    dsimp only at hnx hpl hv hrow bg hc hcg
    have hcl : CallsIn Fence.wide (6 - 1 - 1 - 1) Try.prog 20 #[v', .agg #[.int .i64 en, .int .i64 x.1]] W fun e w' => ∃ u, e = .returned u ∧ w'.ownsRow (w.heap.size + 1 + 1 + 1 + 1 + 1) 32 2 u (ly acc (en, x.1)).length (clZ (ly acc (en, x.1))) ∧ Below (w.heap.size + 1 + 1 + 1 + 1 + 1) W w' ∧ KeepsOthers W w' ∧ ∀ j, j < W.heap.size → some j ≠ v'.ownBlock → w'.heap[j]? = W.heap[j]? := (callsIn_wide (n := 3)).2 (lay_any _ v' acc (en, x.1) W (by omega) hrow (by have := (Array.getElem?_eq_some_iff.1 hr).1; omega))
    gi_wp2_with (gi_at_call 20; refine (CallsIn.inRound l hcl).mono ?_; rintro e w2 ⟨v2, rfl, ho2, hb2, hk2, hj2⟩; obtain ⟨a2, l2, c2, rfl⟩ := own_form ho2; have hv2 : Boxed w2 (w.heap.size + 1 + 1) 22 v' := (hb2.block _ (by omega)).trans hv; have hc2 := hv2.cell; have hf2 := hv2.frozen; have bX2 : Box2 w2 Bx x := (hj2 Bx (Array.getElem?_eq_some_iff.1 bX).1 hBx).trans bX; have bg2 : Boxed w2 (w.heap.size + 1 + 1 + 1) 3 (.int .i64 en) := (hb2.block _ (by omega)).trans bg; have hy0 := bX2.cells.1; have hy1 := bX2.cells.2; have hcg2 := bg2.cell; have hfg2 := bg2.frozen)
    have br2 : Boxed w2 (w.heap.size + 1) 25 (.slice none 0 0) := (hb2.block _ (by omega)).trans br
    have hb3 : Below w.heap.size W ((w2.setCell ⟨w.heap.size + 1 + 1, 0, none⟩ (.slice a2 l2 c2)).setCell ⟨w.heap.size + 1 + 1 + 1, 0, none⟩ (.int .i64 x.2)) := ((hb2.mono (by omega)).setCell (p := ⟨w.heap.size + 1 + 1, 0, none⟩) (by show w.heap.size ≤ w.heap.size + 1 + 1; omega) _).setCell (p := ⟨w.heap.size + 1 + 1 + 1, 0, none⟩) (by show w.heap.size ≤ w.heap.size + 1 + 1 + 1; omega) _
    refine ⟨((hk2.trans (KeepsOthers.setCell _ _ _)).trans (KeepsOthers.setCell _ _ _)).from _, hb3, ⟨⟨⟨⟨_, (hv2.set (.slice a2 l2 c2)).other (by omega) _, ?_, trivial⟩, ?_⟩, (br2.other (by omega) _).other (by omega) _⟩, hB.trans hb3⟩⟩
    · rw [hnx]
      exact ownsRow_setCell_below (ownsRow_setCell_below ho2 (a := ⟨w.heap.size + 1 + 1, 0, none⟩) (by show w.heap.size + 1 + 1 < _; omega) _) (a := ⟨w.heap.size + 1 + 1 + 1, 0, none⟩) (by show w.heap.size + 1 + 1 + 1 < _; omega) _
    · rw [hnx]
      exact (bg2.other (by omega) _).set (.int .i64 x.2)
  case done =>
    rintro D ys W hD rfl ⟨⟨⟨⟨v, hv, hrow, _⟩, bg⟩, br⟩, hB⟩ hK
    have hc := hv.cell
    have hcg := bg.cell
    have hl1 := ntS_len ys
    have hcl : CallsIn Fence.wide (6 - 1) Try.prog 20 #[v, .agg #[.int .i64 (ntS ys).2, .int .i64 1152921504606846976]] W fun e w' => ∃ u, e = .returned u ∧ w'.ownsRow (w.heap.size + 1 + 1 + 1 + 1 + 1) 32 2 u (ly (ntS ys).1 ((ntS ys).2, 1152921504606846976)).length (clZ (ly (ntS ys).1 ((ntS ys).2, 1152921504606846976))) ∧ Below (w.heap.size + 1 + 1 + 1 + 1 + 1) W w' ∧ KeepsOthers W w' ∧ ∀ j, j < W.heap.size → some j ≠ v.ownBlock → w'.heap[j]? = W.heap[j]? := (callsIn_wide (n := 5)).2 (lay_any _ v (ntS ys).1 ((ntS ys).2, 1152921504606846976) W (by omega) hrow (by have := (Array.getElem?_eq_some_iff.1 hK).1; omega))
    gi_wp2_with (gi_at_call 20; refine hcl.mono ?_; rintro e w2 ⟨v2, rfl, ho2, hb2, hk2, hj2⟩; obtain ⟨a2, l2, c2, rfl⟩ := own_form ho2; have br2 : Boxed w2 (w.heap.size + 1) 25 (.slice none 0 0) := (hb2.block _ (by omega)).trans br; have hcr2 := br2.cell; have hfr2 := br2.frozen)
    have hK2 : (w2.setCell ⟨w.heap.size + 1, 0, none⟩ (.slice a2 l2 c2)).heap[D]? = some (.deferred (some [])) := (hk2.trans (KeepsOthers.setCell _ _ _)).2 D _ hK rfl
    have hb3 : Below w.heap.size W (w2.setCell ⟨w.heap.size + 1, 0, none⟩ (.slice a2 l2 c2)) := (hb2.mono (by omega)).setCell (p := ⟨w.heap.size + 1, 0, none⟩) (by show w.heap.size ≤ w.heap.size + 1; omega) _
    have ho3 := ownsRow_setCell_below ho2 (a := ⟨w.heap.size + 1, 0, none⟩) (by show w.heap.size + 1 < _; omega) (.slice a2 l2 c2)
    have br3 := br2.set (.slice a2 l2 c2)
    refine ⟨by simp, .inl ⟨_, _, rfl, run_takeDeferred hK2, ?_⟩⟩
    have br4 : Boxed (((w2.setCell ⟨w.heap.size + 1, 0, none⟩ (.slice a2 l2 c2))).putObj D (.deferred none)) (w.heap.size + 1) 25 (.slice a2 l2 c2) := br3.kept (grownBy_putObj' _ D _) (by intro e; cases e; omega)
    have hc4 := br4.cell
    refine ⟨.agg #[.slice a2 l2 c2], ?_, .slice a2 l2 c2, rfl, own_mono0 (ownsRow_putObj ho3 _ hK2 rfl) (by omega), (hB.trans hb3).trans (belowK_b (w := w) (Nat.le_refl _) _ D _ _ (by omega) hK2 rfl rfl)⟩
    simp [results, Try.results18, go_sem, hc4]
  case stop =>
    rintro D c pre W _ _ h _
    exact h.elim
end Go.Proofs.Ytmdghaaahknocaa
