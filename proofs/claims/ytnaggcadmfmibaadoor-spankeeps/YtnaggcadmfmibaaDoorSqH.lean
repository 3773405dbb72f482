/- package span: searchOf. -/
import Derived.Test.YtnaggcadmfmibaaDoorSqG
namespace Go.Proofs.YtnaggcadmfmibaaDoor
open Go.RowKit
set_option linter.unusedVariables false
set_option linter.unusedSimpArgs false

/-- the cells of a search -/
def srA (n : Nat) (sv : Value) (V : Nat → Nat → Value) : Array Value := (Value.int .i64 (n : Int) :: sv :: (List.range 36).map fun j => V (j / 6) (j % 6)).toArray
theorem srA_size (n : Nat) (sv : Value) (V : Nat → Nat → Value) : (srA n sv V).size = 38 := by simp [srA]
theorem srA_0 (n : Nat) (sv : Value) (V : Nat → Nat → Value) : (srA n sv V)[0]? = some (.int .i64 n) := by unfold srA; rfl
theorem srA_1 (n : Nat) (sv : Value) (V : Nat → Nat → Value) : (srA n sv V)[1]? = some sv := by unfold srA; rfl
theorem srA_get (n : Nat) (sv : Value) (V : Nat → Nat → Value) (i k : Nat) (hi : i < 6) (hk : k < 6) : (srA n sv V)[2 + i * 6 + k]? = some (V i k) := by
  unfold srA
  rw [List.getElem?_toArray, show 2 + i * 6 + k = (i * 6 + k) + 1 + 1 by omega, List.getElem?_cons_succ, List.getElem?_cons_succ, List.getElem?_map, List.getElem?_range (by omega)]
  simp only [Option.map_some]
  rw [show (i * 6 + k) / 6 = i by omega, show (i * 6 + k) % 6 = k by omega]
def updV (V : Nat → Nat → Value) (i k : Nat) (v : Value) : Nat → Nat → Value := fun a b => if a = i ∧ b = k then v else V a b
theorem srA_set (n : Nat) (sv : Value) (V : Nat → Nat → Value) (i k : Nat) (v : Value) (hi : i < 6) (hk : k < 6) : (srA n sv V).setIfInBounds (2 + i * 6 + k) v = srA n sv (updV V i k v) := by
  apply Array.ext_getElem?
  intro j
  rw [Array.getElem?_setIfInBounds]
  rcases Nat.lt_or_ge j 38 with hj | hj
  · match j, hj with
    | 0, _ => rw [if_neg (by omega), srA_0, srA_0]
    | 1, _ => rw [if_neg (by omega), srA_1, srA_1]
    | j + 2, hj =>
      obtain ⟨a, b, ha, hb, he⟩ : ∃ a b, a < 6 ∧ b < 6 ∧ j + 2 = 2 + a * 6 + b := ⟨j / 6, j % 6, by omega, by omega, by omega⟩
      rw [he, srA_get _ _ _ a b ha hb, srA_get _ _ _ a b ha hb]
      unfold updV
      by_cases h : a = i ∧ b = k
      · obtain ⟨rfl, rfl⟩ := h
        rw [if_pos rfl, if_pos (by rw [srA_size]; omega), if_pos ⟨rfl, rfl⟩]
      · rw [if_neg (by omega), if_neg h]
  · rw [Array.getElem?_eq_none (by rw [srA_size]; omega), Array.getElem?_eq_none (by rw [srA_size]; omega)]
    split
    · rw [if_neg (by rw [srA_size]; omega)]
    · rfl
def Srb (s n : Nat) (sv : Value) (V : Nat → Nat → Value) (X : World) : Prop := X.heap[s]? = some (.cells (srA n sv V) 71 (0, 0))
theorem Srb.at {s n : Nat} {sv : Value} {V : Nat → Nat → Value} {X : World} (h : Srb s n sv V X) (i k : Nat) (hi : i < 6) (hk : k < 6) : X.cell? ⟨s, 2 + i * 6 + k, none⟩ = some (V i k) ∧ X.frozen? ⟨s, 2 + i * 6 + k, none⟩ = false :=
  ⟨(cell_of_row _ _ _ _ _ (0, 0) h).trans (srA_get n sv V i k hi hk), frozen_of_row _ _ _ _ _ h⟩
theorem Srb.c0 {s n : Nat} {sv : Value} {V : Nat → Nat → Value} {X : World} (h : Srb s n sv V X) : X.cell? ⟨s, 0, none⟩ = some (.int .i64 n) := (cell_of_row _ _ _ _ _ (0, 0) h).trans (srA_0 n sv V)
theorem Srb.c1 {s n : Nat} {sv : Value} {V : Nat → Nat → Value} {X : World} (h : Srb s n sv V X) : X.cell? ⟨s, 1, none⟩ = some sv := (cell_of_row _ _ _ _ _ (0, 0) h).trans (srA_1 n sv V)
theorem Srb.lt {s n : Nat} {sv : Value} {V : Nat → Nat → Value} {X : World} (h : Srb s n sv V X) : s < X.heap.size := lt_of_cell (p := ⟨s, 0, none⟩) h.c0
theorem Srb.step {s n : Nat} {sv : Value} {V : Nat → Nat → Value} {X X' : World} (h : Srb s n sv V X) (hb : Below X.heap.size X X') : Srb s n sv V X' := (hb.block _ h.lt).trans h
theorem Srb.set {s n : Nat} {sv : Value} {V : Nat → Nat → Value} {X : World} (h : Srb s n sv V X) (i k : Nat) (v : Value) (hi : i < 6) (hk : k < 6) : Srb s n sv (updV V i k v) (X.setCell ⟨s, 2 + i * 6 + k, none⟩ v) := by
  have := heap_setCell_same X s (2 + i * 6 + k) _ _ v h
  rw [srA_set n sv V i k v hi hk] at this
  exact this
/-- the numbers of the spans -/
def frN (n a : Nat) : Nat := ((spP (2 * n) (2 * n)).getD a (0, 0)).1
def toN (n a : Nat) : Nat := ((spP (2 * n) (2 * n)).getD a (0, 0)).2
def mN (n : Nat) : Nat := (spP (2 * n) (2 * n)).length
theorem enum_all : (List.range 7).all (fun n => decide ((∀ a, a < mN n → frN n a < toN n a ∧ toN n a < 2 * n) ∧ mN n ≤ 66 ∧ (∀ a, a < mN n → ∀ b, b < a → (frN n b < frN n a ∨ frN n b = frN n a ∧ toN n b < toN n a)) ∧
    ∀ y, y < 2 * n → ∀ x, x < y → ∃ a, a < mN n ∧ (frN n a = x ∧ toN n a = y))) = true := by decide +kernel
theorem enumN {n : Nat} (h : n ≤ 6) : EnumS n (mN n) (frN n) (toN n) ∧ mN n ≤ 66 := by
  have := enum_all
  rw [List.all_eq_true] at this
  have := of_decide_eq_true (this n (by simp; omega))
  refine ⟨⟨this.1, fun a b ha hb => this.2.2.1 b hb a ha, fun x y hx hy => ?_⟩, this.2.1⟩
  obtain ⟨a, ha, he⟩ := this.2.2.2 y hy x hx
  exact ⟨a, ha, he⟩
theorem mN_pos {n : Nat} (h1 : 1 ≤ n) (h : n ≤ 6) : 1 ≤ mN n := by
  obtain ⟨a, ha, _⟩ := (enumN h).1.onto 0 1 (by omega) (by omega)
  omega
def nilV : Nat → Nat → Value := fun _ _ => .slice none 0 0
/-- the lists of marks that lie in the search -/
def Lts (s n M : Nat) (N : Nat → Nat → Nat) (fr to : Nat → Nat) (V : Nat → Nat → Value) (r m : Nat) (X : World) : Prop := ∀ i k, k < n → (i < r ∨ i = r ∧ k < m) → ∃ (q : Nat) (L : Nat → Nat → Nat), V i k = .slice (some ⟨q, 0, none⟩) M M ∧ s < q ∧ LtR q M L X ∧ LtI M fr to (N i k) M 0 L
theorem Lts.step {s n M : Nat} {N : Nat → Nat → Nat} {fr to : Nat → Nat} {V : Nat → Nat → Value} {r m : Nat} {X X' : World} (h : Lts s n M N fr to V r m X) (hb : Below X.heap.size X X') : Lts s n M N fr to V r m X' := fun i k hk hi => by
  obtain ⟨q, L, h1, h2, h3, h4⟩ := h i k hk hi
  exact ⟨q, L, h1, h2, h3.step hb, h4⟩
theorem Lts.next {s n M : Nat} {N : Nat → Nat → Nat} {fr to : Nat → Nat} {V : Nat → Nat → Value} {r m q : Nat} {L : Nat → Nat → Nat} {X : World} (h : Lts s n M N fr to V r m X) (hq : s < q) (hl : LtR q M L X) (hi : LtI M fr to (N r m) M 0 L) (o : Nat) (v : Value) :
    Lts s n M N fr to (updV V r m (.slice (some ⟨q, 0, none⟩) M M)) r (m + 1) (X.setCell ⟨s, o, none⟩ v) := fun i k hk hik => by
  have hkeep : ∀ q L, s < q → LtR q M L X → LtR q M L (X.setCell ⟨s, o, none⟩ v) := fun q L hq ⟨cur, h1, h2⟩ => ⟨cur, by rw [heap_setCell_other _ _ _ _ (by simp; omega)]; exact h1, h2⟩
  by_cases he : i = r ∧ k = m
  · obtain ⟨rfl, rfl⟩ := he
    exact ⟨q, L, by unfold updV; rw [if_pos ⟨rfl, rfl⟩], hq, hkeep q L hq hl, hi⟩
  · obtain ⟨q', L', h1, h2, h3, h4⟩ := h i k hk (by omega)
    exact ⟨q', L', by unfold updV; rw [if_neg he]; exact h1, h2, hkeep q' L' h2 h3, h4⟩
theorem Lts.row {s n M : Nat} {N : Nat → Nat → Nat} {fr to : Nat → Nat} {V : Nat → Nat → Value} {r : Nat} {X : World} (h : Lts s n M N fr to V r n X) : Lts s n M N fr to V (r + 1) 0 X := fun i k hk hik => h i k hk (by omega)
set_option maxRecDepth 100000 in
set_option maxHeartbeats 8000000 in
theorem search_any (B n : Nat) (N : Nat → Nat → Nat) (w : World) (h1 : 1 ≤ n) (h6 : n ≤ 6) (h : Gr B n N w) :
    Calls Tryd.prog 17 #[.pointer (some ⟨B, 0, none⟩)] w fun e w' => ∃ s, e = .returned (.pointer (some ⟨s, 0, none⟩)) ∧ SRC s n (mN n) N (frN n) (toN n) w' ∧ Below w.heap.size w w' := by
  have hS : w.drew.cell? ⟨B, 0, none⟩ = some (.int .i64 n) := h.size
  have H := hide h
  have hB0 : B < w.heap.size := h.lt
  have KB := hide (fun x W (hx : x = ((2 * n : Nat) : Int)) => (hx ▸ below_any (2 * n) W (by omega) (by omega) : Calls Tryd.prog 36 #[.int .i64 x] W fun e w' => ∃ (g cap : Nat), e = .returned (.slice (some ⟨g, 0, none⟩) (mN n) cap) ∧
      w'.ownsRow W.heap.size 29 2 (.slice (some ⟨g, 0, none⟩) (mN n) cap) (mN n) (clP (spP (2 * n) (2 * n))) ∧ Below W.heap.size W w'))
  clear h
  go_enter Tryd.func17, Tryd.ntmps17
  go_wp2_with fail
  go_region_held3 (fun X => X.cell? ⟨B, 0, none⟩ = some (.int .i64 n))
    (first | (with_reducible exact hS) | (exact (World.cell?_alloc_past _ _ _ (lt_of_cell hS)).trans hS))
    (first
      | (go_at_call 36; refine (KB.out _ _ (by rw [IntKind.wrap_i64]; omega)).mono ?_; rintro e X ⟨g, cap, rfl, hoc, hbx⟩; have hS := (hbx.cell (p := ⟨B, 0, none⟩) hB0).trans hS))
  have hsr : Srb X.heap.size n (.slice (some ⟨g, 0, none⟩) (mN n) cap) nilV (X.alloc (.cells (srA n (.slice (some ⟨g, 0, none⟩) (mN n) cap) nilV) 71)) := heap_alloc_last _ _
  have hbA : Below w.heap.size w (X.alloc (.cells (srA n (.slice (some ⟨g, 0, none⟩) (mN n) cap) nilV) 71)) := ((show Below w.heap.size w w.drew from (Below.refl _ w).drew).trans hbx).alloc (show w.heap.size ≤ X.heap.size from hbx.size) _
  have hgl : g < X.heap.size := (hoc.lt g rfl).2
  have hsp : ∀ a, a < mN n → (X.alloc (.cells (srA n (.slice (some ⟨g, 0, none⟩) (mN n) cap) nilV) 71)).cell? ⟨g, a * 2, none⟩ = some (.int .i64 (frN n a)) ∧ (X.alloc (.cells (srA n (.slice (some ⟨g, 0, none⟩) (mN n) cap) nilV) 71)).cell? ⟨g, a * 2 + 1, none⟩ = some (.int .i64 (toN n a)) := fun a ha => by
    have h0 := clP_get (spP (2 * n) (2 * n)) a ha
    have c0 := (World.ownsRow.cellAt hoc (a * 2) (by omega)).trans h0.1
    have c1 := (World.ownsRow.cellAt hoc (a * 2 + 1) (by omega)).trans h0.2
    exact ⟨cell_step c0 ((Below.refl _ X).alloc (Nat.le_refl _) _), cell_step c1 ((Below.refl _ X).alloc (Nat.le_refl _) _)⟩
  have hsw : w.heap.size ≤ X.heap.size := hbx.size
  clear hoc hbx hS KB
  generalize hW1 : World.alloc X _ = W1
  have hW1' : (X.alloc (.cells (srA n (.slice (some ⟨g, 0, none⟩) (mN n) cap) nilV) 71)) = W1 := hW1
  rw [hW1'] at hsr hbA hsp
  clear hW1 hW1'
  generalize X.heap.size = s at *
  have HSP := hide (fun Y (hb : Below s W1 Y) a ha => (And.intro ((hb.cell (p := ⟨g, a * 2, none⟩) hgl).trans (hsp a ha).1) ((hb.cell (p := ⟨g, a * 2 + 1, none⟩) hgl).trans (hsp a ha).2)))
  clear hsp hB0
  have h1M := mN_pos h1 h6
  have hM66 := (enumN h6).2
  generalize hMe : mN n = M at *
  generalize hfe : frN n = fr at *
  generalize hte : toN n = to at *
  have HMe := hide hMe
  have Hfe := hide hfe
  have Hte := hide hte
  clear hMe hfe hte
  have HSR := hide hsr
  have HBA := hide hbA
  have hgs := (H.out.step hbA).size
  clear hsr hbA
  generalize Value.agg _ = ag
  go_wp2_with fail
  clear hgs
  go_loopw [22] (fun ix wr => ∃ (r : Nat) (V : Nat → Nat → Value), r ≤ n ∧ ix = .int .i64 r ∧ Srb s n (.slice (some ⟨g, 0, none⟩) M cap) V wr ∧ Lts s n M N fr to V r 0 wr ∧ Below s W1 wr ∧ Below w.heap.size w wr) (fun ix _ => n - (intOf ix).toNat)
  case atStart => exact ⟨0, nilV, by omega, rfl, HSR.out, fun i k hk hi => by omega, Below.refl _ _, HBA.out⟩
  case round =>
    clear HSR HBA
    obtain ⟨r, V, hr, rfl, hsr, hlt, hb1, hbw⟩ := hrel
    have HSR := hide hsr
    have HLT := hide hlt
    have HB1 := hide hb1
    have HBW := hide hbw
    clear hsr hlt hb1
    by_cases hrn : r < n
    · have hri : (r : Int) < n := by omega
      have hri6 : (r : Int) < 6 := by omega
      have hgs := (H.out.step hbw).size
      clear hbw
      go_wp2_with fail
      clear hgs
      go_loopw [29] (fun ix wr => ∃ (m : Nat) (V : Nat → Nat → Value), m ≤ n ∧ ix = .int .i64 m ∧ Srb s n (.slice (some ⟨g, 0, none⟩) M cap) V wr ∧ Lts s n M N fr to V r m wr ∧ Below s W1 wr ∧ Below w.heap.size w wr) (fun ix _ => n - (intOf ix).toNat)
      case atStart => exact ⟨0, V, by omega, rfl, HSR.out, HLT.out, HB1.out, HBW.out⟩
      case round =>
        clear HSR HLT HB1 HBW
        obtain ⟨m, V, hm, rfl, hsr, hlt, hb1, hbw⟩ := hrel
        have HSR := hide hsr
        have HLT := hide hlt
        have HB1 := hide hb1
        have HBW := hide hbw
        by_cases hmt : m < n
        · have hmi : (m : Int) < n := by omega
          have hmi6 : (m : Int) < 6 := by omega
          have hc1 := hsr.c1
          obtain ⟨hcg, _⟩ := (H.out.step hbw).at r m (by omega) (by omega)
          obtain ⟨hcv, hfv⟩ := hsr.at r m (by omega) (by omega)
          have KL := hide (lets_any g M cap (N r m) fr to wr.drew h1M hM66 (fun a ha => HSP.out wr.drew hb1.drew a ha))
          clear hsr hlt hb1 hbw
          go_wp2_with fail
          go_region_with (first | (go_at_call 37; refine KL.out.mono ?_; rintro e Y ⟨q, L, rfl, hq, hlq, hli, hby⟩; have hsY := hide (Srb.step (show Srb s n (.slice (some ⟨g, 0, none⟩) M cap) V wr.drew from HSR.out) hby); obtain ⟨hcY, hfY⟩ := hsY.out.at r m (by omega) (by omega)))
          all_goals
            have hsw' : s < wr.heap.size := HSR.out.lt
            have hlt2 := (HLT.out.step (show Below wr.heap.size wr wr.drew from (Below.refl _ wr).drew)).step hby
            have hl3 := hlt2.next (show s < q from Nat.lt_of_lt_of_le hsw' hq) hlq hli (2 + r * 6 + m) (.slice (some ⟨q, 0, none⟩) M M)
            have hs3 := hsY.out.set r m (.slice (some ⟨q, 0, none⟩) M M) (by omega) (by omega)
            have hb3 := (HB1.out.drew.trans (hby.mono (Nat.le_of_lt hsw'))).setCell (p := ⟨s, 2 + r * 6 + m, none⟩) (Nat.le_refl _) (.slice (some ⟨q, 0, none⟩) M M)
            have hw3 := (HBW.out.drew.trans (hby.mono (show w.heap.size ≤ wr.heap.size by omega))).setCell (p := ⟨s, 2 + r * 6 + m, none⟩) hsw (.slice (some ⟨q, 0, none⟩) M M)
            have HL3 := hide hl3
            have HS3 := hide hs3
            have HB3 := hide hb3
            have HW3 := hide hw3
            clear hc1 hcg hcv hfv hcY hfY hl3 hs3 hb3 hw3 hlt2 hlq hli hby hq
            go_wp2_with fail
            go_roundw
            case rel => exact ⟨m + 1, _, by omega, by go_num, HS3.out, HL3.out, HB3.out, HW3.out⟩
            case measure => simp [intOf]; omega
        · have hmn : m = n := by omega
          have hni : (n : Int) ≤ m := by omega
          rw [hmn] at hlt
          have HLR := hide hlt.row
          clear hsr hlt hb1 hbw
          go_wp2_with fail
          go_roundw
          case rel => exact ⟨r + 1, V, by omega, by go_num, HSR.out, HLR.out, HB1.out, HBW.out⟩
          case measure => simp [intOf]; omega
    · have hrn : r = n := by omega
      have hni : (n : Int) ≤ r := by omega
      rw [hrn] at HLT
      clear hbw
      go_wp2_with fail
      go_ret
      obtain rfl := HMe.out
      obtain rfl := Hfe.out
      obtain rfl := Hte.out
      refine ⟨s, rfl, ⟨HSR.out.c0, ⟨g, cap, HSR.out.c1, HSP.out _ HB1.out⟩, fun i k hi hk => ?_⟩, HBW.out⟩
      obtain ⟨q, L, hv, hq, hl, hli⟩ := HLT.out i k hk (.inl hi)
      refine ⟨q, mN n, L, by rw [← hv]; exact (HSR.out.at i k (by omega) (by omega)).1, fun a ha => ⟨(hl.at a 0 ha (by omega)).1, (hl.at a 1 ha (by omega)).1, fun j => hli.lt a j, fun b hb => ?_⟩⟩
      rw [hli.bit a b ha hb]
      unfold RS
      congr 1
      rw [decide_eq_decide]
      omega
end Go.Proofs.YtnaggcadmfmibaaDoor
