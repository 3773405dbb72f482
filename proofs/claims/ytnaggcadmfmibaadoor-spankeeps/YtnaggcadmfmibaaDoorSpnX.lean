/- package span: (*grid).rows. -/
import Derived.Test.YtnaggcadmfmibaaDoorSpnV
namespace Go.Proofs.YtnaggcadmfmibaaDoor
open Go.RowKit
set_option linter.unusedVariables false
set_option linter.unusedSimpArgs false

theorem own_step {w X : World} {base : Nat} {e : TypeId} {sz : Nat} {v : Value} {n : Nat} {xs : List Value} (h : w.ownsRow base e sz v n xs) (hb : Below w.heap.size w X) : X.ownsRow base e sz v n xs := by
  refine ⟨h.1, ?_⟩
  rcases h.2 with h0 | ⟨g, cap, cur, hv, hg, hh, h1, h2, h3, h4⟩
  · exact .inl h0
  · have hlt : g < w.heap.size := by
      rcases Nat.lt_or_ge g w.heap.size with hl | hl
      · exact hl
      · rw [Array.getElem?_eq_none hl] at hh; cases hh
    exact .inr ⟨g, cap, cur, hv, hg, (hb.block g hlt).trans hh, h1, h2, h3, h4⟩
theorem own_grow {w X : World} {base : Nat} {e : TypeId} {sz : Nat} {v : Value} {n : Nat} {xs : List Value} {ro : Option Nat} (h : w.ownsRow base e sz v n xs) (hg : w.grownBy X ro) (hne : ∀ g, v.ownBlock = some g → ro ≠ some g) : X.ownsRow base e sz v n xs := by
  refine ⟨h.1, ?_⟩
  rcases h.2 with h0 | ⟨g, cap, cur, hv, hb, hh, h1, h2, h3, h4⟩
  · exact .inl h0
  · have hlt : g < w.heap.size := by
      rcases Nat.lt_or_ge g w.heap.size with hl | hl
      · exact hl
      · rw [Array.getElem?_eq_none hl] at hh; cases hh
    exact .inr ⟨g, cap, cur, hv, hb, (hg.block g hlt (fun e => hne g (by rw [hv]; rfl) e.symm)).trans hh, h1, h2, h3, h4⟩
/-- owned rows of two types lie in two blocks -/
theorem own_apart {w : World} {b b' : Nat} {e e' : TypeId} {s s' : Nat} {v v' : Value} {n n' : Nat} {xs xs' : List Value} (h : w.ownsRow b e s v n xs) (h' : w.ownsRow b' e' s' v' n' xs') (hne : e ≠ e') (g : Nat) (hg : v'.ownBlock = some g) : v.ownBlock ≠ some g := by
  intro hv
  rcases h.2 with ⟨h0, _⟩ | ⟨g1, _, _, h1, _, hh, _⟩
  · rw [h0] at hv; cases hv
  · rcases h'.2 with ⟨h0, _⟩ | ⟨g2, _, _, h2, _, hh2, _⟩
    · rw [h0] at hg; cases hg
    · rw [h1] at hv; rw [h2] at hg
      cases hv; cases hg
      rw [hh] at hh2
      simp at hh2
      exact hne hh2.2
theorem own_mono {w : World} {b b' : Nat} {e : TypeId} {s : Nat} {v : Value} {n : Nat} {xs : List Value} (h : w.ownsRow b e s v n xs) (hb : b' ≤ b) : w.ownsRow b' e s v n xs :=
  ⟨h.1, h.2.imp id fun ⟨g, cap, cur, h1, h2, h3⟩ => ⟨g, cap, cur, h1, Nat.le_trans hb h2, h3⟩⟩
/-- the rows laid so far -/
def rwL (n : Nat) (G Cp : Nat → Nat) (r : Nat) : List Value := (List.range r).map fun i => Value.slice (some ⟨G i, 0, none⟩) n (Cp i)
theorem rwL_next (n : Nat) (G Cp : Nat → Nat) (r gc cc : Nat) : rwL n G Cp r ++ [.slice (some ⟨gc, 0, none⟩) n cc] = rwL n (fun i => if i < r then G i else gc) (fun i => if i < r then Cp i else cc) (r + 1) := by
  unfold rwL
  rw [List.range_succ, List.map_append]
  congr 1
  · apply List.map_congr_left
    intro i hi
    have := List.mem_range.1 hi
    simp [this]
  · simp
set_option maxRecDepth 100000 in
set_option maxHeartbeats 8000000 in
theorem rows_any (B n : Nat) (N : Nat → Nat → Nat) (w : World) (h1 : 1 ≤ n) (h6 : n ≤ 6) (h : Gr B n N w) :
    Calls Tryd.prog 31 #[.pointer (some ⟨B, 0, none⟩)] w fun e w' => ∃ (g cap : Nat) (G Cp : Nat → Nat), e = .returned (.slice (some ⟨g, 0, none⟩) n cap) ∧
      NetAt (some ⟨g, 0, none⟩) n (fun i => some ⟨G i, 0, none⟩) (fun _ => n) Cp (fun i c => (N i c : Int)) w' ∧ Below w.heap.size w w' := by
  have H := hide h
  have hs := h.size
  have hB0 : B < w.heap.size := h.lt
  clear h
  obtain ⟨i0, hi, hz0, hz1, hz2⟩ := info_parts infoRow3
  go_enter Tryd.func31, Tryd.ntmps31
  go_wp2_with fail
  clear hs
  go_loopw [3, 9] (fun v i wr => ∃ (r : Nat) (G Cp : Nat → Nat), r ≤ n ∧ i = .int .i64 r ∧ wr.ownsRow w.heap.size 78 1 v r (rwL n G Cp r) ∧ (∀ i, i < r → wr.ownsRow w.heap.size 47 1 (.slice (some ⟨G i, 0, none⟩) n (Cp i)) n (rwV n (N i))) ∧ Below w.heap.size w wr) (fun _ i _ => n - (intOf i).toNat)
  case atStart => exact ⟨0, fun _ => 0, fun _ => 0, by omega, rfl, World.ownsRow_nil _ _ _ _, fun i hi => absurd hi (Nat.not_lt_zero _), Below.refl _ _⟩
  case round =>
    obtain ⟨r, G, Cp, hr, rfl, hown, hrows, hb⟩ := hrel
    by_cases hlt : r < n
    · have hri : (r : Int) < n := by omega
      have hri6 : (r : Int) < 6 := by omega
      have hn6 : (n : Int) ≤ 6 := by omega
      have hg := H.out.step hb
      have KC := hide (clone_any ⟨B, 1 + r * 6, none⟩ n 6 (N r) wr.drew h1 h6 (fun k hk => by
        rw [Addr.add_lit]
        exact (Gr.at (show Gr B n N wr.drew from hg) r k (by omega) (by omega)).1))
      have hS : wr.drew.cell? ⟨B, 0, none⟩ = some (.int .i64 n) := hg.size
      have hBl : B < wr.heap.size := hg.lt
      have HOW := hide (And.intro hown (And.intro hrows hb))
      clear hown hrows hb hg
      go_wp2_with fail
      go_region_held3 (fun X => X.cell? ⟨B, 0, none⟩ = some (.int .i64 n))
        (first | (with_reducible exact hS) | (exact (World.cell?_alloc_past _ _ _ (lt_of_cell hS)).trans hS))
        (first
          | (go_at_call 52; refine KC.out.mono ?_; rintro e X ⟨gc, cc, rfl, hoc, hbx⟩; have hS := (hbx.cell (p := ⟨B, 0, none⟩) hBl).trans hS)
          | (refine step_append_lies _ rfl (.tmp 12) (.tmp 24) 22 rfl w.heap.size 78 i0 (.slice none 0 0) 1 24 Tryd.underlying22 hi hz0 hz1 hz2 rfl (by decide) _ r (rwL n G Cp r) rfl ((own_step (show wr.drew.ownsRow w.heap.size 78 1 _ r (rwL n G Cp r) from HOW.out.1) hbx).alloc _) ⟨X.heap.size, 0, none⟩ 1 1 [.slice (some ⟨gc, 0, none⟩) n cc] rfl rfl (by intro j u hj; match j, hj with | 0, hj => simp at hj; subst hj; simp [Addr.add]) (by intro u hu; simp at hu; subst hu; rfl) (by omega) (by unfold maxLen; omega) (by omega) (by have h1 := HOW.out.2.2.size; have h2 := hbx.size; simp at h2 ⊢; omega) _ rfl ?_; intro g cap w1 hown' hgrow hat hlt'; have hgr : (X.alloc (.cells #[.slice (some ⟨gc, 0, none⟩) n cc] 78)).grownBy w1 u3.ownBlock := hgrow; have hS : w1.cell? ⟨B, 0, none⟩ = some (.int .i64 n) := (hgr.cell_far ⟨B, 0, none⟩ (by have h1 : B < X.heap.size := lt_of_cell hS; show B < (X.alloc _).heap.size; simp; omega) (fun e => by have h1 : w.heap.size ≤ B := (HOW.out.1.lt B e.symm).1; exact absurd hB0 (by omega))).trans ((World.cell?_alloc_past _ _ _ (lt_of_cell hS)).trans hS)))
      have hsz := HOW.out.2.2.size
      have hszx := hbx.size
      have hszd : wr.drew.heap.size = wr.heap.size := rfl
      have hu : X.ownsRow w.heap.size 78 1 u3 r (rwL n G Cp r) := own_step (show wr.drew.ownsRow w.heap.size 78 1 _ r (rwL n G Cp r) from HOW.out.1) hbx
      have hoc' : w1.ownsRow w.heap.size 47 1 (.slice (some ⟨gc, 0, none⟩) n cc) n (rwV n (N r)) :=
        World.ownsRow.kept ((own_mono hoc (by omega)).alloc _) hgr (.inr fun e => own_apart hu hoc (by decide) gc rfl e.symm)
      have hrows' : ∀ i, i < r → w1.ownsRow w.heap.size 47 1 (.slice (some ⟨G i, 0, none⟩) n (Cp i)) n (rwV n (N i)) := fun i hi =>
        have hX := own_step (show wr.drew.ownsRow w.heap.size 47 1 _ n (rwV n (N i)) from HOW.out.2.1 i hi) hbx
        World.ownsRow.kept (hX.alloc _) hgr (.inr fun e => own_apart hu hX (by decide) (G i) rfl e.symm)
      have hb' : Below w.heap.size w w1 := Below.grown ((HOW.out.2.2.trans (show Below w.heap.size wr wr.drew from (Below.refl _ wr).drew)).trans (hbx.mono (by omega)) |>.alloc (by omega) _) hgr (by simp; omega) (fun k hk => (hu.lt k hk).1)
      rw [rwL_next] at hown'
      clear HOW hu hoc hgr hgrow hat
      go_wp2
      go_roundw
      case rel =>
        refine ⟨r + 1, fun i => if i < r then G i else gc, fun i => if i < r then Cp i else cc, by omega, by go_num, hown', fun i hi => ?_, hb'⟩
        by_cases h : i < r
        · simp only [h, if_true]; exact hrows' i h
        · obtain rfl : i = r := by omega
          simp only [h, if_false]; exact hoc'
      case measure => simp [intOf]; omega
    · obtain rfl : r = n := by omega
      obtain ⟨g, cap, rfl, hg0, hg1⟩ := World.ownsRow.form hown (by omega)
      have hni : ¬ (r : Int) < r := by omega
      go_wp2
      go_ret
      refine ⟨g, ⟨cap, rfl⟩, ⟨G, Cp, ⟨fun k hk => ⟨⟨g, 0, none⟩, rfl, ?_⟩, fun i hi c hc => ⟨⟨G i, 0, none⟩, rfl, ?_⟩⟩⟩, hb⟩
      · rw [Addr.add_lit, Nat.zero_add]
        exact (World.ownsRow.cellAt hown k (by omega)).trans (by unfold rwL; rw [List.getElem?_map, List.getElem?_range hk]; rfl)
      · rw [Addr.add_lit, Nat.zero_add]
        exact (World.ownsRow.cellAt (hrows i hi) c (by omega)).trans (rwV_get r (N i) c hc)
end Go.Proofs.YtnaggcadmfmibaaDoor
