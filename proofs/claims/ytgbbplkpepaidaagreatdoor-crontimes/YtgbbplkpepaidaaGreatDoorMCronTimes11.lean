/- The reference's months of the Hebrew calendar. -/
import Derived.Test.YtgbbplkpepaidaaGreatDoorMCronTimes10
import Derived.Deep.RegionHeld3
import Derived.Deep.AppendLies
import Derived.Deep.RegionLawGrows
import Derived.Deep.Onto
import Derived.Deep.DrawnRows
namespace Go.Proofs.YtgbbplkpepaidaaGreatDoor
open Go.RowKit Go.Shelf
set_option linter.unusedVariables false
set_option linter.unusedSimpArgs false

attribute [local go_sem ↓] Go.wp_at_zero Go.wp_at_succ

theorem blk_new (X : World) (o : Obj) (k : Nat) (h : k = X.heap.size) : (X.alloc o).heap[k]? = some o := by subst h; exact heap_alloc_new X o
theorem intInfo : (Tryz.prog.info? 3).map (fun i => (i.zero, i.size, i.bytes)) = some (some (.int .i64 0), 1, 8) := by kernel_rfl
/-- the months of a common year, whatever it is long -/
theorem lens_7c (y h0 N : Int) (w : World) (hN : N = 353 ∨ N = 354 ∨ N = 355) (b1 : -100000000 ≤ h0) (b2 : h0 ≤ 100000000) (y1 : -100000 ≤ y) (y2 : y ≤ 100000)
    (hL : Alm.lens 7 y = [30, if N = 355 then 30 else 29, if N = 353 then 29 else 30, 29, 30, 29, 30, 29, 30, 29, 30, 29])
    (kl : ∀ W, Calls Tryz.prog 44 #[.int .i64 7, .int .i64 y] W fun e w' => e = .returned (.bool false) ∧ w' = W)
    (k1 : ∀ W, Calls Tryz.prog 45 #[.int .i64 (y + 1)] W fun e w' => e = .returned (.int .i64 (h0 + N)) ∧ w' = W)
    (k0 : ∀ W, Calls Tryz.prog 45 #[.int .i64 y] W fun e w' => e = .returned (.int .i64 h0) ∧ w' = W) :
    Calls Tryz.prog 26 #[.int .i64 7, .int .i64 y] w (IsLens 7 y w) := by
  have KL := hide kl
  have K1 := hide k1
  have K0 := hide k0
  have q : h0 + N - h0 = N := by omega
  clear kl k1 k0
  rcases hN with rfl | rfl | rfl
  all_goals
    simp only [Int.reduceEq, if_true, if_false] at hL
    have HL := hide hL
    clear hL
    go_enter Tryz.func26, Tryz.ntmps26
    go_wp2_with fail
    refine (KL.out _).mono ?_
    rintro e w' ⟨rfl, rfl⟩
    go_wp2_with fail
    refine (K1.out _).mono ?_
    rintro e w' ⟨rfl, rfl⟩
    go_wp2_with fail
    refine (K0.out _).mono ?_
    rintro e w' ⟨rfl, rfl⟩
    go_wp2
    go_ret
    exact isLens_mk 7 y _ _ HL.out (by decide)
theorem isLens_own (y : Int) (w W : World) (L : List Int) (h : Alm.lens 7 y = L) (g c : Nat) (ho : W.ownsRow (w.heap.size + 1) 3 1 (.slice (some ⟨g, 0, none⟩) L.length c) L.length (L.map (Value.int .i64))) (hb : Below w.heap.size w W) : IsLens 7 y w (.returned (.slice (some ⟨g, 0, none⟩) L.length c)) W := by
  subst h
  rcases ho.2 with ⟨h', _⟩ | ⟨g', cap', cur, h', hbase, hg, hc1, hc2, _, _⟩
  · simp at h'
  · simp only [Value.slice.injEq, Option.some.injEq, Addr.mk.injEq, and_true, true_and] at h'
    obtain ⟨rfl, rfl⟩ := h'
    refine ⟨g, c, rfl, fun i hi => ?_, hc1, hc2, by omega, hb⟩
    rw [ho.cellAt i (by omega)]
    simp [hi]
/-- the block of the months, as it was made; what lies below is as it was -/
structure Keep7 (C : Array Value) (w W : World) : Prop where
  blk : W.heap[w.heap.size]? = some (.cells C 3 (0, 0))
  bel : Below w.heap.size w W
theorem Keep7.new (C : Array Value) (w : World) : Keep7 C w (w.alloc (.cells C 3)) := ⟨heap_alloc_new w _, (Below.refl _ w).alloc (Nat.le_refl _) _⟩
theorem Keep7.lt {C : Array Value} {w W : World} (h : Keep7 C w W) : w.heap.size < W.heap.size := (Array.getElem?_eq_some_iff.1 h.blk).1
theorem Keep7.drew {C : Array Value} {w W : World} (h : Keep7 C w W) : Keep7 C w W.drew := ⟨h.blk, h.bel.drew⟩
theorem Keep7.alloc {C : Array Value} {w W : World} (h : Keep7 C w W) (o : Obj) : Keep7 C w (W.alloc o) := ⟨(Below.heap_alloc W o _ h.lt).trans h.blk, h.bel.alloc (Nat.le_of_lt h.lt) o⟩
theorem Keep7.grown {C : Array Value} {w W W' : World} {row : Option Nat} (h : Keep7 C w W) (hg : W.grownBy W' row) (hv : ∀ k, row = some k → w.heap.size + 1 ≤ k) : Keep7 C w W' :=
  ⟨(hg.block _ h.lt (fun e => by have := hv _ e.symm; omega)).trans h.blk, h.bel.grown hg (Nat.le_of_lt h.lt) (fun k hk => by have := hv k hk; omega)⟩
theorem news_part {W : World} {b : Nat} {C : Array Value} {T : TypeId} {fr : Nat × Nat} (h : W.heap[b]? = some (.cells C T fr)) (o m : Nat) : ∀ j u, ((C.toList.drop o).take m)[j]? = some u → W.cell? ((⟨b, o, none⟩ : Addr).add j) = some u := fun j u hu => by
  have hadd : (⟨b, o, none⟩ : Addr).add j = ⟨b, o + j, none⟩ := by unfold Addr.add; split <;> simp_all
  rw [hadd, cell_of_row W b (o + j) C T fr h]
  rw [List.getElem?_take] at hu
  split at hu
  · simpa using hu
  · cases hu
set_option maxRecDepth 100000 in
set_option maxHeartbeats 3200000 in
/-- the months of a leap year -/
theorem lens_7l (y h0 N : Int) (w : World) (hN : N = 383 ∨ N = 384 ∨ N = 385) (b1 : -100000000 ≤ h0) (b2 : h0 ≤ 100000000) (y1 : -100000 ≤ y) (y2 : y ≤ 100000)
    (hL : Alm.lens 7 y = [30, if N = 385 then 30 else 29, if N = 383 then 29 else 30, 29, 30, 30, 29, 30, 29, 30, 29, 30, 29])
    (kl : ∀ W, Calls Tryz.prog 44 #[.int .i64 7, .int .i64 y] W fun e w' => e = .returned (.bool true) ∧ w' = W)
    (k1 : ∀ W, Calls Tryz.prog 45 #[.int .i64 (y + 1)] W fun e w' => e = .returned (.int .i64 (h0 + N)) ∧ w' = W)
    (k0 : ∀ W, Calls Tryz.prog 45 #[.int .i64 y] W fun e w' => e = .returned (.int .i64 h0) ∧ w' = W) :
    Calls Tryz.prog 26 #[.int .i64 7, .int .i64 y] w (IsLens 7 y w) := by
  have KL := hide kl
  have K1 := hide k1
  have K0 := hide k0
  have q : h0 + N - h0 = N := by omega
  obtain ⟨i0, hi0, hz0, hz1, hz2⟩ := info_parts intInfo
  clear kl k1 k0
  obtain ⟨a, b, hab⟩ : ∃ a b : Int, (if N = 385 then (30 : Int) else 29) = a ∧ (if N = 383 then (29 : Int) else 30) = b := ⟨_, _, rfl, rfl⟩
  rw [hab.1, hab.2] at hL
  have HAB := hide hab
  clear hab
  rcases hN with rfl | rfl | rfl
  all_goals
    obtain ⟨ha, hb⟩ := HAB.out
    simp only [Int.reduceEq, if_true, if_false] at ha hb
    subst ha hb
    have HL := hide hL
    clear hL HAB
    go_enter Tryz.func26, Tryz.ntmps26
    go_wp2_with fail
    refine (KL.out _).mono ?_
    rintro e w' ⟨rfl, rfl⟩
    go_wp2_with fail
    refine (K1.out _).mono ?_
    rintro e w' ⟨rfl, rfl⟩
    go_wp2_with fail
    refine (K0.out _).mono ?_
    rintro e w' ⟨rfl, rfl⟩
    go_wp2
  · go_region_held3 (fun W => Keep7 #[.int .i64 30, .int .i64 29, .int .i64 29, .int .i64 29, .int .i64 30, .int .i64 29, .int .i64 30, .int .i64 29, .int .i64 30, .int .i64 29, .int .i64 30, .int .i64 29] w' W) (first | (focus ((repeat (first | exact Keep7.new _ _ | assumption | refine Keep7.drew ?_ | refine Keep7.alloc ?_ _)); done)) | (refine Keep7.grown (by assumption) hgrow3 ?_; intro k hk; simp [Value.ownBlock] at hk; omega) | (refine Keep7.grown (by assumption) hgrow2 ?_; intro k hk; simp [Value.ownBlock] at hk; omega) | (refine Keep7.grown (by assumption) hgrow1 ?_; intro k hk; cases hk))
      (first
        | (refine step_append_lies _ (by rfl) _ _ _ (by rfl) (w'.heap.size + 1) 3 i0 _ 1 8 Tryz.underlying22 hi0 hz0 hz1 hz2 rfl (by omega) (.slice (some ⟨g2, 0, none⟩) 6 c2) 6 _ (by rfl) hown2 ⟨w'.heap.size, 5, none⟩ 7 _ [.int .i64 29, .int .i64 30, .int .i64 29, .int .i64 30, .int .i64 29, .int .i64 30, .int .i64 29] (by rfl) (by rfl)
            (by exact fun j u hu => news_part (C := #[.int .i64 30, .int .i64 29, .int .i64 29, .int .i64 29, .int .i64 30, .int .i64 29, .int .i64 30, .int .i64 29, .int .i64 30, .int .i64 29, .int .i64 30, .int .i64 29]) (fr := (0, 0)) (Keep7.blk (w := w') (by assumption)) 5 7 j u hu) (by simp [Value.oneCell']) (by omega) (by decide) (by decide) (by omega) _ rfl ?_; intro g3 c3 w3 hown3 hgrow3 hat3 hlt3; have hg3 := (hown3.lt g3 rfl).1)
        | (refine step_append_lies _ (by rfl) _ _ _ (by rfl) (w'.heap.size + 1) 3 i0 _ 1 8 Tryz.underlying22 hi0 hz0 hz1 hz2 rfl (by omega) (.slice (some ⟨g1, 0, none⟩) 5 c1) 5 _ (by rfl)
            (by first | exact hown1 | exact World.ownsRow.alloc hown1 _) ⟨_, 0, none⟩ 1 _ [.int .i64 30] (by rfl) (by rfl)
            (by first | exact World.news_of_block (cs := #[.int .i64 30]) (heap_alloc_new w1 _) | exact World.news_of_block (cs := #[.int .i64 30]) (t := 3) (fr := (0, 0)) ((hgrow1.block _ (by simp) (by simp)).trans (blk_new _ _ _ (by simp))) | exact World.news_of_block (cs := #[.int .i64 30]) (t := 3) (fr := (0, 0)) ((hgrow1.block _ (by simp) (by simp)).trans ((Below.heap_alloc _ _ _ (by simp)).trans (blk_new _ _ _ (by simp))))) (by simp [Value.oneCell']) (by omega) (by decide) (by decide) (by first | omega | (simp <;> omega)) _ rfl ?_; intro g2 c2 w2 hown2 hgrow2 hat2 hlt2; have hg2 := (hown2.lt g2 rfl).1)
        | (refine step_append_grows (by rfl) _ _ _ (by rfl) 3 i0 _ 1 8 Tryz.underlying22 hi0 hz0 hz1 hz2 rfl (by omega) (some ⟨_, 0, none⟩) 0 0 [] (by rfl) (by intro h; cases h) rfl (by intro b _ j u hu; cases hu) ⟨w'.heap.size, 0, none⟩ 5 _ [.int .i64 30, .int .i64 29, .int .i64 29, .int .i64 29, .int .i64 30] (by rfl) (by rfl)
            (by exact fun j u hu => news_part (C := #[.int .i64 30, .int .i64 29, .int .i64 29, .int .i64 29, .int .i64 30, .int .i64 29, .int .i64 30, .int .i64 29, .int .i64 30, .int .i64 29, .int .i64 30, .int .i64 29]) (fr := (0, 0)) (Keep7.blk (w := w') (by assumption)) 0 5 j u hu) (by simp [Value.oneCell']) (by omega) (by decide) (by decide) ?_; intro v1 w1 hownA hgrow1; have hownB := World.ownsRow.mono hownA (base' := w'.heap.size + 1) (by simp <;> omega); clear hownA; obtain ⟨g1, c1, rfl, hg1, hlt1⟩ := hownB.form (by omega); have hown1 := hownB; clear hownB))
    all_goals
      have hk := (show Keep7 _ w' w3 by assumption)
      go_wp2
      go_ret
      exact isLens_own y w' w3 _ HL.out g3 c3 hown3 hk.bel
  · go_region_held3 (fun W => Keep7 #[.int .i64 30, .int .i64 29, .int .i64 30, .int .i64 29, .int .i64 30, .int .i64 29, .int .i64 30, .int .i64 29, .int .i64 30, .int .i64 29, .int .i64 30, .int .i64 29] w' W) (first | (focus ((repeat (first | exact Keep7.new _ _ | assumption | refine Keep7.drew ?_ | refine Keep7.alloc ?_ _)); done)) | (refine Keep7.grown (by assumption) hgrow3 ?_; intro k hk; simp [Value.ownBlock] at hk; omega) | (refine Keep7.grown (by assumption) hgrow2 ?_; intro k hk; simp [Value.ownBlock] at hk; omega) | (refine Keep7.grown (by assumption) hgrow1 ?_; intro k hk; cases hk))
      (first
        | (refine step_append_lies _ (by rfl) _ _ _ (by rfl) (w'.heap.size + 1) 3 i0 _ 1 8 Tryz.underlying22 hi0 hz0 hz1 hz2 rfl (by omega) (.slice (some ⟨g2, 0, none⟩) 6 c2) 6 _ (by rfl) hown2 ⟨w'.heap.size, 5, none⟩ 7 _ [.int .i64 29, .int .i64 30, .int .i64 29, .int .i64 30, .int .i64 29, .int .i64 30, .int .i64 29] (by rfl) (by rfl)
            (by exact fun j u hu => news_part (C := #[.int .i64 30, .int .i64 29, .int .i64 30, .int .i64 29, .int .i64 30, .int .i64 29, .int .i64 30, .int .i64 29, .int .i64 30, .int .i64 29, .int .i64 30, .int .i64 29]) (fr := (0, 0)) (Keep7.blk (w := w') (by assumption)) 5 7 j u hu) (by simp [Value.oneCell']) (by omega) (by decide) (by decide) (by omega) _ rfl ?_; intro g3 c3 w3 hown3 hgrow3 hat3 hlt3; have hg3 := (hown3.lt g3 rfl).1)
        | (refine step_append_lies _ (by rfl) _ _ _ (by rfl) (w'.heap.size + 1) 3 i0 _ 1 8 Tryz.underlying22 hi0 hz0 hz1 hz2 rfl (by omega) (.slice (some ⟨g1, 0, none⟩) 5 c1) 5 _ (by rfl)
            (by first | exact hown1 | exact World.ownsRow.alloc hown1 _) ⟨_, 0, none⟩ 1 _ [.int .i64 30] (by rfl) (by rfl)
            (by first | exact World.news_of_block (cs := #[.int .i64 30]) (heap_alloc_new w1 _) | exact World.news_of_block (cs := #[.int .i64 30]) (t := 3) (fr := (0, 0)) ((hgrow1.block _ (by simp) (by simp)).trans (blk_new _ _ _ (by simp))) | exact World.news_of_block (cs := #[.int .i64 30]) (t := 3) (fr := (0, 0)) ((hgrow1.block _ (by simp) (by simp)).trans ((Below.heap_alloc _ _ _ (by simp)).trans (blk_new _ _ _ (by simp))))) (by simp [Value.oneCell']) (by omega) (by decide) (by decide) (by first | omega | (simp <;> omega)) _ rfl ?_; intro g2 c2 w2 hown2 hgrow2 hat2 hlt2; have hg2 := (hown2.lt g2 rfl).1)
        | (refine step_append_grows (by rfl) _ _ _ (by rfl) 3 i0 _ 1 8 Tryz.underlying22 hi0 hz0 hz1 hz2 rfl (by omega) (some ⟨_, 0, none⟩) 0 0 [] (by rfl) (by intro h; cases h) rfl (by intro b _ j u hu; cases hu) ⟨w'.heap.size, 0, none⟩ 5 _ [.int .i64 30, .int .i64 29, .int .i64 30, .int .i64 29, .int .i64 30] (by rfl) (by rfl)
            (by exact fun j u hu => news_part (C := #[.int .i64 30, .int .i64 29, .int .i64 30, .int .i64 29, .int .i64 30, .int .i64 29, .int .i64 30, .int .i64 29, .int .i64 30, .int .i64 29, .int .i64 30, .int .i64 29]) (fr := (0, 0)) (Keep7.blk (w := w') (by assumption)) 0 5 j u hu) (by simp [Value.oneCell']) (by omega) (by decide) (by decide) ?_; intro v1 w1 hownA hgrow1; have hownB := World.ownsRow.mono hownA (base' := w'.heap.size + 1) (by simp <;> omega); clear hownA; obtain ⟨g1, c1, rfl, hg1, hlt1⟩ := hownB.form (by omega); have hown1 := hownB; clear hownB))
    all_goals
      have hk := (show Keep7 _ w' w3 by assumption)
      go_wp2
      go_ret
      exact isLens_own y w' w3 _ HL.out g3 c3 hown3 hk.bel
  · go_region_held3 (fun W => Keep7 #[.int .i64 30, .int .i64 30, .int .i64 30, .int .i64 29, .int .i64 30, .int .i64 29, .int .i64 30, .int .i64 29, .int .i64 30, .int .i64 29, .int .i64 30, .int .i64 29] w' W) (first | (focus ((repeat (first | exact Keep7.new _ _ | assumption | refine Keep7.drew ?_ | refine Keep7.alloc ?_ _)); done)) | (refine Keep7.grown (by assumption) hgrow3 ?_; intro k hk; simp [Value.ownBlock] at hk; omega) | (refine Keep7.grown (by assumption) hgrow2 ?_; intro k hk; simp [Value.ownBlock] at hk; omega) | (refine Keep7.grown (by assumption) hgrow1 ?_; intro k hk; cases hk))
      (first
        | (refine step_append_lies _ (by rfl) _ _ _ (by rfl) (w'.heap.size + 1) 3 i0 _ 1 8 Tryz.underlying22 hi0 hz0 hz1 hz2 rfl (by omega) (.slice (some ⟨g2, 0, none⟩) 6 c2) 6 _ (by rfl) hown2 ⟨w'.heap.size, 5, none⟩ 7 _ [.int .i64 29, .int .i64 30, .int .i64 29, .int .i64 30, .int .i64 29, .int .i64 30, .int .i64 29] (by rfl) (by rfl)
            (by exact fun j u hu => news_part (C := #[.int .i64 30, .int .i64 30, .int .i64 30, .int .i64 29, .int .i64 30, .int .i64 29, .int .i64 30, .int .i64 29, .int .i64 30, .int .i64 29, .int .i64 30, .int .i64 29]) (fr := (0, 0)) (Keep7.blk (w := w') (by assumption)) 5 7 j u hu) (by simp [Value.oneCell']) (by omega) (by decide) (by decide) (by omega) _ rfl ?_; intro g3 c3 w3 hown3 hgrow3 hat3 hlt3; have hg3 := (hown3.lt g3 rfl).1)
        | (refine step_append_lies _ (by rfl) _ _ _ (by rfl) (w'.heap.size + 1) 3 i0 _ 1 8 Tryz.underlying22 hi0 hz0 hz1 hz2 rfl (by omega) (.slice (some ⟨g1, 0, none⟩) 5 c1) 5 _ (by rfl)
            (by first | exact hown1 | exact World.ownsRow.alloc hown1 _) ⟨_, 0, none⟩ 1 _ [.int .i64 30] (by rfl) (by rfl)
            (by first | exact World.news_of_block (cs := #[.int .i64 30]) (heap_alloc_new w1 _) | exact World.news_of_block (cs := #[.int .i64 30]) (t := 3) (fr := (0, 0)) ((hgrow1.block _ (by simp) (by simp)).trans (blk_new _ _ _ (by simp))) | exact World.news_of_block (cs := #[.int .i64 30]) (t := 3) (fr := (0, 0)) ((hgrow1.block _ (by simp) (by simp)).trans ((Below.heap_alloc _ _ _ (by simp)).trans (blk_new _ _ _ (by simp))))) (by simp [Value.oneCell']) (by omega) (by decide) (by decide) (by first | omega | (simp <;> omega)) _ rfl ?_; intro g2 c2 w2 hown2 hgrow2 hat2 hlt2; have hg2 := (hown2.lt g2 rfl).1)
        | (refine step_append_grows (by rfl) _ _ _ (by rfl) 3 i0 _ 1 8 Tryz.underlying22 hi0 hz0 hz1 hz2 rfl (by omega) (some ⟨_, 0, none⟩) 0 0 [] (by rfl) (by intro h; cases h) rfl (by intro b _ j u hu; cases hu) ⟨w'.heap.size, 0, none⟩ 5 _ [.int .i64 30, .int .i64 30, .int .i64 30, .int .i64 29, .int .i64 30] (by rfl) (by rfl)
            (by exact fun j u hu => news_part (C := #[.int .i64 30, .int .i64 30, .int .i64 30, .int .i64 29, .int .i64 30, .int .i64 29, .int .i64 30, .int .i64 29, .int .i64 30, .int .i64 29, .int .i64 30, .int .i64 29]) (fr := (0, 0)) (Keep7.blk (w := w') (by assumption)) 0 5 j u hu) (by simp [Value.oneCell']) (by omega) (by decide) (by decide) ?_; intro v1 w1 hownA hgrow1; have hownB := World.ownsRow.mono hownA (base' := w'.heap.size + 1) (by simp <;> omega); clear hownA; obtain ⟨g1, c1, rfl, hg1, hlt1⟩ := hownB.form (by omega); have hown1 := hownB; clear hownB))
    all_goals
      have hk := (show Keep7 _ w' w3 by assumption)
      go_wp2
      go_ret
      exact isLens_own y w' w3 _ HL.out g3 c3 hown3 hk.bel
end Go.Proofs.YtgbbplkpepaidaaGreatDoor
