/- the law's own question whether two sets are the same. -/
import Derived.Test.YtmdghaaahknocaaMomPl
import Derived.Deep.RegionHeld3
namespace Go.Proofs.Ytmdghaaahknocaa
open Go.RowKit Go.Shelf
set_option linter.unusedVariables false
set_option linter.unusedSimpArgs false

set_option maxRecDepth 100000 in
set_option maxHeartbeats 4000000 in
theorem same_set (a1 : Option Addr) (l1 c1 : Nat) (a2 : Option Addr) (l2 c2 : Nat) (L : List (Int × Int)) (hlen : L.length ≤ 1000000) (w : World) (h1 : SetAt w (.slice a1 l1 c1) L) (h2 : SetAt w (.slice a2 l2 c2) L) :
    Calls Try.prog 11 #[.slice a1 l1 c1, .slice a2 l2 c2] w fun e W' => e = .returned (.bool true) ∧ Below w.heap.size w W' := by
  obtain ⟨a1', c1', e1, r1⟩ := setAt_form h1
  obtain ⟨a2', c2', e2, r2⟩ := setAt_form h2
  cases e1
  cases e2
  clear h1 h2
  go_enter Try.func11, Try.ntmps11
  go_wp2
  go_loopw [5] (fun i wr => ∃ k : Nat, k ≤ L.length ∧ i = .int .i64 k ∧ Below w.heap.size w wr) (fun i _ => L.length - (intOf i).toNat)
  case atStart => exact ⟨0, by omega, rfl, Below.refl _ _⟩
  case round =>
    obtain ⟨k, hk, rfl, hB⟩ := hrel
    by_cases hlt : k < L.length
    · have hki : (k : Int) < L.length := by omega
      obtain ⟨g1, rfl, hg1, x0, x1⟩ := r1 k hlt
      obtain ⟨g2, rfl, hg2, y0, y1⟩ := r2 k hlt
      have x0 := (hB.cell (p := ⟨g1, k * 2, none⟩) hg1).trans x0
      have x1 := (hB.cell (p := ⟨g1, k * 2 + 1, none⟩) hg1).trans x1
      have y0 := (hB.cell (p := ⟨g2, k * 2, none⟩) hg2).trans y0
      have y1 := (hB.cell (p := ⟨g2, k * 2 + 1, none⟩) hg2).trans y1
      have HR := hide (And.intro r1 r2)
      have HB := hide hB
      clear r1 r2 hB
      generalize L.getD k (0, 0) = z at x0 x1 y0 y1
      go_wp2
      go_quiet (fail)
      go_wp2
      go_roundw
      case rel => exact ⟨k + 1, by omega, by go_num, HB.out.trans ⟨rfl, rfl, rfl, Nat.le_refl _, fun _ _ => rfl⟩⟩
      case measure => simp [intOf]; omega
    · obtain rfl : k = L.length := by omega
      have hki : ¬ (L.length : Int) < L.length := by omega
      go_wp2
      go_ret
      exact ⟨rfl, hB⟩
theorem eqS_call {w A B : World} {v1 v2 : Value} (h : (A.cell? ⟨w.heap.size, 0, none⟩ = some v1 ∧ A.cell? ⟨w.heap.size + 1, 0, none⟩ = some v2) ∧ Below w.heap.size w A) (hb : Below A.heap.size A B) : (B.cell? ⟨w.heap.size, 0, none⟩ = some v1 ∧ B.cell? ⟨w.heap.size + 1, 0, none⟩ = some v2) ∧ Below w.heap.size w B := by
  obtain ⟨⟨h1, h2⟩, h4⟩ := h
  exact ⟨⟨(hb.cell (World.block_lt_of_cell? _ _ h1)).trans h1, (hb.cell (World.block_lt_of_cell? _ _ h2)).trans h2⟩, h4.trans (hb.mono h4.size)⟩
set_option maxRecDepth 100000 in
set_option maxHeartbeats 4000000 in
theorem eq_set (a1 : Option Addr) (l1 c1 : Nat) (a2 : Option Addr) (l2 c2 : Nat) (L M : List (Int × Int)) (hLM : L = M) (hlen : L.length ≤ 1000000) (w : World) (h1 : SetAt w (.slice a1 l1 c1) L) (h2 : SetAt w (.slice a2 l2 c2) M) :
    Calls Try.prog 10 #[.agg #[.slice a1 l1 c1], .agg #[.slice a2 l2 c2]] w fun e W' => e = .returned (.bool true) ∧ Below w.heap.size w W' := by
  subst hLM
  have hb0 : Below w.heap.size w ((w.alloc (.cells #[.slice a1 l1 c1] 27)).alloc (.cells #[.slice a2 l2 c2] 27)) := ((Below.refl _ w).alloc (Nat.le_refl _) _).alloc (by simp) _
  have x1 := (Boxed.new w 27 (.slice a1 l1 c1)).alloc (.cells #[.slice a2 l2 c2] 27)
  have x2 := Boxed.new (w.alloc (.cells #[.slice a1 l1 c1] 27)) 27 (.slice a2 l2 c2)
  simp only [World.size_alloc] at x2
  have HB := hide hb0
  have HX := hide (And.intro x1 x2)
  have HP1 := hide (fun X h => pspans_any a1 l1 c1 L hlen X h)
  have HP2 := hide (fun X h => pspans_any a2 l2 c2 L hlen X h)
  have HE := hide (fun a l c a' l' c' X h h' => same_set a l c a' l' c' L hlen X h h')
  have HS := hide (And.intro h1 h2)
  clear hb0 x1 x2 h1 h2
  go_enter Try.func10, Try.ntmps10
  go_wp2_with fail
  have hb0 := HB.out
  have x1 := HX.out.1
  have x2 := HX.out.2
  obtain ⟨W0, hW0⟩ : ∃ W0, ((w.alloc (.cells #[.slice a1 l1 c1] 27)).alloc (.cells #[.slice a2 l2 c2] 27)) = W0 := ⟨_, rfl⟩
  rw [hW0] at hb0 x1 x2 ⊢
  clear hW0 HB HX
  have hS : (W0.drew.cell? ⟨w.heap.size, 0, none⟩ = some (.slice a1 l1 c1) ∧ W0.drew.cell? ⟨w.heap.size + 1, 0, none⟩ = some (.slice a2 l2 c2)) ∧ Below w.heap.size w W0.drew := ⟨⟨x1.cell, x2.cell⟩, hb0.drew⟩
  clear x1 x2 hb0
  go_region_held3 (fun X => (X.cell? ⟨w.heap.size, 0, none⟩ = some (.slice a1 l1 c1) ∧ X.cell? ⟨w.heap.size + 1, 0, none⟩ = some (.slice a2 l2 c2)) ∧ Below w.heap.size w X)
    (first | (with_reducible exact hS))
    (first
      | (go_at_call 12; have hq := (HS.out.1.below hS.2).sps; (with_reducible refine (HP1.out _ hq).mono ?_); rintro e X ⟨v, rfl, ho, hb⟩; obtain ⟨a3, l3, c3, rfl⟩ := own_form ho; have hsO := setAt_own ho; have hS := eqS_call hS hb)
      | (go_at_call 12; have hq := (HS.out.2.below hS.2).sps; (with_reducible refine (HP2.out _ hq).mono ?_); rintro e X ⟨v, rfl, ho, hb⟩; obtain ⟨a4, l4, c4, rfl⟩ := own_form ho; have hsO := hsO.below hb; have hsN := setAt_own ho; have hS := eqS_call hS hb)
      | (go_at_call 11; (with_reducible refine (HE.out _ _ _ _ _ _ _ hsO hsN).mono ?_); rintro e X ⟨rfl, hb⟩; have hS := eqS_call hS hb)
      | fail)
  have hB := hS.2
  go_wp2
  go_ret
  exact ⟨rfl, hB⟩
end Go.Proofs.Ytmdghaaahknocaa
