/- moments.Set.And, within no fence. -/
import Derived.Test.YtabgoicholknoaaDoorMomNt
import Derived.Deep.RegionHeld3
namespace Go.Proofs.YtabgoicholknoaaDoor
open Go.RowKit Go.Shelf
set_option linter.unusedVariables false
set_option linter.unusedSimpArgs false

/-- a slice that holds spans from some place of a block on -/
def SlA (n₀ : Nat) (W : World) (v : Value) (L : List (Int × Int)) : Prop := (v = .slice none 0 0 ∧ L = []) ∨ ∃ g o c, v = .slice (some ⟨g, o, none⟩) L.length c ∧ L.length ≤ c ∧ g < n₀ ∧ ∀ j, j < L.length → W.cell? ⟨g, o + j * 2, none⟩ = some (.int .i64 (L.getD j (0, 0)).1) ∧ W.cell? ⟨g, o + j * 2 + 1, none⟩ = some (.int .i64 (L.getD j (0, 0)).2)
theorem SlA.below {n₀ : Nat} {A B : World} (h : Below n₀ A B) {v : Value} {L : List (Int × Int)} : SlA n₀ A v L → SlA n₀ B v L
  | .inl e => .inl e
  | .inr ⟨g, o, c, e, hc, hg, hx⟩ => .inr ⟨g, o, c, e, hc, hg, fun j hj => ⟨(h.cell (p := ⟨g, o + j * 2, none⟩) hg).trans (hx j hj).1, (h.cell (p := ⟨g, o + j * 2 + 1, none⟩) hg).trans (hx j hj).2⟩⟩
def lenV : Value → Nat
  | .slice _ n _ => n
  | _ => 0
theorem SlA.len {n₀ : Nat} {W : World} {v : Value} {L : List (Int × Int)} (h : SlA n₀ W v L) : ∃ a c, v = .slice a L.length c := by
  rcases h with ⟨rfl, rfl⟩ | ⟨g, o, c, rfl, _⟩
  · exact ⟨_, _, rfl⟩
  · exact ⟨_, _, rfl⟩
theorem SlA.cons {n₀ : Nat} {W : World} {v : Value} {x : Int × Int} {L : List (Int × Int)} (h : SlA n₀ W v (x :: L)) : ∃ g o c, v = .slice (some ⟨g, o, none⟩) (L.length + 1) (c + 1) ∧ L.length ≤ c ∧ g < n₀ ∧ W.cell? ⟨g, o, none⟩ = some (.int .i64 x.1) ∧ W.cell? ⟨g, o + 1, none⟩ = some (.int .i64 x.2) ∧ (∀ o', (0 < c → o' = o + 2) → SlA n₀ W (.slice (some ⟨g, o', none⟩) L.length c) L) := by
  rcases h with ⟨_, h⟩ | ⟨g, o, c, rfl, hc, hg, hx⟩
  · cases h
  · rw [List.length_cons] at hc
    obtain ⟨c, rfl⟩ : ∃ k, c = k + 1 := ⟨c - 1, by omega⟩
    have h0 := hx 0 (by simp)
    refine ⟨g, o, c, by rw [List.length_cons], by omega, hg, by simpa using h0.1, by simpa using h0.2, fun o' ho => .inr ⟨g, o', c, rfl, by omega, hg, fun j hj => ?_⟩⟩
    have hj' := hx (j + 1) (by simp; omega)
    rw [ho (by omega)]
    rw [show o + 2 + j * 2 = o + (j + 1) * 2 by omega]
    simpa using hj'
theorem and_keep {b g1 o1 g2 o2 : Nat} {x0 x1 y0 y1 : Value} {A B : World} (h : Below b A B) (h1 : g1 < b) (h2 : g2 < b) (hS : (A.cell? ⟨g1, o1, none⟩ = some x0 ∧ A.cell? ⟨g1, o1 + 1, none⟩ = some x1) ∧ (A.cell? ⟨g2, o2, none⟩ = some y0 ∧ A.cell? ⟨g2, o2 + 1, none⟩ = some y1)) :
    (B.cell? ⟨g1, o1, none⟩ = some x0 ∧ B.cell? ⟨g1, o1 + 1, none⟩ = some x1) ∧ (B.cell? ⟨g2, o2, none⟩ = some y0 ∧ B.cell? ⟨g2, o2 + 1, none⟩ = some y1) :=
  ⟨⟨(h.cell (p := ⟨g1, o1, none⟩) h1).trans hS.1.1, (h.cell (p := ⟨g1, o1 + 1, none⟩) h1).trans hS.1.2⟩, ⟨(h.cell (p := ⟨g2, o2, none⟩) h2).trans hS.2.1, (h.cell (p := ⟨g2, o2 + 1, none⟩) h2).trans hS.2.2⟩⟩
set_option maxRecDepth 100000 in
set_option maxHeartbeats 4000000 in
theorem and_any (v1 v2 : Value) (L M : List (Int × Int)) (hL : L.length ≤ 400000) (hM : M.length ≤ 400000) (w : World) (h1 : SlA w.heap.size w v1 L) (h2 : SlA w.heap.size w v2 M) :
    Calls Tryd.prog 14 #[.agg #[v1], .agg #[v2]] w fun e W' => ∃ v, e = .returned (.agg #[v]) ∧ W'.ownsRow w.heap.size 42 2 v (anL L M).length (clZ (anL L M)) ∧ Below w.heap.size w W' := by
  obtain ⟨a1, c1, rfl⟩ := h1.len
  obtain ⟨a2, c2, rfl⟩ := h2.len
  go_enter Tryd.func14, Tryd.ntmps14
  go_wp2
  go_quiet (fail)
  have hB0 : Below w.heap.size w ((((w.alloc (.cells #[.slice a1 L.length c1] 30)).alloc (.cells #[.slice a2 M.length c2] 30)).alloc (.cells #[.slice none 0 0] 30)).drewN nq) := ((((Below.refl _ w).alloc (Nat.le_refl _) _).alloc (by simp) _).alloc (by simp; omega) _).trans ⟨rfl, rfl, rfl, Nat.le_refl _, fun _ _ => rfl⟩
  have bR : Boxed ((((w.alloc (.cells #[.slice a1 L.length c1] 30)).alloc (.cells #[.slice a2 M.length c2] 30)).alloc (.cells #[.slice none 0 0] 30)).drewN nq) (w.heap.size + 1 + 1) 30 (.slice none 0 0) := by
    have := Boxed.new ((w.alloc (.cells #[.slice a1 L.length c1] 30)).alloc (.cells #[.slice a2 M.length c2] 30)) 30 (.slice none 0 0)
    simp only [World.size_alloc] at this
    exact this
  obtain ⟨W0, hW0⟩ : ∃ W0, ((((w.alloc (.cells #[.slice a1 L.length c1] 30)).alloc (.cells #[.slice a2 M.length c2] 30)).alloc (.cells #[.slice none 0 0] 30)).drewN nq) = W0 := ⟨_, rfl⟩
  rw [hW0] at hB0 bR ⊢
  clear hW0
  have HA := hide h1
  have HB := hide h2
  have HB0 := hide hB0
  have HR := hide bR
  have hz0 := bR.lt
  clear h1 h2 hB0 bR
  go_wp2
  go_loopw [5, 6, 7] (fun vb va vc wr => ∃ acc L' M', anF acc L' M' = anL L M ∧ acc.length + L'.length + M'.length ≤ L.length + M.length ∧ L'.length ≤ L.length ∧ M'.length ≤ M.length ∧ wr.ownsRow (w.heap.size + 3) 42 2 vb acc.length (clZ acc) ∧ SlA w.heap.size w va L' ∧ SlA w.heap.size w vc M' ∧ Below (w.heap.size + 3) W0 wr) (fun _ va vc _ => lenV va + lenV vc)
  case atStart => exact ⟨[], L, M, rfl, by simp, Nat.le_refl _, Nat.le_refl _, World.ownsRow_nil _ _ _ _, HA.out, HB.out, Below.refl _ _⟩
  case round =>
    obtain ⟨acc, L', M', hF, hlen, hl1, hm1, hown, sa, sb, hB⟩ := hrel
    match L', M' with
    | [], M' =>
      obtain ⟨pa, ca, rfl⟩ := sa.len
      rw [anF_nil] at hF
      subst hF
      obtain ⟨a5, l5, c5, rfl⟩ := own_form hown
      have br : Boxed wr (w.heap.size + 1 + 1) 30 (.slice none 0 0) := (hB.block _ (by omega)).trans HR.out
      have hcr := br.cell
      have hfr := br.frozen
      go_wp2
      have br2 := br.set (.slice a5 l5 c5)
      have hc2 := br2.cell
      have ho2 := ownsRow_setCell_below hown (a := ⟨w.heap.size + 1 + 1, 0, none⟩) (by show w.heap.size + 1 + 1 < _; omega) (.slice a5 l5 c5)
      have hb2 : Below w.heap.size w (wr.setCell ⟨w.heap.size + 1 + 1, 0, none⟩ (.slice a5 l5 c5)) := (HB0.out.trans (hB.mono (by omega))).setCell (p := ⟨w.heap.size + 1 + 1, 0, none⟩) (by show w.heap.size ≤ w.heap.size + 1 + 1; omega) _
      (try simp only [Exit.inBlock, Exit.then])
      refine bodyPost_ret (v := .agg #[.slice a5 l5 c5]) ?_ rfl ⟨_, rfl, own_mono0 ho2 (by omega), hb2⟩
      simp [results, Tryd.results14, go_sem, hc2]
    | x :: L', [] =>
      obtain ⟨pa, ca, rfl⟩ := sa.len
      obtain ⟨pb, cb, rfl⟩ := sb.len
      rw [anF_nil2] at hF
      subst hF
      have hp : (0 : Int) < ((x :: L').length : Nat) := by simp
      generalize (x :: L').length = nn at *
      obtain ⟨a5, l5, c5, rfl⟩ := own_form hown
      have br : Boxed wr (w.heap.size + 1 + 1) 30 (.slice none 0 0) := (hB.block _ (by omega)).trans HR.out
      have hcr := br.cell
      have hfr := br.frozen
      go_wp2
      have br2 := br.set (.slice a5 l5 c5)
      have hc2 := br2.cell
      have ho2 := ownsRow_setCell_below hown (a := ⟨w.heap.size + 1 + 1, 0, none⟩) (by show w.heap.size + 1 + 1 < _; omega) (.slice a5 l5 c5)
      have hb2 : Below w.heap.size w (wr.setCell ⟨w.heap.size + 1 + 1, 0, none⟩ (.slice a5 l5 c5)) := (HB0.out.trans (hB.mono (by omega))).setCell (p := ⟨w.heap.size + 1 + 1, 0, none⟩) (by show w.heap.size ≤ w.heap.size + 1 + 1; omega) _
      (try simp only [Exit.inBlock, Exit.then])
      refine bodyPost_ret (v := .agg #[.slice a5 l5 c5]) ?_ rfl ⟨_, rfl, own_mono0 ho2 (by omega), hb2⟩
      simp [results, Tryd.results14, go_sem, hc2]
    | x :: L', y :: M' =>
      obtain ⟨g1, o1, k1, rfl, hk1, hg1, x0, x1, sa'⟩ := sa.cons
      obtain ⟨g2, o2, k2, rfl, hk2, hg2, y0, y1, sb'⟩ := sb.cons
      rw [List.length_cons, List.length_cons] at hlen
      rw [List.length_cons] at hl1 hm1
      have hBw := HB0.out.trans (hB.mono (by omega))
      have hS : (((wr.drew.cell? ⟨g1, o1, none⟩ = some (.int .i64 x.1) ∧ wr.drew.cell? ⟨g1, o1 + 1, none⟩ = some (.int .i64 x.2)) ∧ (wr.drew.cell? ⟨g2, o2, none⟩ = some (.int .i64 y.1) ∧ wr.drew.cell? ⟨g2, o2 + 1, none⟩ = some (.int .i64 y.2)))) :=
        ⟨⟨(hBw.cell (p := ⟨g1, o1, none⟩) hg1).trans x0, (hBw.cell (p := ⟨g1, o1 + 1, none⟩) hg1).trans x1⟩, ⟨(hBw.cell (p := ⟨g2, o2, none⟩) hg2).trans y0, (hBw.cell (p := ⟨g2, o2 + 1, none⟩) hg2).trans y1⟩⟩
      have hown' : wr.drew.ownsRow (w.heap.size + 3) 42 2 u5 acc.length (clZ acc) := hown
      have hK0 : ∀ p q : Int, p = max x.1 y.1 → q = min x.2 y.2 → Calls Tryd.prog 16 #[u5, .agg #[.int .i64 p, .int .i64 q]] wr.drew fun e w' => ∃ v', e = .returned v' ∧ w'.ownsRow (w.heap.size + 3) 42 2 v' (ly acc (max x.1 y.1, min x.2 y.2)).length (clZ (ly acc (max x.1 y.1, min x.2 y.2))) ∧ Below (w.heap.size + 3) wr.drew w' := by
        rintro p q rfl rfl
        exact (lay_any (w.heap.size + 3) u5 acc (max x.1 y.1, min x.2 y.2) wr.drew (by omega) hown' (by show w.heap.size + 3 ≤ wr.heap.size; have := hB.size; omega)).mono fun e w' ⟨v, e1, ho, hb, _⟩ => ⟨v, e1, ho, hb⟩
      have HK := hide hK0
      clear hK0
      clear hown'
      have HO := hide hown
      have HBw := hide (And.intro hBw hB)
      have HF := hide hF
      clear x0 x1 y0 y1 hBw hB hown hF
      obtain ⟨n1, hn1⟩ : ∃ n1, L'.length + 1 = n1 := ⟨_, rfl⟩
      obtain ⟨n2, hn2⟩ : ∃ n2, M'.length + 1 = n2 := ⟨_, rfl⟩
      rw [hn1, hn2]
      have hi1 : (0 : Int) < (n1 : Int) := by omega
      have hi2 : (0 : Int) < (n2 : Int) := by omega
      by_cases hc1 : x.1 < y.1 <;> by_cases hc2 : y.2 < x.2
      all_goals
        go_wp2_with fail
        go_region_held3 (fun X => (((X.cell? ⟨g1, o1, none⟩ = some (.int .i64 x.1) ∧ X.cell? ⟨g1, o1 + 1, none⟩ = some (.int .i64 x.2)) ∧ (X.cell? ⟨g2, o2, none⟩ = some (.int .i64 y.1) ∧ X.cell? ⟨g2, o2 + 1, none⟩ = some (.int .i64 y.2)))))
          (first | (with_reducible exact hS))
          (first | (go_at_call 16; refine (HK.out _ _ (by omega) (by omega)).mono ?_; rintro e X ⟨v, rfl, ho, hb⟩; obtain ⟨a6, l6, c6, rfl⟩ := own_form ho; have hS := and_keep hb (by omega) (by omega) hS))
        all_goals
          obtain ⟨⟨x0, x1⟩, y0, y1⟩ := hS
          have hB2 : Below (w.heap.size + 3) W0 X := HBw.out.2.trans ((Below.refl _ wr).drew.trans hb)
          have HBX := hide hB2
          have HO := hide ho
          clear hb hB2 ho HK HA HB
          by_cases hlt : x.2 < y.2
          · have hl1' := hl1
            go_wp2_with fail
            go_quiet (fail)
            go_wp2
            all_goals
              refine ⟨⟨ly acc (max x.1 y.1, min x.2 y.2), L', y :: M', (anF_lt acc L' M' x y (by omega)).symm.trans HF.out, ?_, by omega, ?_, HO.out, ?_, by rw [← hn2]; exact sb, HBX.out.trans ⟨rfl, rfl, rfl, Nat.le_refl _, fun _ _ => rfl⟩⟩, ?_⟩
              · have := ly_len2 acc (max x.1 y.1, min x.2 y.2); rw [List.length_cons]; omega
              · rw [List.length_cons]; omega
              · rw [show n1 - 1 = L'.length by omega]; first | exact sa' _ (fun h => by first | rfl | omega) | (split <;> exact sa' _ (fun h => by first | rfl | omega))
              · simp only [lenV]; omega
          · have hl1' := hl1
            go_wp2_with fail
            go_quiet (fail)
            go_wp2
            all_goals
              refine ⟨⟨ly acc (max x.1 y.1, min x.2 y.2), x :: L', M', (anF_ge acc L' M' x y (by omega)).symm.trans HF.out, ?_, ?_, by omega, HO.out, by rw [← hn1]; exact sa, ?_, HBX.out.trans ⟨rfl, rfl, rfl, Nat.le_refl _, fun _ _ => rfl⟩⟩, ?_⟩
              · have := ly_len2 acc (max x.1 y.1, min x.2 y.2); rw [List.length_cons]; omega
              · rw [List.length_cons]; omega
              · rw [show n2 - 1 = M'.length by omega]; first | exact sb' _ (fun h => by first | rfl | omega) | (split <;> exact sb' _ (fun h => by first | rfl | omega))
              · simp only [lenV]; omega
end Go.Proofs.YtabgoicholknoaaDoor
