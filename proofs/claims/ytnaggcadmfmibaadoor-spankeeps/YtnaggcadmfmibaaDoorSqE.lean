/- package span: first and goesOn at any number; spansBelow. -/
import Derived.Test.YtnaggcadmfmibaaDoorSqD
import Derived.Test.YtnaggcadmfmibaaDoorSpnX
namespace Go.Proofs.YtnaggcadmfmibaaDoor
open Go.RowKit
set_option linter.unusedVariables false
set_option linter.unusedSimpArgs false

theorem goS_all {s n M : Nat} {N : Nat → Nat → Nat} {fr to : Nat → Nat} (h1 : 1 ≤ n) (h6 : n ≤ 6) (hM : M ≤ 66) (hy : SymR n M (RS N fr to)) : ∀ u, GoS s n M N fr to u
  | 0 => goes_of h1 h6 hM hy (fun A C i W _ hu hi hC _ => by
    have := (cntB_zero (p := fun k => !C k) n).1 hu i hi
    rw [hC] at this
    cases this)
  | u + 1 => goes_of h1 h6 hM hy (first_of h1 h6 hM (goS_all h1 h6 hM hy u))
theorem fiS_all {s n M : Nat} {N : Nat → Nat → Nat} {fr to : Nat → Nat} (h1 : 1 ≤ n) (h6 : n ≤ 6) (hM : M ≤ 66) (hy : SymR n M (RS N fr to)) (u : Nat) : FiS s n M N fr to (u + 1) := first_of h1 h6 hM (goS_all h1 h6 hM hy u)

/-! the spans below a bound -/
def rowP (f : Nat) : Nat → List (Nat × Nat)
  | 0 => []
  | t + 1 => rowP f t ++ if f < t then [(f, t)] else []
def spP (b : Nat) : Nat → List (Nat × Nat)
  | 0 => []
  | f + 1 => spP b f ++ rowP f b
theorem rowP_none (f : Nat) : ∀ t, t ≤ f + 1 → rowP f t = []
  | 0, _ => rfl
  | t + 1, h => by unfold rowP; rw [rowP_none f t (by omega), if_neg (by omega)]; rfl
theorem rowP_len (f : Nat) : ∀ t, (rowP f t).length ≤ t
  | 0 => Nat.le_refl _
  | t + 1 => by
    have := rowP_len f t
    unfold rowP
    rw [List.length_append]
    split <;> simp <;> omega
theorem spP_len (b : Nat) : ∀ f, (spP b f).length ≤ f * b
  | 0 => by simp [spP]
  | f + 1 => by
    have h1 := spP_len b f
    have h2 := rowP_len f b
    unfold spP
    rw [List.length_append, Nat.add_mul]
    omega
/-- pairs as cells -/
def clP : List (Nat × Nat) → List Value
  | [] => []
  | p :: l => .int .i64 (p.1 : Int) :: .int .i64 (p.2 : Int) :: clP l
theorem clP_app : ∀ l m, clP (l ++ m) = clP l ++ clP m
  | [], m => rfl
  | p :: l, m => by show _ :: _ :: clP (l ++ m) = _; rw [clP_app l m]; rfl
theorem clP_get : ∀ (l : List (Nat × Nat)) (a : Nat) (h : a < l.length), (clP l)[a * 2]? = some (.int .i64 ((l.getD a (0, 0)).1 : Int)) ∧ (clP l)[a * 2 + 1]? = some (.int .i64 ((l.getD a (0, 0)).2 : Int))
  | [], a, h => by simp at h
  | p :: l, 0, h => ⟨rfl, rfl⟩
  | p :: l, a + 1, h => by
    have := clP_get l a (by simpa using h)
    refine ⟨?_, ?_⟩
    · rw [show (a + 1) * 2 = a * 2 + 1 + 1 by omega]
      exact this.1
    · rw [show (a + 1) * 2 + 1 = (a * 2 + 1) + 1 + 1 by omega]
      exact this.2
theorem infoSpan3 : (Tryd.prog.info? 29).map (fun i => (i.zero, i.size, i.bytes)) = some (some (.agg #[.int .i64 0, .int .i64 0]), 2, 16) := by kernel_rfl
set_option maxRecDepth 100000 in
set_option maxHeartbeats 8000000 in
theorem below_any (b : Nat) (w : World) (hb1 : 2 ≤ b) (hb2 : b ≤ 12) :
    Calls Tryd.prog 36 #[.int .i64 b] w fun e w' => ∃ (g cap : Nat), e = .returned (.slice (some ⟨g, 0, none⟩) (spP b b).length cap) ∧
      w'.ownsRow w.heap.size 29 2 (.slice (some ⟨g, 0, none⟩) (spP b b).length cap) (spP b b).length (clP (spP b b)) ∧ Below w.heap.size w w' := by
  obtain ⟨i0, hi, hz0, hz1, hz2⟩ := info_parts infoSpan3
  go_enter Tryd.func36, Tryd.ntmps36
  go_wp2_with fail
  go_loopw [3, 7] (fun v i wr => ∃ r : Nat, r ≤ b ∧ i = .int .i64 r ∧ wr.ownsRow w.heap.size 29 2 v (spP b r).length (clP (spP b r)) ∧ Below w.heap.size w wr) (fun _ i _ => b - (intOf i).toNat)
  case atStart => exact ⟨0, by omega, rfl, World.ownsRow_nil _ _ _ _, Below.refl _ _⟩
  case round =>
    obtain ⟨r, hr, rfl, hown, hb⟩ := hrel
    by_cases hlt : r < b
    · have hri : (r : Int) < b := by omega
      have hbi : (b : Int) ≤ 12 := by omega
      have HO := hide hown
      have HB := hide hb
      clear hown hb
      go_wp2_with fail
      go_loopw [3, 5] (fun v i wr => ∃ t : Nat, r < t ∧ t ≤ b ∧ i = .int .i64 t ∧ wr.ownsRow w.heap.size 29 2 v (spP b r ++ rowP r t).length (clP (spP b r ++ rowP r t)) ∧ Below w.heap.size w wr) (fun _ i _ => b - (intOf i).toNat)
      case atStart => exact ⟨r + 1, by omega, by omega, by go_num, by rw [rowP_none r (r + 1) (Nat.le_refl _), List.append_nil]; exact HO.out, HB.out⟩
      case round =>
        clear HO HB
        obtain ⟨t, ht1, ht, rfl, hown, hb⟩ := hrel
        by_cases htb : t < b
        · have hti : (t : Int) < b := by omega
          have hlen : (spP b r ++ rowP r t).length ≤ 200 := by
            have h1 := spP_len b r
            have h2 := rowP_len r t
            have h3 : r * b ≤ 12 * 12 := Nat.mul_le_mul (by omega) hb2
            rw [List.length_append]; omega
          have hnext : spP b r ++ rowP r (t + 1) = (spP b r ++ rowP r t) ++ [(r, t)] := by
            show spP b r ++ (rowP r t ++ if r < t then [(r, t)] else []) = _
            rw [if_pos ht1, List.append_assoc]
          have HNX := hide hnext
          have HO := hide hown
          have HB := hide hb
          have HL := hide hlen
          clear hnext hown hb hlen
          generalize spP b r ++ rowP r t = l at *
          go_wp2_with (first | (at_builtin; refine wpList_append_lies _ rfl (.tmp 17) (.tmp 21) 23 rfl w.heap.size 29 i0 (.agg #[.int .i64 0, .int .i64 0]) 2 16 Tryd.underlying23 hi hz0 hz1 hz2 rfl (by decide) _ l.length (clP l) rfl (HO.out.alloc _) ⟨wr.heap.size, 0, none⟩ 1 1 [.int .i64 (r : Int), .int .i64 (t : Int)] rfl rfl (by intro j u hj; match j, hj with | 0, hj => (simp at hj; subst hj; simp [Addr.add]) | 1, hj => (simp at hj; subst hj; simp [Addr.add])) (by intro u hu; simp at hu; rcases hu with rfl | rfl <;> rfl) (by omega) (by have := HL.out; unfold maxLen; omega) (by have := HL.out; omega) (by have := HB.out.size; simp; omega) _ rfl ?_; intro g c w1 hown' hgrow hat hlt1))
          have hB' : Below w.heap.size w w1 := Below.grown (HB.out.alloc HB.out.size _) hgrow (by have := HB.out.size; simp; omega) (fun k hk => (HO.out.lt k hk).1)
          refine ⟨⟨t + 1, by omega, by omega, by go_num, ?_, hB'⟩, by simp [intOf]; omega⟩
          rw [HNX.out, clP_app, List.length_append]
          exact hown'
        · have hti : ¬ (t : Int) < b := by omega
          have htt : t = b := by omega
          rw [htt] at hown
          have HO := hide hown
          have HB := hide hb
          clear hown hb
          go_wp2_with fail
          go_roundw
          case rel => exact ⟨r + 1, by omega, by go_num, HO.out, HB.out⟩
          case measure => simp [intOf]; omega
    · have hrn : r = b := by omega
      have hni : ¬ (r : Int) < b := by omega
      rw [hrn] at hown
      have hM : 1 ≤ (spP b b).length := by
        rcases hM0 : (spP b b).length with _ | m
        · exfalso
          have h2 : ∀ b : Fin 13, 2 ≤ b.1 → (spP b.1 b.1).length ≠ 0 := by decide +kernel
          exact h2 ⟨b, by omega⟩ hb1 hM0
        · omega
      obtain ⟨g, cap, rfl, hg0, hg1⟩ := World.ownsRow.form hown (by omega)
      have HO := hide hown
      have HB := hide hb
      clear hown hb
      go_wp2_with fail
      go_ret
      exact ⟨g, cap, rfl, HO.out, HB.out⟩
end Go.Proofs.YtnaggcadmfmibaaDoor
