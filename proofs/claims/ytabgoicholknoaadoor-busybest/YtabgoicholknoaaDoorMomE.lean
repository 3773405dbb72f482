/- moments: clip, lay, the two closures. -/
import Derived.Test.YtabgoicholknoaaDoorMomC
namespace Go.Proofs.YtabgoicholknoaaDoor
open Go.RowKit Go.Shelf
set_option linter.unusedVariables false
set_option linter.unusedSimpArgs false

/-- a span kept from Low to High -/
def clp (x : Int × Int) : Int × Int := (max x.1 (-1152921504606846976), min x.2 1152921504606846976)
/-- one span more, unless it is empty -/
def ly (zs : List (Int × Int)) (x : Int × Int) : List (Int × Int) := if x.2 ≤ x.1 then zs else zs ++ [x]
theorem ly_len (zs : List (Int × Int)) (x : Int × Int) : (ly zs x).length ≤ zs.length + 1 := by unfold ly; split <;> simp

set_option maxHeartbeats 2000000 in
theorem clip_any (x : Int × Int) (w : World) :
    Calls Tryd.prog 17 #[.agg #[.int .i64 x.1, .int .i64 x.2]] w fun e w' => e = .returned (.agg #[.int .i64 (clp x).1, .int .i64 (clp x).2]) ∧ Below w.heap.size w w' := by
  have h1 : ((clp x).1 = x.1 ∧ -1152921504606846976 ≤ x.1) ∨ ((clp x).1 = -1152921504606846976 ∧ ¬ -1152921504606846976 ≤ x.1) := by unfold clp; simp only; omega
  have h2 : ((clp x).2 = x.2 ∧ x.2 ≤ 1152921504606846976) ∨ ((clp x).2 = 1152921504606846976 ∧ ¬ x.2 ≤ 1152921504606846976) := by unfold clp; simp only; omega
  have hb0 : ∀ p q : Value, Below w.heap.size w ((w.alloc (.cells #[.int .i64 x.1, .int .i64 x.2] 42)).alloc (.cells #[p, q] 42)) := fun p q => ((Below.refl _ w).alloc (Nat.le_refl _) _).alloc (by simp) _
  have HB := hide hb0
  clear hb0
  generalize (clp x).1 = a at h1
  generalize (clp x).2 = b at h2
  rcases h1 with ⟨rfl, c1⟩ | ⟨rfl, c1⟩ <;> rcases h2 with ⟨rfl, c2⟩ | ⟨rfl, c2⟩
  all_goals
    go_enter Tryd.func17, Tryd.ntmps17
    go_wp2
    all_goals first
      | omega
      | (refine bodyPost_ret (v := _) ?_ rfl ⟨rfl, HB.out _ _⟩; simp [results, Tryd.results17, go_sem])
set_option maxHeartbeats 1000000 in
theorem lay_skip (v : Value) (x : Int × Int) (w : World) (hx : x.2 ≤ x.1) :
    Calls Tryd.prog 16 #[v, .agg #[.int .i64 x.1, .int .i64 x.2]] w fun e w' => e = .returned v ∧ Below w.heap.size w w' ∧ KeepsOthers w w' := by
  have hb0 : Below w.heap.size w (w.alloc (.cells #[.int .i64 x.1, .int .i64 x.2] 42)) ∧ KeepsOthers w (w.alloc (.cells #[.int .i64 x.1, .int .i64 x.2] 42)) := ⟨(Below.refl _ w).alloc (Nat.le_refl _) _, KeepsOthers.alloc _ _⟩
  have HB := hide hb0
  clear hb0
  go_enter Tryd.func16, Tryd.ntmps16
  go_wp2
  go_ret
  exact ⟨rfl, HB.out⟩
set_option maxHeartbeats 1000000 in
theorem lay_put (b : Nat) (v : Value) (zs : List (Int × Int)) (x : Int × Int) (w : World) (hx : x.1 < x.2) (hk : zs.length ≤ 1000000) (hown : w.ownsRow b 42 2 v zs.length (clZ zs)) (hb : b ≤ w.heap.size) :
    Calls Tryd.prog 16 #[v, .agg #[.int .i64 x.1, .int .i64 x.2]] w fun e w' => ∃ v', e = .returned v' ∧ w'.ownsRow b 42 2 v' (zs ++ [x]).length (clZ (zs ++ [x])) ∧ Below b w w' ∧ KeepsOthers w w' ∧ ∀ j, j < w.heap.size → some j ≠ v.ownBlock → w'.heap[j]? = w.heap[j]? := by
  obtain ⟨i0, hi, hz0, hz1, hz2⟩ := info_parts infoSpanM
  have hb0 : Below b w (w.alloc (.cells #[.int .i64 x.1, .int .i64 x.2] 42)) := (Below.refl _ w).alloc hb _
  have hnx : ¬ x.2 ≤ x.1 := by omega
  go_enter Tryd.func16, Tryd.ntmps16
  go_wp2_with (at_builtin; refine wpList_append_own _ rfl (.tmp 11) (.tmp 13) 28 rfl b 42 i0 (.agg #[.int .i64 0, .int .i64 0]) 2 16 Tryd.underlying28 hi hz0 hz1 hz2 rfl (by decide) _ _ _ rfl ((hown.alloc _).alloc _) ⟨w.heap.size + 1, 0, none⟩ 1 1 [.int .i64 x.1, .int .i64 x.2] rfl rfl ?c1 ?c2 ?c3 ?c4 ?c5 ?_)
  case c2 => first | exact ⟨rfl, rfl⟩ | (intro u hu; simp at hu; rcases hu with rfl | rfl <;> rfl)
  case c3 => unfold maxLen; omega
  case c4 => omega
  case c5 => first | omega | (simp; omega)
  intro v' w1 hown' hgrow _
  have hB1 := (hb0.alloc (by simp; omega) (.cells #[.int .i64 x.1, .int .i64 x.2] 42)).grown hgrow (by simp; omega) (fun j hj => (hown.lt j hj).1)
  have hK1 : KeepsOthers w w1 := ((KeepsOthers.alloc w (.cells #[.int .i64 x.1, .int .i64 x.2] 42)).trans (KeepsOthers.alloc _ (.cells #[.int .i64 x.1, .int .i64 x.2] 42))).trans (KeepsOthers.of_grownBy hgrow fun j o ej hj => by
    rcases ((hown.alloc (.cells #[.int .i64 x.1, .int .i64 x.2] 42)).alloc (.cells #[.int .i64 x.1, .int .i64 x.2] 42)).2 with ⟨rfl, _⟩ | ⟨g, cap, cur, rfl, _, hgb, _⟩
    · simp [Value.ownBlock] at ej
    · obtain rfl : g = j := by simpa [Value.ownBlock] using ej
      rw [hgb] at hj; cases hj; rfl)
  have hk1 : ∀ j, j < w.heap.size → some j ≠ v.ownBlock → w1.heap[j]? = w.heap[j]? := fun j hj hne => (hgrow.block j (by simp; omega) hne).trans ((Below.heap_alloc _ _ _ (by simp; omega)).trans (Below.heap_alloc _ _ _ hj))
  have HB := hide (And.intro hB1 (And.intro hK1 hk1))
  have HO := hide hown'
  clear hB1 hK1 hk1 hown' hgrow hown hb0
  go_wp2
  go_ret
  refine ⟨v', rfl, ?_, HB.out⟩
  rw [List.length_append, clZ_app]
  exact HO.out
theorem ccmp (a b : Int) (w : World) : Calls Tryd.prog 20 #[.int .i64 a, .int .i64 b] w fun e w' => ∃ c, e = .returned (.int .i64 c) ∧ w' = w ∧ ((a < b ∧ c = -1) ∨ (a = b ∧ c = 0) ∨ (b < a ∧ c = 1)) := by
  have h : a < b ∨ (¬ a < b ∧ b < a) ∨ (¬ a < b ∧ ¬ b < a) := by omega
  rcases h with h | ⟨h, h'⟩ | ⟨h, h'⟩
  all_goals
    go_enter Tryd.func20, Tryd.ntmps20
    go_wp2
    all_goals first
      | omega
      | (go_ret; exact ⟨_, rfl, rfl, by omega⟩)
theorem cisNaN (a : Int) (w : World) : Calls Tryd.prog 34 #[.int .i64 a] w fun e w' => e = .returned (.bool false) ∧ w' = w := by
  go_enter Tryd.func34, Tryd.ntmps34
  go_wp2
  go_ret
  exact ⟨by simp, rfl⟩
theorem own_below {w X : World} {base : Nat} {e : TypeId} {sz : Nat} {v : Value} {n : Nat} {xs : List Value} (h : w.ownsRow base e sz v n xs) (hb : Below w.heap.size w X) : X.ownsRow base e sz v n xs := by
  refine ⟨h.1, ?_⟩
  rcases h.2 with h0 | ⟨g, cap, cur, hv, hg, hh, h1, h2, h3, h4⟩
  · exact .inl h0
  · have hlt : g < w.heap.size := by
      rcases Nat.lt_or_ge g w.heap.size with hl | hl
      · exact hl
      · rw [Array.getElem?_eq_none hl] at hh; cases hh
    exact .inr ⟨g, cap, cur, hv, hg, (hb.block g hlt).trans hh, h1, h2, h3, h4⟩
theorem own_form {w : World} {b : Nat} {e : TypeId} {z : Nat} {v : Value} {n : Nat} {xs : List Value} (h : w.ownsRow b e z v n xs) : ∃ a l c, v = .slice a l c := by
  rcases h.2 with ⟨h', _⟩ | ⟨g, cap, cur, h', _⟩
  · exact ⟨_, _, _, h'⟩
  · exact ⟨_, _, _, h'⟩
theorem lay_any (b : Nat) (v : Value) (zs : List (Int × Int)) (x : Int × Int) (w : World) (hk : zs.length ≤ 1000000) (hown : w.ownsRow b 42 2 v zs.length (clZ zs)) (hb : b ≤ w.heap.size) :
    Calls Tryd.prog 16 #[v, .agg #[.int .i64 x.1, .int .i64 x.2]] w fun e w' => ∃ v', e = .returned v' ∧ w'.ownsRow b 42 2 v' (ly zs x).length (clZ (ly zs x)) ∧ Below b w w' ∧ KeepsOthers w w' ∧ ∀ j, j < w.heap.size → some j ≠ v.ownBlock → w'.heap[j]? = w.heap[j]? := by
  unfold ly
  by_cases h : x.2 ≤ x.1
  · rw [if_pos h]
    exact (lay_skip v x w h).mono fun e w' ⟨he, hB, hK⟩ => ⟨v, he, own_below hown hB, hB.mono hb, hK, fun j hj _ => hB.block j hj⟩
  · rw [if_neg h]
    exact lay_put b v zs x w (by omega) hk hown hb
/-- the form of a set: each from Low to High, none empty, each ahead of the next -/
def InvL (L : List (Int × Int)) : Prop := (∀ p ∈ L, -1152921504606846976 ≤ p.1 ∧ p.1 < p.2 ∧ p.2 ≤ 1152921504606846976) ∧ L.Pairwise (fun a b => a.2 < b.1)
end Go.Proofs.YtabgoicholknoaaDoor
