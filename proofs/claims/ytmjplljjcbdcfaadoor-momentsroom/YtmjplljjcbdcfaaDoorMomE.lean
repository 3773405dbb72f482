/- moments: clip, lay, the two closures. -/
import Derived.Test.YtmjplljjcbdcfaaDoorMomC
namespace Go.Proofs.YtmjplljjcbdcfaaDoor
open Go.RowKit Go.Shelf
set_option linter.unusedVariables false
set_option linter.unusedSimpArgs false

/-- a span kept from Low to High -/
def clp (x : Int × Int) : Int × Int := (max x.1 (-1152921504606846976), min x.2 1152921504606846976)
/-- one span more, unless it is empty -/
def ly (zs : List (Int × Int)) (x : Int × Int) : List (Int × Int) := if x.2 ≤ x.1 then zs else zs ++ [x]
theorem ly_len (zs : List (Int × Int)) (x : Int × Int) : (ly zs x).length ≤ zs.length + 1 := by unfold ly; split <;> simp

set_option maxHeartbeats 2000000 in
theorem clip_any (x : Int × Int) (w : World) :
    Calls Tryd.prog 50 #[.agg #[.int .i64 x.1, .int .i64 x.2]] w fun e w' => e = .returned (.agg #[.int .i64 (clp x).1, .int .i64 (clp x).2]) ∧ Below w.heap.size w w' := by
  have h1 : ((clp x).1 = x.1 ∧ -1152921504606846976 ≤ x.1) ∨ ((clp x).1 = -1152921504606846976 ∧ ¬ -1152921504606846976 ≤ x.1) := by unfold clp; simp only; omega
  have h2 : ((clp x).2 = x.2 ∧ x.2 ≤ 1152921504606846976) ∨ ((clp x).2 = 1152921504606846976 ∧ ¬ x.2 ≤ 1152921504606846976) := by unfold clp; simp only; omega
  have hb0 : ∀ p q : Value, Below w.heap.size w ((w.alloc (.cells #[.int .i64 x.1, .int .i64 x.2] 55)).alloc (.cells #[p, q] 55)) := fun p q => ((Below.refl _ w).alloc (Nat.le_refl _) _).alloc (by simp) _
  have HB := hide hb0
  clear hb0
  generalize (clp x).1 = a at h1
  generalize (clp x).2 = b at h2
  rcases h1 with ⟨rfl, c1⟩ | ⟨rfl, c1⟩ <;> rcases h2 with ⟨rfl, c2⟩ | ⟨rfl, c2⟩
  all_goals
    go_enter Tryd.func50, Tryd.ntmps50
    go_wp2
    all_goals first
      | omega
      | (refine bodyPost_ret (v := _) ?_ rfl ⟨rfl, HB.out _ _⟩; simp [results, Tryd.results50, go_sem])
set_option maxHeartbeats 1000000 in
theorem lay_skip (v : Value) (x : Int × Int) (w : World) (hx : x.2 ≤ x.1) :
    Calls Tryd.prog 49 #[v, .agg #[.int .i64 x.1, .int .i64 x.2]] w fun e w' => e = .returned v ∧ Below w.heap.size w w' := by
  have hb0 : Below w.heap.size w (w.alloc (.cells #[.int .i64 x.1, .int .i64 x.2] 55)) := (Below.refl _ w).alloc (Nat.le_refl _) _
  have HB := hide hb0
  clear hb0
  go_enter Tryd.func49, Tryd.ntmps49
  go_wp2
  go_ret
  exact ⟨rfl, HB.out⟩
set_option maxHeartbeats 1000000 in
theorem lay_put (b : Nat) (v : Value) (zs : List (Int × Int)) (x : Int × Int) (w : World) (hx : x.1 < x.2) (hk : zs.length ≤ 1000000) (hown : w.ownsRow b 55 2 v zs.length (clZ zs)) (hb : b ≤ w.heap.size) :
    Calls Tryd.prog 49 #[v, .agg #[.int .i64 x.1, .int .i64 x.2]] w fun e w' => ∃ v', e = .returned v' ∧ w'.ownsRow b 55 2 v' (zs ++ [x]).length (clZ (zs ++ [x])) ∧ Below b w w' := by
  obtain ⟨i0, hi, hz0, hz1, hz2⟩ := info_parts infoSpanM
  have hb0 : Below b w (w.alloc (.cells #[.int .i64 x.1, .int .i64 x.2] 55)) := (Below.refl _ w).alloc hb _
  have hnx : ¬ x.2 ≤ x.1 := by omega
  go_enter Tryd.func49, Tryd.ntmps49
  go_wp2_with (at_builtin; refine wpList_append_own _ rfl (.tmp 11) (.tmp 13) 22 rfl b 55 i0 (.agg #[.int .i64 0, .int .i64 0]) 2 16 Tryd.underlying22 hi hz0 hz1 hz2 rfl (by decide) _ _ _ rfl ((hown.alloc _).alloc _) ⟨w.heap.size + 1, 0, none⟩ 1 1 [.int .i64 x.1, .int .i64 x.2] rfl rfl ?c1 ?c2 ?c3 ?c4 ?c5 ?_)
  case c2 => first | exact ⟨rfl, rfl⟩ | (intro u hu; simp at hu; rcases hu with rfl | rfl <;> rfl)
  case c3 => unfold maxLen; omega
  case c4 => omega
  case c5 => first | omega | (simp; omega)
  intro v' w1 hown' hgrow _
  have hB1 := (hb0.alloc (by simp; omega) (.cells #[.int .i64 x.1, .int .i64 x.2] 55)).grown hgrow (by simp; omega) (fun j hj => (hown.lt j hj).1)
  have HB := hide hB1
  have HO := hide hown'
  clear hB1 hown' hgrow hown hb0
  go_wp2
  go_ret
  refine ⟨v', rfl, ?_, HB.out⟩
  rw [List.length_append, clZ_app]
  exact HO.out
theorem ccmp (a b : Int) (w : World) : Calls Tryd.prog 53 #[.int .i64 a, .int .i64 b] w fun e w' => ∃ c, e = .returned (.int .i64 c) ∧ w' = w ∧ ((a < b ∧ c = -1) ∨ (a = b ∧ c = 0) ∨ (b < a ∧ c = 1)) := by
  have h : a < b ∨ (¬ a < b ∧ b < a) ∨ (¬ a < b ∧ ¬ b < a) := by omega
  rcases h with h | ⟨h, h'⟩ | ⟨h, h'⟩
  all_goals
    go_enter Tryd.func53, Tryd.ntmps53
    go_wp2
    all_goals first
      | omega
      | (go_ret; exact ⟨_, rfl, rfl, by omega⟩)
theorem cisNaN (a : Int) (w : World) : Calls Tryd.prog 62 #[.int .i64 a] w fun e w' => e = .returned (.bool false) ∧ w' = w := by
  go_enter Tryd.func62, Tryd.ntmps62
  go_wp2
  go_ret
  exact ⟨by simp, rfl⟩
end Go.Proofs.YtmjplljjcbdcfaaDoor
