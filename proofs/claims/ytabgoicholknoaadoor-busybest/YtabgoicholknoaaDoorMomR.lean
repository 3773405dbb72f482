/- Drawn regions inside a round of a range over a function. -/
import Derived.Test.YtabgoicholknoaaDoorMomC
import Derived.Sort.QuietIn
import Derived.BigRegionIn
namespace Go.Proofs.YtabgoicholknoaaDoor
open Go.RowKit Go.Shelf
set_option linter.unusedVariables false

section
variable {F : Fence} {n : Nat} {P : Program} {ops : Array Oper} {Q : Exit → Act → World → Prop} {md : Region.Mode} {l : Nat}
/-- an operation that is no defer runs within a round as outside of one -/
theorem oper_round (hro : F.round = none) (o : Oper) (hd : ∀ c, o.op ≠ .defer c) (a : Act) (w : World) (next : Act → World → Prop) (h : o.wpIn F n P a w next Q) : o.wpIn (F.inRound l) n P a w next Q := by
  unfold Oper.wpIn at h ⊢
  rw [Oper.semAt_eq _ _ _ hd] at h ⊢
  refine ⟨h.1, ?_⟩
  have h2 := h.2
  generalize (execOp a.eval o).run P w = r at h2
  cases r with
  | ok x w' => cases x <;> exact h2
  | halt x w' => cases x <;> exact h2
theorem anyOp_round (hro : F.round = none) {i : Nat} (hd : ∀ (j : Nat) (o : Oper), ops[j]? = some o → ∀ c, o.op ≠ .defer c) {a : Act} {w : World} {K K' : Act → World → Prop} (hK : ∀ a w, K a w → K' a w)
    (h : wpOpIn F n P ops Q i K a w) : wpOpIn (F.inRound l) n P ops Q i K' a w := by
  refine wpOpIn_mono (F := F.inRound l) (P := P) hK ?_
  unfold wpOpIn at h ⊢
  split
  · rename_i ho; simp only [ho] at h; exact h
  · rename_i o ho
    simp only [ho] at h
    split
    · rename_i hw; simp only [hw, if_true] at h; exact oper_round hro o (hd i o ho) a w K h
    · rename_i hw; simp only [hw] at h; exact h
theorem any_round (hro : F.round = none) (hd : ∀ (j : Nat) (o : Oper), ops[j]? = some o → ∀ c, o.op ≠ .defer c) : ∀ (fuel : Nat) (listed : Array Bool) (a : Act) (w : World),
    wpAnyIn F n P md ops Q fuel listed a w → wpAnyIn (F.inRound l) n P md ops Q fuel listed a w
  | 0, _, _, _, h => h
  | fuel + 1, _, _, _, h => ⟨h.1, fun i hi => anyOp_round hro hd (fun a' w' h' => any_round hro hd fuel _ a' w' h') (h.2 i hi)⟩

/-- is there a defer among them -/
def noDefer : List Oper → Bool
  | [] => true
  | o :: os => (match o.op with | .defer _ => false | _ => true) && noDefer os
theorem noDefer_spec : ∀ (os : List Oper), noDefer os = true → ∀ (j : Nat) o, os.toArray[j]? = some o → ∀ c, o.op ≠ .defer c
  | [], _, j, o, h => by simp at h
  | x :: os, hn, 0, o, h => by
    simp only [noDefer, Bool.and_eq_true] at hn
    have : x = o := by simpa using h
    subst this
    intro c hc
    rw [hc] at hn
    exact absurd hn.1 (by simp)
  | x :: os, hn, j + 1, o, h => by
    simp only [noDefer, Bool.and_eq_true] at hn
    exact noDefer_spec os hn.2 j o (by simpa using h)

theorem region_any_round {id : Nat} {a : Act} {w : World} {os : List Oper} (hro : F.round = none) (hm : P.follows .mixedOrders = true) (hd : noDefer os = true)
    (h : wpAnyIn F n P .any os.toArray Q os.length (Array.replicate os.length false) a w.drew) : (Code.region id os.toArray true).wpIn (F.inRound l) n P Q a w :=
  wpIn_region_any hm (any_round hro (noDefer_spec os hd) _ _ _ _ (by simpa using h))

theorem region_quiet_round {id : Nat} {a : Act} {w : World} {os : List Oper} (hro : F.round = none) (hm : P.follows .mixedOrders = true) (hd : noDefer os = true) (hB : Region.lexB .any os.toArray = true)
    (h : wpQuietIn F n P os.toArray (fun w' => ∃ n, w' = w.drewN n) (fun a' => ∀ w', (∃ n, w' = w.drewN n) → Q .normal a' w') os a) : (Code.region id os.toArray true).wpIn (F.inRound l) n P Q a w := by
  refine region_any_round hro hm hd ?_
  simp only [Region.lexB, Bool.and_eq_true] at hB
  refine wpAnyIn_of_quiet (C := fun w' => ∃ n, w' = w.drewN n) (Q := fun a' => ∀ w', (∃ n, w' = w.drewN n) → Q .normal a' w') hro (fun _ w' hw' h => h w' hw') _ _ _ _ ⟨1, rfl⟩ ?_
  have h2 := wpAnyQIn_lex (F := F) (n := n) (C := fun w' => ∃ n, w' = w.drewN n) (md := .any) hB.1 os 0 (Array.replicate os.length false) a (by simp) (by simpa using hB.2) h
  simpa using h2
end
end Go.Proofs.YtabgoicholknoaaDoor
