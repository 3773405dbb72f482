/- A region that draws its order, walked in one order: in a fence, and in a round of a range over a function. -/
import Derived.Test.YtjmjabdokckdlaaDoorLinG
import Derived.BigRegionIn
import Derived.OrdersIn
import Derived.TacticsIn
import Derived.Deep.RegionHeld3
namespace Go.Proofs.YtjmjabdokckdlaaDoor
open Go Go.RowKit
set_option linter.unusedVariables false

section
variable {n : Nat} {P : Program} {ops : Array Oper} {Q : Exit → Act → World → Prop} {md : Region.Mode} {l : Nat} {S R : World → Prop}
theorem oper_wide {o : Oper} {a : Act} {w : World} {K : Act → World → Prop} (h : o.wp P a w K Q) : o.wpIn Fence.wide n P a w K Q := by
  unfold Oper.wp at h
  unfold Oper.wpIn
  refine ⟨fun _ _ => trivial, ?_⟩
  have e : Oper.semAt Fence.wide.round a.eval o = execOp a.eval o := rfl
  rw [e]
  generalize (execOp a.eval o).run P w = r at h
  cases r with
  | ok x w' =>
    cases x with
    | value v => exact h
    | skip => exact h
    | defer d => exact h
    | enter f args => exact ⟨(fun h => by cases h), callsIn_wide.2 h⟩
    | row row args => exact ⟨(fun h => by cases h), fun c cs _ => let ⟨v, w', r, s⟩ := h c cs; ⟨v, w', r, stepsIn_wide.2 s⟩⟩
    | _ => exact (h : False).elim
  | halt x w' => cases x <;> exact h
theorem op_wide (hL : ¬ LetsOut Q) {i : Nat} {a : Act} {w : World} {K : Act → World → Prop} (h : wpOp P ops Q i K a w) : wpOpIn Fence.wide n P ops Q i K a w := by
  unfold wpOp at h
  unfold wpOpIn
  split
  · rename_i ho; simp only [ho] at h; exact h
  · rename_i o ho
    simp only [ho] at h
    split
    · rename_i hw
      simp only [hw, if_true] at h
      exact oper_wide (h.resolve_right fun h => hL h.2)
    · rename_i hw
      simp only [hw] at h
      exact ⟨fun _ _ => trivial, h⟩
theorem any_wide (hL : ¬ LetsOut Q) : ∀ (fuel : Nat) (listed : Array Bool) (a : Act) (w : World), wpAny P md ops Q fuel listed a w → wpAnyIn Fence.wide n P md ops Q fuel listed a w
  | 0, _, _, _, h => h
  | fuel + 1, _, _, _, h => ⟨h.1, fun i hi => wpOpIn_mono (F := Fence.wide) (P := P) (fun a' w' h' => any_wide hL fuel _ a' w' h') (op_wide hL (h.2 i hi))⟩
/-- no panic, and room enough -/
def NoPO (Q : Exit → Act → World → Prop) : Exit → Act → World → Prop
  | .panic _, _, _ => False
  | .outgrown, _, _ => False
  | e, a, w => Q e a w
theorem NoPO.normal {a : Act} {w : World} (h : Q .normal a w) : NoPO Q .normal a w := h
theorem NoPO.imp : ∀ (e : Exit) (a : Act) (w : World), NoPO Q e a w → Q e a w := fun e a w h => by
  cases e <;> first | exact h | exact (h : False).elim
theorem noPanic_out : ¬ LetsOut (NoPO Q) := fun ⟨_, _, h⟩ => h
/-- an operation that is no defer runs within a round as outside of one -/
theorem oper_rnd {F : Fence} (hro : F.round = none) (o : Oper) (hd : ∀ c, o.op ≠ .defer c) (a : Act) (w : World) (next : Act → World → Prop) (h : o.wpIn F n P a w next Q) : o.wpIn (F.inRound l) n P a w next Q := by
  unfold Oper.wpIn at h ⊢
  rw [Oper.semAt_eq _ _ _ hd] at h ⊢
  refine ⟨h.1, ?_⟩
  have h2 := h.2
  generalize (execOp a.eval o).run P w = r at h2
  cases r with
  | ok x w' => cases x <;> exact h2
  | halt x w' => cases x <;> exact h2
theorem op_rnd {F : Fence} (hro : F.round = none) {i : Nat} (hd : ∀ (j : Nat) (o : Oper), ops[j]? = some o → ∀ c, o.op ≠ .defer c) {a : Act} {w : World} {K K' : Act → World → Prop} (hK : ∀ a w, K a w → K' a w)
    (h : wpOpIn F n P ops Q i K a w) : wpOpIn (F.inRound l) n P ops Q i K' a w := by
  refine wpOpIn_mono (F := F.inRound l) (P := P) hK ?_
  unfold wpOpIn at h ⊢
  split
  · rename_i ho; simp only [ho] at h; exact h
  · rename_i o ho
    simp only [ho] at h
    split
    · rename_i hw; simp only [hw, if_true] at h; exact oper_rnd hro o (hd i o ho) a w K h
    · rename_i hw; simp only [hw] at h; exact h
theorem any_rnd {F : Fence} (hro : F.round = none) (hd : ∀ (j : Nat) (o : Oper), ops[j]? = some o → ∀ c, o.op ≠ .defer c) : ∀ (fuel : Nat) (listed : Array Bool) (a : Act) (w : World),
    wpAnyIn F n P md ops Q fuel listed a w → wpAnyIn (F.inRound l) n P md ops Q fuel listed a w
  | 0, _, _, _, h => h
  | fuel + 1, _, _, _, h => ⟨h.1, fun i hi => op_rnd hro hd (fun a' w' h' => any_rnd hro hd fuel _ a' w' h') (h.2 i hi)⟩
/-- is there a defer among them -/
def noDefr : List Oper → Bool
  | [] => true
  | o :: os => (match o.op with | .defer _ => false | _ => true) && noDefr os
theorem noDefr_spec : ∀ (os : List Oper), noDefr os = true → ∀ (j : Nat) o, os[j]? = some o → ∀ c, o.op ≠ .defer c
  | [], _, j, o, h => by simp at h
  | x :: os, hn, 0, o, h => by
    simp only [noDefr, Bool.and_eq_true] at hn
    have : x = o := by simpa using h
    subst this
    intro c hc
    rw [hc] at hn
    exact absurd hn.1 (by simp)
  | x :: os, hn, j + 1, o, h => by
    simp only [noDefr, Bool.and_eq_true] at hn
    exact noDefr_spec os hn.2 j o (by simpa using h)
theorem any_of_lin {a : Act} {w : World} (st : List Nat) (hsel : Region.noSelect ops = true) (ord : List GItem) (hlen : ord.length = ops.size) (hck : linOKGM ops ops.toList st 0 ord = true)
    (hR : R w.drew) (hS : S w.drew) (h : ∀ ops' Q', ops' = ops → Q' = NoPO Q → wpLinG P ops' Q' S R ord a w.drew) : wpAny P .any ops (NoPO Q) ops.size (Array.replicate ops.size false) a w.drew := by
  refine wpAny_of_G (S := S) (R := R) (st := st) _ _ _ _ ?_
  have := anyG_of_lin hsel (fun _ _ _ _ _ h => h) ord _ a _ (linOKG_of_M ord _ 0 Rel.start hck) ⟨hR, fun _ => hS⟩ (h ops (NoPO Q) rfl rfl)
  rw [hlen] at this
  exact this
/-- in a fence -/
theorem wpIn_region_lin {id : Nat} {a : Act} {w : World} (st : List Nat) (hm : P.follows .mixedOrders = true) (hsel : Region.noSelect ops = true) (ord : List GItem) (hlen : ord.length = ops.size) (hck : linOKGM ops ops.toList st 0 ord = true)
    (hR : R w.drew) (hS : S w.drew) (h : ∀ ops' Q', ops' = ops → Q' = NoPO Q → wpLinG P ops' Q' S R ord a w.drew) : (Code.region id ops true).wpIn Fence.wide n P Q a w :=
  Code.wpIn_mono NoPO.imp (wpIn_region_any hm (any_wide noPanic_out _ _ _ _ (any_of_lin st hsel ord hlen hck hR hS h)))
/-- in a round -/
theorem wpIn_region_linR {id : Nat} {a : Act} {w : World} (st : List Nat) (hm : P.follows .mixedOrders = true) (hsel : Region.noSelect ops = true) (ord : List GItem) (hlen : ord.length = ops.size) (hck : linOKGM ops ops.toList st 0 ord = true) (hd : noDefr ops.toList = true)
    (hR : R w.drew) (hS : S w.drew) (h : ∀ ops' Q', ops' = ops → Q' = NoPO Q → wpLinG P ops' Q' S R ord a w.drew) : (Code.region id ops true).wpIn (Fence.wide.inRound l) n P Q a w :=
  Code.wpIn_mono NoPO.imp (wpIn_region_any hm (any_rnd rfl (fun j o ho => noDefr_spec _ hd j o (by simpa using ho)) _ _ _ _ (any_wide (n := n) noPanic_out _ _ _ _ (any_of_lin st hsel ord hlen hck hR hS h))))
end
end Go.Proofs.YtjmjabdokckdlaaDoor
