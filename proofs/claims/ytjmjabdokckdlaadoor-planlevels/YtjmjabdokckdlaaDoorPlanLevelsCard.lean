/- In one plain sentence: for every input the law PlanLevels returns true, changes no argument and touches no old memory; package errors' variable errorType is read as the program's text lays it. -/
import Derived.Test.YtjmjabdokckdlaaDoorRqQ
import Derived.Test.YtjmjabdokckdlaaDoorPlnOp
import Derived.Test.YtjmjabdokckdlaaDoorLawBase
import Derived.SevenTiedAt
import Derived.Lib.SmallJoins
import Derived.ChangeStays
import Derived.ReadAgain
namespace Go.Proofs.YtjmjabdokckdlaaDoor.planLevelsP
open Go.ChangeShapes Go.WideShapes Go.RowKit Go
set_option linter.unusedVariables false

theorem kidsAll : Kids Tryd.prog (· < Tryd.prog.types.size) := kids_rows (by kernel_rfl) (by kernel_rfl)
theorem fullAll : ∀ t e, t < Tryd.prog.types.size → Tryd.prog.underlying t = some (.slice e) → 0 < Tryd.prog.cellsOf e := slices_full_of Tryd.prog (by kernel_rfl)
theorem stays_of {H : Type} {enc : TypeId × Value → H} {W W' : World} {t : TypeId} {v : Value} {d : DataW H} {p : List MemPlace} (hb : Below W.heap.size W W') (ht : decide (t < Tryd.prog.types.size) = true) (h : DataW.Trod enc Tryd.prog W 0 (fun _ => true) true t v d p) :
    DataW.Trod enc Tryd.prog W' 0 (fun b => decide (b < W.heap.size)) true t v d p := by
  obtain ⟨n, hn⟩ := h
  exact ⟨n, DataW.trod_stays kidsAll (fun ht hu => fullAll _ _ ht hu) (fun h => by cases h) (of_decide_eq_true ht) hn (fun q hq => hb.same (DataW.trod_lt n _ _ _ hn q hq)) (fun q hq => decide_eq_true (DataW.trod_lt n _ _ _ hn q hq))⟩
set_option maxRecDepth 100000 in
set_option linter.all false in
theorem lifted (os : Os) (started : os.Started) (H₀ : Type) (enc : TypeId × Value → H₀) :
    ReturnsInHanded {} Tryd.checked os 4 .any (fun w args => (Rows.planLevelsSpec.pre enc Tryd.prog Tryd.f4 [] false w args ∧ laidMetH Tryd.prog lst w) ∧ sizedMet enc Tryd.prog Tryd.f4 (OpenSpec.ofChange Rows.planLevelsSpec) false w args)
      (Rows.planLevelsSpec.post enc Tryd.prog Tryd.f4 false true false false) := by
  refine returnsInHanded_of_change_and (C := Tryd.checked) (X := fun w _ => laidMetH Tryd.prog lst w) (fun _ _ _ hh h => h.of_heap hh) own started (by kernel_rfl) Tryd.func4
    (ChangeSpec.witness_at (enc := enc) (C := Tryd.checked) (os := os) (X := fun w _ => laidMetH Tryd.prog lst w) false (laidWorld os) #[.slice none 0 0, .slice none 0 0] 8 rfl (by kernel_rfl) (by kernel_rfl) (by kernel_rfl) (by kernel_rfl) (by kernel_rfl) (laidWorld_met os _)) ?_
  intro W base args ds gs before hval0 hW u1 u2 hL u3
  have hval : ∀ (j : Nat) t v, Tryd.f4.params[j]? = some t → args[j]? = some v → Value.okWide Tryd.prog W .any base t v := hval0
  have hW' := hW
  obtain ⟨p, q, hA0, hV0, rfl, hfz, hnd⟩ := hW
  have hA : DataW.TrodAll enc Tryd.prog W 0 (fun _ => true) true Tryd.f4.params.toList args.toList ds p := hA0
  have hV : DataW.TrodVars enc Tryd.prog W (fun _ => true) [] gs q := hV0
  rw [Tryd.params4] at hA hval
  obtain ⟨v0, vs0, d0, ds0, p0, q0, hargs, rfl, rfl, h0, r0⟩ := trodAll_cons hA
  obtain ⟨v1, vs1, d1, ds1, p1, q1, rfl, rfl, rfl, h1, r1⟩ := trodAll_cons r0
  obtain ⟨rfl, rfl, rfl⟩ := trodAll_nil r1
  obtain rfl : args = #[v0, v1] := by cases args; simp_all
  obtain ⟨rfl, rfl⟩ : gs = [] ∧ q = [] := by
    cases gs with
    | nil => exact ⟨rfl, hV⟩
    | cons g r => exact absurd hV (by intro h; cases h)
  obtain ⟨a0, l0, c0, rfl⟩ := okWide_slice Tryd.underlying22 (hval 0 22 v0 rfl rfl)
  obtain ⟨a1, l1, c1, rfl⟩ := okWide_slice Tryd.underlying31 (hval 1 31 v1 rfl rfl)
  obtain ⟨H, hH, _⟩ := (fun ⟨n, h⟩ => open_ns h : (∃ n, _) → _) h1
  obtain ⟨P, hP⟩ := (fun ⟨n, h⟩ => open_ts h : (∃ n, _) → _) h0
  have hd := handle_of_laid hL
  have e1 : Rows.planLevelsSpec.fn H₀ ([d0, d1] ++ []) = { results := [.lit (.bool true)], args := [d0, d1] } := by simp [Rows.planLevelsSpec]
  refine (levels_walk P H _ _ W hd hP hH).mono fun e W' ⟨he, hb⟩ => ?_
  subst he
  refine ⟨_, rfl, _, _, _, [], p0 ++ (p1 ++ []), [], hW', ?_, ?_, ?_, hb.frame _, ?_⟩
  · rw [e1]; exact trodAll_mk1 (shut_bool Tryd.underlying4 true)
  · rw [e1]; exact trodAll_cons_mk (stays_of hb (by kernel_rfl) h0) (trodAll_cons_mk (stays_of hb (by kernel_rfl) h1) trodAll_mk0)
  · rw [e1]; rfl
  · intro h; cases h

theorem said : Rows.PlanLevelsSaid :=
  OpenClaim.holds_of_wide 4 Tryd.f4 rfl rfl rfl rfl rfl rfl rfl ⟨rfl, rfl, rfl, rfl, rfl⟩ rfl rfl rfl rfl rfl (by kernel_rfl) Tryd.func4 (by kernel_rfl)
    (of_decide_eq_true (by kernel_rfl)) (by unfold Func.isWrapper; rw [if_neg (of_decide_eq_false (by kernel_rfl))]; exact ⟨rfl, rfl⟩)
    (fun os started H enc _ => lifted os started H enc)

theorem plain (f : FuncId) (fn : Func) (hf : Tryd.pinned.checked.prog.funcNamed "almanac/almanaclaw.PlanLevels" = some f) (hfn : Tryd.pinned.checked.prog.funcs[f]? = some fn) :
    true = Tryd.pinned.checked.prog.looks [] ∧ ∀ (j : Nat) t, fn.params[j]? = some t → Tryd.pinned.checked.prog.wantsStandIn t = false := by
  obtain rfl : f = 4 := Option.some.inj ((show Tryd.prog.funcNamed "almanac/almanaclaw.PlanLevels" = some 4 by kernel_rfl).symm.trans hf) |>.symm
  obtain rfl : fn = Tryd.f4 := (Option.some.inj (Tryd.func4.symm.trans hfn)).symm
  refine ⟨by kernel_rfl, fun j t ht => ?_⟩
  rw [Tryd.params4] at ht
  have hm := Array.mem_of_getElem? ht
  simp only [List.mem_toArray, List.mem_cons, List.not_mem_nil, or_false] at hm
  have h : t = 22 ∨ t = 31 := by first | omega | exact hm
  rcases h with rfl | rfl
  · exact (show Tryd.prog.wantsStandIn 22 = false by kernel_rfl)
  · exact (show Tryd.prog.wantsStandIn 31 = false by kernel_rfl)
end Go.Proofs.YtjmjabdokckdlaaDoor.planLevelsP
namespace Go.Proofs.YtjmjabdokckdlaaDoor
open Go
/-- THE CARD -/
theorem planLevels_card : Rows.PlanLevelsCardSaid :=
  Claim7.holds_tied_plain_at .later [] _ _ _ _ planLevelsP.said (fun _ h => by cases h) (by kernel_rfl) (fun _ h => by cases h) planLevels_row_tie rfl ⟨rfl, rfl⟩ (by kernel_rfl) rfl planLevelsP.plain (by kernel_rfl)
#print axioms planLevels_card
end Go.Proofs.YtjmjabdokckdlaaDoor
