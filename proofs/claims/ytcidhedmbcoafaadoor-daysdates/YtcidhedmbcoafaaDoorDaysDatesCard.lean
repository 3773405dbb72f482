/- In one plain sentence: for every input the law DaysDates returns true, changes no argument and touches no old memory; package errors' variable errorType is read as the program's text lays it. -/
import Derived.Test.YtcidhedmbcoafaaDoorDaysDates
import Derived.Test.YtcidhedmbcoafaaDoorLawBase
import Derived.SevenTiedAt
import Derived.Lib.SmallJoins
namespace Go.Proofs.YtcidhedmbcoafaaDoor.daysDatesP
open Go.ChangeShapes Go.WideShapes Go.RowKit Go
set_option linter.unusedVariables false

theorem cellsdate : Tryd.prog.cellsOf 31 = 4 := by kernel_rfl

set_option maxRecDepth 100000 in
theorem lifted (os : Os) (started : os.Started) (H : Type) (enc : TypeId × Value → H) :
    ReturnsInHanded {} Tryd.checked os 4 .any (fun w args => (Rows.daysDatesSpec.pre enc Tryd.prog Tryd.f4 [] false w args ∧ laidMetH Tryd.prog lst w) ∧ sizedMet enc Tryd.prog Tryd.f4 (OpenSpec.ofChange Rows.daysDatesSpec) false w args)
      (Rows.daysDatesSpec.post enc Tryd.prog Tryd.f4 false true false false) := by
  refine returnsInHanded_of_change_and (C := Tryd.checked) (X := fun w _ => laidMetH Tryd.prog lst w) (fun _ _ _ hh h => h.of_heap hh) own started (by kernel_rfl) Tryd.func4
    (ChangeSpec.witness_at (enc := enc) (C := Tryd.checked) (os := os) (X := fun w _ => laidMetH Tryd.prog lst w) false (laidWorld os) #[.agg #[.int .i64 0, .int .i64 0, .int .i64 0, .int .i64 0]] 8 rfl (by kernel_rfl) (by kernel_rfl) (by kernel_rfl) (by kernel_rfl) (by kernel_rfl) (laidWorld_met os _)) ?_
  intro W base args ds gs before hval0 hW _ _ hL _
  have hval : ∀ (j : Nat) t v, Tryd.f4.params[j]? = some t → args[j]? = some v → Value.okWide Tryd.prog W .any base t v := hval0
  have hW' := hW
  obtain ⟨p, q, hA0, hV0, rfl, hfz, hnd⟩ := hW
  have hA : DataW.TrodAll enc Tryd.prog W 0 (fun _ => true) true Tryd.f4.params.toList args.toList ds p := hA0
  have hV : DataW.TrodVars enc Tryd.prog W (fun _ => true) [] gs q := hV0
  rw [Tryd.params4] at hA hval
  obtain ⟨v0, vs0, d0, ds0, p0, q0, hargs, rfl, rfl, h0, r0⟩ := trodAll_cons hA
  obtain ⟨rfl, rfl, rfl⟩ := trodAll_nil r0
  obtain rfl : args = #[v0] := by cases args; simp_all
  obtain ⟨c00, c01, c02, c03, y00, y01, y02, y03, n0, rfl, rfl, rfl, r00, r01, r02, r03⟩ := Go.Joins.open_agg4 Tryd.underlying31 (by kernel_rfl) cellsdate (hval 0 31 v0 rfl rfl) h0
  obtain ⟨a00, e00, rfl, w00⟩ := DataW.trod_int Tryd.underlying22 r00
  simp only [List.cons.injEq, and_true] at e00
  subst e00
  obtain ⟨a01, e01, rfl, w01⟩ := DataW.trod_int Tryd.underlying3 r01
  simp only [List.cons.injEq, and_true] at e01
  subst e01
  obtain ⟨a02, e02, rfl, w02⟩ := DataW.trod_int Tryd.underlying3 r02
  simp only [List.cons.injEq, and_true] at e02
  subst e02
  obtain ⟨a03, e03, rfl, w03⟩ := DataW.trod_int Tryd.underlying3 r03
  simp only [List.cons.injEq, and_true] at e03
  subst e03
  have hg := handle_of_laid hL
  obtain ⟨rfl, rfl⟩ : gs = [] ∧ q = [] := by
    cases gs with
    | nil => exact ⟨rfl, hV⟩
    | cons g r => exact absurd hV (by intro h; cases h)
  have e1 : Rows.daysDatesSpec.fn H ([.agg [.lit (.int .i64 a00), .lit (.int .i64 a01), .lit (.int .i64 a02), .lit (.int .i64 a03)]] ++ []) = { results := [.lit (.bool true)], args := [.agg [.lit (.int .i64 a00), .lit (.int .i64 a01), .lit (.int .i64 a02), .lit (.int .i64 a03)]] } := by simp [Rows.daysDatesSpec]
  refine (dates_walk a00 a01 a02 a03 W hg).mono fun e W' ⟨he, hb⟩ => ?_
  subst he
  refine ⟨_, rfl, _, _, _, [], [], [], hW', ?_, ?_, ?_, hb.frame _, fun h => by cases h⟩
  · rw [e1]; exact trodAll_mk1 (shut_bool Tryd.underlying4 true)
  · rw [e1]; exact trodAll_cons_mk (Go.Joins.shut_agg4 (y0 := (.lit (.int .i64 a00), [])) (y1 := (.lit (.int .i64 a01), [])) (y2 := (.lit (.int .i64 a02), [])) (y3 := (.lit (.int .i64 a03), [])) Tryd.underlying31 (by kernel_rfl) cellsdate ⟨1, by simp [DataW.trod, Tryd.underlying22, w00]⟩ ⟨1, by simp [DataW.trod, Tryd.underlying3, w01]⟩ ⟨1, by simp [DataW.trod, Tryd.underlying3, w02]⟩ ⟨1, by simp [DataW.trod, Tryd.underlying3, w03]⟩) trodAll_mk0
  · rw [e1]; rfl

theorem said : Rows.DaysDatesSaid :=
  OpenClaim.holds_of_wide 4 Tryd.f4 rfl rfl rfl rfl rfl rfl rfl ⟨rfl, rfl, rfl, rfl, rfl⟩ rfl rfl rfl rfl rfl (by kernel_rfl) Tryd.func4 (by kernel_rfl)
    (of_decide_eq_true (by kernel_rfl)) (by unfold Func.isWrapper; rw [if_neg (of_decide_eq_false (by kernel_rfl))]; exact ⟨rfl, rfl⟩)
    (fun os started H enc _ => lifted os started H enc)

theorem plain (f : FuncId) (fn : Func) (hf : Tryd.pinned.checked.prog.funcNamed "almanac/almanaclaw.DaysDates" = some f) (hfn : Tryd.pinned.checked.prog.funcs[f]? = some fn) :
    true = Tryd.pinned.checked.prog.looks [] ∧ ∀ (j : Nat) t, fn.params[j]? = some t → Tryd.pinned.checked.prog.wantsStandIn t = false := by
  obtain rfl : f = 4 := Option.some.inj ((show Tryd.prog.funcNamed "almanac/almanaclaw.DaysDates" = some 4 by kernel_rfl).symm.trans hf) |>.symm
  obtain rfl : fn = Tryd.f4 := (Option.some.inj (Tryd.func4.symm.trans hfn)).symm
  refine ⟨by kernel_rfl, fun j t ht => ?_⟩
  rw [Tryd.params4] at ht
  have hm := Array.mem_of_getElem? ht
  simp only [List.mem_toArray, List.mem_cons, List.not_mem_nil, or_false] at hm
  have h : t = 31 := by first | omega | exact hm | exact hm.symm | (rcases hm with hm | hm | hm <;> simp [hm])
  rcases h with rfl
  · exact (show Tryd.prog.wantsStandIn 31 = false by kernel_rfl)
end Go.Proofs.YtcidhedmbcoafaaDoor.daysDatesP
namespace Go.Proofs.YtcidhedmbcoafaaDoor
open Go
/-- THE CARD -/
theorem daysDates_card : Rows.DaysDatesCardSaid :=
  Claim7.holds_tied_plain_at .later [] _ _ _ _ daysDatesP.said (fun _ h => by cases h) (by kernel_rfl) (fun _ h => by cases h) daysDates_row_tie rfl ⟨rfl, rfl⟩ (by kernel_rfl) rfl daysDatesP.plain (by kernel_rfl)
#print axioms daysDates_card
end Go.Proofs.YtcidhedmbcoafaaDoor
