/- In one plain sentence: for every input the law ClockTexts returns true, changes no argument and touches no old memory; package errors' variable errorType, the table of powers of ten of internal/strconv and two tables of math/bits are read as the program's text lays them. -/
import Derived.Test.YtafaacliphdndaaGreatDoorMClockTexts43
import Derived.Test.YtafaacliphdndaaGreatDoorMClockTexts17
import Derived.Test.YtafaacliphdndaaGreatDoorMClockTexts16
import Derived.SevenTiedAt
import Derived.Lib.SmallJoins
namespace Go.Proofs.YtafaacliphdndaaGreatDoor.clockTextsP
open Go.ChangeShapes Go.WideShapes Go.RowKit Go
set_option linter.unusedVariables false

theorem cellsstamp : Tryz.prog.cellsOf 33 = 3 := by kernel_rfl

set_option maxRecDepth 100000 in
theorem lifted (os : Os) (started : os.Started) (H : Type) (enc : TypeId × Value → H) :
    ReturnsInHanded {} Tryz.checked os 5 .any (fun w args => (Rows.clockTextsSpec.pre enc Tryz.prog Tryz.f5 [] false w args ∧ laidMetH Tryz.prog lstT w) ∧ sizedMet enc Tryz.prog Tryz.f5 (OpenSpec.ofChange Rows.clockTextsSpec) false w args)
      (Rows.clockTextsSpec.post enc Tryz.prog Tryz.f5 false true false false) := by
  refine returnsInHanded_of_change_and (C := Tryz.checked) (X := fun w _ => laidMetH Tryz.prog lstT w) (fun _ _ _ hh h => h.of_heap hh) own started (by kernel_rfl) Tryz.func5
    (ChangeSpec.witness_at (enc := enc) (C := Tryz.checked) (os := os) (X := fun w _ => laidMetH Tryz.prog lstT w) false (laidWorldT os) #[.int .i64 0, .int .i64 0, .agg #[.int .i64 0, .int .i64 0, .int .i64 0]] 8 rfl (by kernel_rfl) (by kernel_rfl) (by kernel_rfl) (by kernel_rfl) (by kernel_rfl) (laidWorldT_met os _)) ?_
  intro W base args ds gs before hval0 hW _ _ hL _
  have hval : ∀ (j : Nat) t v, Tryz.f5.params[j]? = some t → args[j]? = some v → Value.okWide Tryz.prog W .any base t v := hval0
  have hW' := hW
  obtain ⟨p, q, hA0, hV0, rfl, hfz, hnd⟩ := hW
  have hA : DataW.TrodAll enc Tryz.prog W 0 (fun _ => true) true Tryz.f5.params.toList args.toList ds p := hA0
  have hV : DataW.TrodVars enc Tryz.prog W (fun _ => true) [] gs q := hV0
  rw [Tryz.params5] at hA hval
  obtain ⟨v0, vs0, d0, ds0, p0, q0, hargs, rfl, rfl, h0, r0⟩ := trodAll_cons hA
  obtain ⟨v1, vs1, d1, ds1, p1, q1, rfl, rfl, rfl, h1, r1⟩ := trodAll_cons r0
  obtain ⟨v2, vs2, d2, ds2, p2, q2, rfl, rfl, rfl, h2, r2⟩ := trodAll_cons r1
  obtain ⟨rfl, rfl, rfl⟩ := trodAll_nil r2
  obtain rfl : args = #[v0, v1, v2] := by cases args; simp_all
  obtain ⟨a0, rfl, rfl, rfl, w0⟩ := open_int Tryz.underlying22 (hval 0 22 v0 rfl rfl) h0
  obtain ⟨a1, rfl, rfl, rfl, w1⟩ := open_int Tryz.underlying3 (hval 1 3 v1 rfl rfl) h1
  obtain ⟨c20, c21, c22, y20, y21, y22, n2, rfl, rfl, rfl, r20, r21, r22⟩ := Go.Joins.open_agg3 Tryz.underlying33 (by kernel_rfl) cellsstamp (hval 2 33 v2 rfl rfl) h2
  obtain ⟨a20, e20, rfl, w20⟩ := DataW.trod_int Tryz.underlying22 r20
  simp only [List.cons.injEq, and_true] at e20
  subst e20
  obtain ⟨a21, e21, rfl, w21⟩ := DataW.trod_int Tryz.underlying3 r21
  simp only [List.cons.injEq, and_true] at e21
  subst e21
  obtain ⟨a22, e22, rfl, w22⟩ := DataW.trod_int Tryz.underlying3 r22
  simp only [List.cons.injEq, and_true] at e22
  subst e22
  have hg := ht_of_laid hL
  obtain ⟨rfl, rfl⟩ : gs = [] ∧ q = [] := by
    cases gs with
    | nil => exact ⟨rfl, hV⟩
    | cons g r => exact absurd hV (by intro h; cases h)
  have e1 : Rows.clockTextsSpec.fn H ([.lit (.int .i64 a0), .lit (.int .i64 a1), .agg [.lit (.int .i64 a20), .lit (.int .i64 a21), .lit (.int .i64 a22)]] ++ []) = { results := [.lit (.bool true)], args := [.lit (.int .i64 a0), .lit (.int .i64 a1), .agg [.lit (.int .i64 a20), .lit (.int .i64 a21), .lit (.int .i64 a22)]] } := by simp [Rows.clockTextsSpec]
  refine (ctexts_walk a0 a1 a20 a21 a22 W hg (wf_bd w0).1 (wf_bd w0).2 (wf_bd w20).1 (wf_bd w20).2).mono fun e W' ⟨he, hb⟩ => ?_
  subst he
  refine ⟨_, rfl, _, _, _, [], [], [], hW', ?_, ?_, ?_, hb.frame _, fun h => by cases h⟩
  · rw [e1]; exact trodAll_mk1 (shut_bool Tryz.underlying4 true)
  · rw [e1]; exact trodAll_cons_mk (shut_int Tryz.underlying22 w0) (trodAll_cons_mk (shut_int Tryz.underlying3 w1) (trodAll_cons_mk (Go.Joins.shut_agg3 (y0 := (.lit (.int .i64 a20), [])) (y1 := (.lit (.int .i64 a21), [])) (y2 := (.lit (.int .i64 a22), [])) Tryz.underlying33 (by kernel_rfl) cellsstamp ⟨1, by simp [DataW.trod, Tryz.underlying22, w20]⟩ ⟨1, by simp [DataW.trod, Tryz.underlying3, w21]⟩ ⟨1, by simp [DataW.trod, Tryz.underlying3, w22]⟩) trodAll_mk0))
  · rw [e1]; rfl

theorem said : Rows.ClockTextsSaid :=
  OpenClaim.holds_of_wide 5 Tryz.f5 rfl rfl rfl rfl rfl rfl rfl ⟨rfl, rfl, rfl, rfl, rfl⟩ rfl rfl rfl rfl rfl (by kernel_rfl) Tryz.func5 (by kernel_rfl)
    (of_decide_eq_true (by kernel_rfl)) (by unfold Func.isWrapper; rw [if_neg (of_decide_eq_false (by kernel_rfl))]; exact ⟨rfl, rfl⟩)
    (fun os started H enc _ => lifted os started H enc)

theorem plain (f : FuncId) (fn : Func) (hf : Tryz.pinned.checked.prog.funcNamed "almanac/almanaclaw.ClockTexts" = some f) (hfn : Tryz.pinned.checked.prog.funcs[f]? = some fn) :
    true = Tryz.pinned.checked.prog.looks [] ∧ ∀ (j : Nat) t, fn.params[j]? = some t → Tryz.pinned.checked.prog.wantsStandIn t = false := by
  obtain rfl : f = 5 := Option.some.inj ((show Tryz.prog.funcNamed "almanac/almanaclaw.ClockTexts" = some 5 by kernel_rfl).symm.trans hf) |>.symm
  obtain rfl : fn = Tryz.f5 := (Option.some.inj (Tryz.func5.symm.trans hfn)).symm
  refine ⟨by kernel_rfl, fun j t ht => ?_⟩
  rw [Tryz.params5] at ht
  have hm := Array.mem_of_getElem? ht
  simp only [List.mem_toArray, List.mem_cons, List.not_mem_nil, or_false] at hm
  have h : t = 22 ∨ t = 33 ∨ t = 3 := by first | omega | exact hm | exact hm.symm | (rcases hm with hm | hm | hm <;> first | exact hm | exact hm.symm | simp [hm])
  rcases h with rfl | rfl | rfl
  · exact (show Tryz.prog.wantsStandIn 22 = false by kernel_rfl)
  · exact (show Tryz.prog.wantsStandIn 33 = false by kernel_rfl)
  · exact (show Tryz.prog.wantsStandIn 3 = false by kernel_rfl)
end Go.Proofs.YtafaacliphdndaaGreatDoor.clockTextsP
namespace Go.Proofs.YtafaacliphdndaaGreatDoor
open Go
/-- THE CARD -/
theorem clockTexts_card : Rows.ClockTextsCardSaid :=
  Claim7.holds_tied_plain_at .later [] _ _ _ _ clockTextsP.said (fun _ h => by cases h) (by kernel_rfl) (fun _ h => by cases h) clockTexts_row_tie rfl ⟨rfl, rfl⟩ (by kernel_rfl) rfl clockTextsP.plain (by kernel_rfl)
#print axioms clockTexts_card
end Go.Proofs.YtafaacliphdndaaGreatDoor
