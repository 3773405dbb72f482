/- In one plain sentence: for every input the law ClockBack returns true, changes no argument and touches no old memory; package errors' variable errorType, the table of powers of ten of internal/strconv and two tables of math/bits are read as the program's text lays them. -/
import Derived.Test.YtafaacliphdndaaGreatDoorMClockBack43
import Derived.Test.YtafaacliphdndaaGreatDoorMClockBack17
import Derived.SevenTiedAt
import Derived.Lib.SmallJoins
import Derived.Test.YtafaacliphdndaaGreatDoorAgg5
namespace Go.Proofs.YtafaacliphdndaaGreatDoor.clockBackP
open Go.ChangeShapes Go.WideShapes Go.RowKit Go
set_option linter.unusedVariables false

theorem cellsstamp : Tryz.prog.cellsOf 33 = 3 := by kernel_rfl
theorem cellsperiod : Tryz.prog.cellsOf 24 = 5 := by kernel_rfl

set_option maxRecDepth 100000 in
theorem lifted (os : Os) (started : os.Started) (H : Type) (enc : TypeId × Value → H) :
    ReturnsInHanded {} Tryz.checked os 6 .any (fun w args => (Rows.clockBackSpec.pre enc Tryz.prog Tryz.f6 [] false w args ∧ laidMetH Tryz.prog lstT w) ∧ sizedMet enc Tryz.prog Tryz.f6 (OpenSpec.ofChange Rows.clockBackSpec) false w args)
      (Rows.clockBackSpec.post enc Tryz.prog Tryz.f6 false true false false) := by
  refine returnsInHanded_of_change_and (C := Tryz.checked) (X := fun w _ => laidMetH Tryz.prog lstT w) (fun _ _ _ hh h => h.of_heap hh) own started (by kernel_rfl) Tryz.func6
    (ChangeSpec.witness_at (enc := enc) (C := Tryz.checked) (os := os) (X := fun w _ => laidMetH Tryz.prog lstT w) false (laidWorldT os) #[.agg #[.int .i64 0, .int .i64 0, .int .i64 0], .agg #[.int .i64 0, .int .i64 0, .int .i64 0, .int .i64 0, .int .i64 0]] 8 rfl (by kernel_rfl) (by kernel_rfl) (by kernel_rfl) (by kernel_rfl) (by kernel_rfl) (laidWorldT_met os _)) ?_
  intro W base args ds gs before hval0 hW _ _ hL _
  have hval : ∀ (j : Nat) t v, Tryz.f6.params[j]? = some t → args[j]? = some v → Value.okWide Tryz.prog W .any base t v := hval0
  have hW' := hW
  obtain ⟨p, q, hA0, hV0, rfl, hfz, hnd⟩ := hW
  have hA : DataW.TrodAll enc Tryz.prog W 0 (fun _ => true) true Tryz.f6.params.toList args.toList ds p := hA0
  have hV : DataW.TrodVars enc Tryz.prog W (fun _ => true) [] gs q := hV0
  rw [Tryz.params6] at hA hval
  obtain ⟨v0, vs0, d0, ds0, p0, q0, hargs, rfl, rfl, h0, r0⟩ := trodAll_cons hA
  obtain ⟨v1, vs1, d1, ds1, p1, q1, rfl, rfl, rfl, h1, r1⟩ := trodAll_cons r0
  obtain ⟨rfl, rfl, rfl⟩ := trodAll_nil r1
  obtain rfl : args = #[v0, v1] := by cases args; simp_all
  obtain ⟨c00, c01, c02, y00, y01, y02, n0, rfl, rfl, rfl, r00, r01, r02⟩ := Go.Joins.open_agg3 Tryz.underlying33 (by kernel_rfl) cellsstamp (hval 0 33 v0 rfl rfl) h0
  obtain ⟨a00, e00, rfl, w00⟩ := DataW.trod_int Tryz.underlying22 r00
  simp only [List.cons.injEq, and_true] at e00
  subst e00
  obtain ⟨a01, e01, rfl, w01⟩ := DataW.trod_int Tryz.underlying3 r01
  simp only [List.cons.injEq, and_true] at e01
  subst e01
  obtain ⟨a02, e02, rfl, w02⟩ := DataW.trod_int Tryz.underlying3 r02
  simp only [List.cons.injEq, and_true] at e02
  subst e02
  obtain ⟨c10, c11, c12, c13, c14, y10, y11, y12, y13, y14, n1, rfl, rfl, rfl, r10, r11, r12, r13, r14⟩ := open_agg5 Tryz.underlying24 (by kernel_rfl) cellsperiod (hval 1 24 v1 rfl rfl) h1
  obtain ⟨a10, e10, rfl, w10⟩ := DataW.trod_int Tryz.underlying3 r10
  simp only [List.cons.injEq, and_true] at e10
  subst e10
  obtain ⟨a11, e11, rfl, w11⟩ := DataW.trod_int Tryz.underlying3 r11
  simp only [List.cons.injEq, and_true] at e11
  subst e11
  obtain ⟨a12, e12, rfl, w12⟩ := DataW.trod_int Tryz.underlying3 r12
  simp only [List.cons.injEq, and_true] at e12
  subst e12
  obtain ⟨a13, e13, rfl, w13⟩ := DataW.trod_int Tryz.underlying3 r13
  simp only [List.cons.injEq, and_true] at e13
  subst e13
  obtain ⟨a14, e14, rfl, w14⟩ := DataW.trod_int Tryz.underlying3 r14
  simp only [List.cons.injEq, and_true] at e14
  subst e14
  have hg := ht_of_laid hL
  obtain ⟨rfl, rfl⟩ : gs = [] ∧ q = [] := by
    cases gs with
    | nil => exact ⟨rfl, hV⟩
    | cons g r => exact absurd hV (by intro h; cases h)
  have e1 : Rows.clockBackSpec.fn H ([.agg [.lit (.int .i64 a00), .lit (.int .i64 a01), .lit (.int .i64 a02)], .agg [.lit (.int .i64 a10), .lit (.int .i64 a11), .lit (.int .i64 a12), .lit (.int .i64 a13), .lit (.int .i64 a14)]] ++ []) = { results := [.lit (.bool true)], args := [.agg [.lit (.int .i64 a00), .lit (.int .i64 a01), .lit (.int .i64 a02)], .agg [.lit (.int .i64 a10), .lit (.int .i64 a11), .lit (.int .i64 a12), .lit (.int .i64 a13), .lit (.int .i64 a14)]] } := by simp [Rows.clockBackSpec]
  refine (cback_walk a00 a01 a02 a10 a11 a12 a13 a14 W hg).mono fun e W' ⟨he, hb⟩ => ?_
  subst he
  refine ⟨_, rfl, _, _, _, [], [], [], hW', ?_, ?_, ?_, hb.frame _, fun h => by cases h⟩
  · rw [e1]; exact trodAll_mk1 (shut_bool Tryz.underlying4 true)
  · rw [e1]; exact trodAll_cons_mk (Go.Joins.shut_agg3 (y0 := (.lit (.int .i64 a00), [])) (y1 := (.lit (.int .i64 a01), [])) (y2 := (.lit (.int .i64 a02), [])) Tryz.underlying33 (by kernel_rfl) cellsstamp ⟨1, by simp [DataW.trod, Tryz.underlying22, w00]⟩ ⟨1, by simp [DataW.trod, Tryz.underlying3, w01]⟩ ⟨1, by simp [DataW.trod, Tryz.underlying3, w02]⟩) (trodAll_cons_mk (shut_agg5 (y0 := (.lit (.int .i64 a10), [])) (y1 := (.lit (.int .i64 a11), [])) (y2 := (.lit (.int .i64 a12), [])) (y3 := (.lit (.int .i64 a13), [])) (y4 := (.lit (.int .i64 a14), [])) Tryz.underlying24 (by kernel_rfl) cellsperiod ⟨1, by simp [DataW.trod, Tryz.underlying3, w10]⟩ ⟨1, by simp [DataW.trod, Tryz.underlying3, w11]⟩ ⟨1, by simp [DataW.trod, Tryz.underlying3, w12]⟩ ⟨1, by simp [DataW.trod, Tryz.underlying3, w13]⟩ ⟨1, by simp [DataW.trod, Tryz.underlying3, w14]⟩) trodAll_mk0)
  · rw [e1]; rfl

theorem said : Rows.ClockBackSaid :=
  OpenClaim.holds_of_wide 6 Tryz.f6 rfl rfl rfl rfl rfl rfl rfl ⟨rfl, rfl, rfl, rfl, rfl⟩ rfl rfl rfl rfl rfl (by kernel_rfl) Tryz.func6 (by kernel_rfl)
    (of_decide_eq_true (by kernel_rfl)) (by unfold Func.isWrapper; rw [if_neg (of_decide_eq_false (by kernel_rfl))]; exact ⟨rfl, rfl⟩)
    (fun os started H enc _ => lifted os started H enc)

theorem plain (f : FuncId) (fn : Func) (hf : Tryz.pinned.checked.prog.funcNamed "almanac/almanackeep.ClockBack" = some f) (hfn : Tryz.pinned.checked.prog.funcs[f]? = some fn) :
    true = Tryz.pinned.checked.prog.looks [] ∧ ∀ (j : Nat) t, fn.params[j]? = some t → Tryz.pinned.checked.prog.wantsStandIn t = false := by
  obtain rfl : f = 6 := Option.some.inj ((show Tryz.prog.funcNamed "almanac/almanackeep.ClockBack" = some 6 by kernel_rfl).symm.trans hf) |>.symm
  obtain rfl : fn = Tryz.f6 := (Option.some.inj (Tryz.func6.symm.trans hfn)).symm
  refine ⟨by kernel_rfl, fun j t ht => ?_⟩
  rw [Tryz.params6] at ht
  have hm := Array.mem_of_getElem? ht
  simp only [List.mem_toArray, List.mem_cons, List.not_mem_nil, or_false] at hm
  have h : t = 24 ∨ t = 33 := by first | omega | exact hm | exact hm.symm | (rcases hm with hm | hm <;> first | exact hm | exact hm.symm | simp [hm])
  rcases h with rfl | rfl
  · exact (show Tryz.prog.wantsStandIn 24 = false by kernel_rfl)
  · exact (show Tryz.prog.wantsStandIn 33 = false by kernel_rfl)
end Go.Proofs.YtafaacliphdndaaGreatDoor.clockBackP
namespace Go.Proofs.YtafaacliphdndaaGreatDoor
open Go
/-- THE CARD -/
theorem clockBack_card : Rows.ClockBackCardSaid :=
  Claim7.holds_tied_plain_at .later [] _ _ _ _ clockBackP.said (fun _ h => by cases h) (by kernel_rfl) (fun _ h => by cases h) clockBack_row_tie rfl ⟨rfl, rfl⟩ (by kernel_rfl) rfl clockBackP.plain (by kernel_rfl)
#print axioms clockBack_card
end Go.Proofs.YtafaacliphdndaaGreatDoor
