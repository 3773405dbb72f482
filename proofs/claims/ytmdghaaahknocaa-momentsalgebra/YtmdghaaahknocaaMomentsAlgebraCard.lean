/- In one plain sentence: for every input the law MomentsAlgebra returns true, changes no argument and touches no old memory. -/
import Derived.Test.YtmdghaaahknocaaMomLaw
import Derived.Test.YtmdghaaahknocaaRows
import Derived.ProofKit
import Derived.OpenShut
import Derived.ChangeSame
import Derived.ChangeVars
import Derived.ChangeSlices
import Derived.JoinedOf
import Derived.RowKit
import Derived.RowKitTokens
import Derived.LaidLaws
import Derived.LaidHandle
import Derived.Stop.Joined
import Derived.SevenTiedAt
import Derived.Lib.SmallJoins
import Derived.Deep.Matrix
import Derived.Deep.SlicePairs
import Derived.ChangeStays
import Derived.ReadAgain
namespace Go.Proofs.Ytmdghaaahknocaa.momentsAlgebraP
open Go.ChangeShapes Go.WideShapes Go.RowKit Go
set_option linter.unusedVariables false

theorem own : ownKnob Try.prog.godebug = none := by kernel_rfl
theorem cellsspan : Try.prog.cellsOf 32 = 2 := by kernel_rfl
theorem spans_of {H : Type} {enc : TypeId × Value → H} {W : World} {base : Nat} {held : Bool} {v : Value} {d : DataW H} {p : List MemPlace} (hv : ∃ a len cap, v = .slice a len cap) (h : DataW.Trod enc Try.prog W base (fun _ => true) held 22 v d p) :
    ∃ zs : List (Int × Int), SpsW W v zs := by
  obtain ⟨f, hf⟩ := h
  obtain ⟨a0, l0, c0, rfl⟩ := hv
  rcases Go.Deep.open_slice_pairs Try.underlying22 Try.underlying32 cellsspan rfl rfl (by kernel_rfl) (by kernel_rfl) hf with ⟨hc, _⟩ | ⟨a, len, cap, m, n, V0, V1, D0, D1, P0, P1, hc, _, hl, _, hm, _, hall⟩
  · obtain hc := (List.cons.inj hc).1
    exact ⟨[], none, 0, hc, fun k hk => absurd hk (Nat.not_lt_zero _)⟩
  · obtain hc := (List.cons.inj hc).1
    simp only [if_true] at hm
    subst hm
    have hint : ∀ k, ∃ x : Int × Int, k < m → V0 k = .int .i64 x.1 ∧ V1 k = .int .i64 x.2 := fun k => by
      by_cases hk : k < m
      · obtain ⟨x, e1, _⟩ := DataW.trod_int Try.underlying3 (hall k hk).2.2.1
        obtain ⟨y, e2, _⟩ := DataW.trod_int Try.underlying3 (hall k hk).2.2.2
        simp only [List.cons.injEq, and_true] at e1 e2
        exact ⟨(x, y), fun _ => ⟨e1, e2⟩⟩
      · exact ⟨(0, 0), fun h => absurd h hk⟩
    refine ⟨(List.range len).map (fun k => Classical.choose (hint k)), some a, m, by rw [hc]; simp, fun k hk => ?_⟩
    have hk0 : k < len := by simpa using hk
    have hk' : k < m := by omega
    obtain ⟨e1, e2⟩ := Classical.choose_spec (hint k) hk'
    have hget : ((List.range len).map (fun k => Classical.choose (hint k))).getD k (0, 0) = Classical.choose (hint k) := by
      rw [List.getD_eq_getElem?_getD, List.getElem?_map, List.getElem?_range hk0]; rfl
    rw [hget]
    exact ⟨a, rfl, (hall k hk').1.trans (congrArg some e1), (hall k hk').2.1.trans (congrArg some e2)⟩
theorem ints_of {H : Type} {enc : TypeId × Value → H} {W : World} {base : Nat} {held : Bool} {v : Value} {d : DataW H} {p : List MemPlace} (hv : ∃ a len cap, v = .slice a len cap) (h : DataW.Trod enc Try.prog W base (fun _ => true) held 23 v d p) :
    ∃ ts : List Int, IntsW W v ts := by
  obtain ⟨f, hf⟩ := h
  obtain ⟨a0, l0, c0, rfl⟩ := hv
  rcases open_ints Try.underlying23 Try.underlying3 (by kernel_rfl) hf with ⟨hc, _⟩ | ⟨a, len, cap, zs, hc, _, hl, _, hz, _, hx, _⟩
  · obtain hc := (List.cons.inj hc).1
    exact ⟨[], none, 0, hc, fun k hk => absurd hk (Nat.not_lt_zero _)⟩
  · obtain hc := (List.cons.inj hc).1
    simp only [if_true] at hz
    refine ⟨zs.take len, some a, cap, by rw [hc, List.length_take]; congr 1; omega, fun j hj => ⟨a, rfl, ?_⟩⟩
    rw [List.length_take] at hj
    rw [hx j (by omega), List.getD_eq_getElem?_getD, List.getD_eq_getElem?_getD, List.getElem?_take_of_lt (by omega)]
theorem kidsAll : Kids Try.prog (· < Try.prog.types.size) := kids_rows (by kernel_rfl) (by kernel_rfl)
theorem fullAll : ∀ t e, t < Try.prog.types.size → Try.prog.underlying t = some (.slice e) → 0 < Try.prog.cellsOf e := slices_full_of Try.prog (by kernel_rfl)
theorem stays_of {H : Type} {enc : TypeId × Value → H} {W W' : World} {t : TypeId} {v : Value} {d : DataW H} {p : List MemPlace} (hb : Below W.heap.size W W') (ht : decide (t < Try.prog.types.size) = true) (h : DataW.Trod enc Try.prog W 0 (fun _ => true) true t v d p) :
    DataW.Trod enc Try.prog W' 0 (fun b => decide (b < W.heap.size)) true t v d p := by
  obtain ⟨n, hn⟩ := h
  exact ⟨n, DataW.trod_stays kidsAll (fun ht hu => fullAll _ _ ht hu) (fun h => by cases h) (of_decide_eq_true ht) hn (fun q hq => hb.same (DataW.trod_lt n _ _ _ hn q hq)) (fun q hq => decide_eq_true (DataW.trod_lt n _ _ _ hn q hq))⟩
set_option maxRecDepth 100000 in
theorem lifted (os : Os) (started : os.Started) (H : Type) (enc : TypeId × Value → H) :
    ReturnsInHanded {} Try.checked os 3 .any (Rows.momentsAlgebraSpec.pre6 enc Try.prog Try.f3 [] false)
      (Rows.momentsAlgebraSpec.post enc Try.prog Try.f3 false true false false) := by
  refine returnsInHanded_of_change (C := Try.checked) own started (by kernel_rfl) Try.func3
    (ChangeSpec.witness6 (enc := enc) (C := Try.checked) (os := os) false ⟨#[], #[.slice none 0 0, .slice none 0 0, .slice none 0 0, .slice none 0 0], []⟩ 8 (by kernel_rfl) (by kernel_rfl) (by kernel_rfl) (by kernel_rfl)) ?_
  intro W base args ds gs before hval0 hW _ _
  have hval : ∀ (j : Nat) t v, Try.f3.params[j]? = some t → args[j]? = some v → Value.okWide Try.prog W .any base t v := hval0
  have hW' := hW
  obtain ⟨p, q, hA0, hV0, rfl, hfz, hnd⟩ := hW
  have hA : DataW.TrodAll enc Try.prog W 0 (fun _ => true) true Try.f3.params.toList args.toList ds p := hA0
  have hV : DataW.TrodVars enc Try.prog W (fun _ => true) [] gs q := hV0
  rw [Try.params3] at hA hval
  obtain ⟨v0, vs0, d0, ds0, p0, q0, hargs, rfl, rfl, h0, r0⟩ := trodAll_cons hA
  obtain ⟨v1, vs1, d1, ds1, p1, q1, rfl, rfl, rfl, h1, r1⟩ := trodAll_cons r0
  obtain ⟨v2, vs2, d2, ds2, p2, q2, rfl, rfl, rfl, h2, r2⟩ := trodAll_cons r1
  obtain ⟨v3, vs3, d3, ds3, p3, q3, rfl, rfl, rfl, h3, r3⟩ := trodAll_cons r2
  obtain ⟨rfl, rfl, rfl⟩ := trodAll_nil r3
  obtain rfl : args = #[v0, v1, v2, v3] := by cases args; simp_all
  obtain ⟨z0, k0⟩ := spans_of (okWide_slice Try.underlying22 (hval 0 22 v0 rfl rfl)) h0
  obtain ⟨z1, k1⟩ := spans_of (okWide_slice Try.underlying22 (hval 1 22 v1 rfl rfl)) h1
  obtain ⟨z2, k2⟩ := spans_of (okWide_slice Try.underlying22 (hval 2 22 v2 rfl rfl)) h2
  obtain ⟨ts, k3⟩ := ints_of (okWide_slice Try.underlying23 (hval 3 23 v3 rfl rfl)) h3
  obtain ⟨rfl, rfl⟩ : gs = [] ∧ q = [] := by
    cases gs with
    | nil => exact ⟨rfl, hV⟩
    | cons g r => exact absurd hV (by intro h; cases h)
  have e1 : Rows.momentsAlgebraSpec.fn H ([d0, d1, d2, d3] ++ []) = { results := [.lit (.bool true)], args := [d0, d1, d2, d3] } := by simp [Rows.momentsAlgebraSpec]
  refine (malg_walk v0 v1 v2 v3 z0 z1 z2 ts W k0 k1 k2 k3).mono fun e W' ⟨he, hb⟩ => ?_
  subst he
  refine ⟨_, rfl, _, _, _, [], p0 ++ (p1 ++ (p2 ++ (p3 ++ []))), [], hW', ?_, ?_, ?_, hb.frame _, ?_⟩
  · rw [e1]; exact trodAll_mk1 (shut_bool Try.underlying4 true)
  · rw [e1]; exact trodAll_cons_mk (stays_of hb (by kernel_rfl) h0) (trodAll_cons_mk (stays_of hb (by kernel_rfl) h1) (trodAll_cons_mk (stays_of hb (by kernel_rfl) h2) (trodAll_cons_mk (stays_of hb (by kernel_rfl) h3) trodAll_mk0)))
  · rw [e1]; rfl
  · intro h; cases h

theorem said : Rows.MomentsAlgebraSaid :=
  OpenClaim.holds_of_wide 3 Try.f3 rfl rfl rfl rfl rfl rfl rfl ⟨rfl, rfl, rfl, rfl, rfl⟩ rfl rfl rfl rfl rfl (by kernel_rfl) Try.func3 (by kernel_rfl)
    (of_decide_eq_true (by kernel_rfl)) (by unfold Func.isWrapper; rw [if_neg (of_decide_eq_false (by kernel_rfl))]; exact ⟨rfl, rfl⟩)
    (fun os started H enc _ => lifted os started H enc)

end Go.Proofs.Ytmdghaaahknocaa.momentsAlgebraP
namespace Go.Proofs.Ytmdghaaahknocaa
open Go
/-- THE STATEMENT -/
theorem momentsAlgebra_card : Rows.MomentsAlgebraSaid := momentsAlgebraP.said
#print axioms momentsAlgebra_card
end Go.Proofs.Ytmdghaaahknocaa
