/- In one plain sentence: for every input the law SpanKeeps returns true, changes no argument and touches no old memory; package errors' variable errorType and package span's table of what follows of two ways are read as the program's text lays them. -/
import Derived.Test.YtnaggcadmfmibaaDoorSqN
import Derived.Test.YtnaggcadmfmibaaDoorLawFol
import Derived.SevenTiedAt
import Derived.Lib.SmallJoins
import Derived.Deep.Matrix
import Derived.Deep.SlicePairs
import Derived.ChangeStays
import Derived.ReadAgain
namespace Go.Proofs.YtnaggcadmfmibaaDoor.spanKeepsP
open Go.ChangeShapes Go.WideShapes Go.RowKit Go
set_option linter.unusedVariables false

theorem cellsspan : Tryd.prog.cellsOf 29 = 2 := by kernel_rfl
theorem net_of {H : Type} {enc : TypeId × Value → H} {W : World} {base : Nat} {held : Bool} {v : Value} {d : DataW H} {p : List MemPlace} (hv : ∃ a len cap, v = .slice a len cap) (h : DataW.Trod enc Tryd.prog W base (fun _ => true) held 22 v d p) :
    ∃ (ad : Option Addr) (n cap : Nat) (A : Nat → Option Addr) (L C : Nat → Nat) (g : Nat → Nat → Int), v = .slice ad n cap ∧ NetAt ad n A L C g W := by
  obtain ⟨f, hf⟩ := h
  obtain ⟨a0, l0, c0, rfl⟩ := hv
  rcases Go.Deep.open_int_rows Tryd.underlying22 Tryd.underlying78 Tryd.underlying47 (by kernel_rfl) (by kernel_rfl) hf with ⟨hc, _⟩ | ⟨a, len, cap, A, L, C, Z, hc, _, hl, _, _, hall⟩
  · obtain hc := (List.cons.inj hc).1
    exact ⟨none, 0, 0, fun _ => none, fun _ => 0, fun _ => 0, fun _ _ => 0, hc, ⟨fun k hk => absurd hk (Nat.not_lt_zero _), fun k hk => absurd hk (Nat.not_lt_zero _)⟩⟩
  · obtain hc := (List.cons.inj hc).1
    refine ⟨some a, len, cap, A, L, C, fun r c => (Z r).getD c 0, hc, ⟨fun r hr => ⟨a, rfl, (hall r (by omega)).1⟩, fun r hr c hcc => ?_⟩⟩
    obtain ⟨_, h1, _, _, _, h2, h3⟩ := hall r (by omega)
    cases hA : A r with
    | none => have := h2 hA; omega
    | some a' => exact ⟨a', rfl, (h3 a' hA).2 c (by omega)⟩
theorem kidsAll : Kids Tryd.prog (· < Tryd.prog.types.size) := kids_rows (by kernel_rfl) (by kernel_rfl)
theorem fullAll : ∀ t e, t < Tryd.prog.types.size → Tryd.prog.underlying t = some (.slice e) → 0 < Tryd.prog.cellsOf e := slices_full_of Tryd.prog (by kernel_rfl)
theorem stays_of {H : Type} {enc : TypeId × Value → H} {W W' : World} {t : TypeId} {v : Value} {d : DataW H} {p : List MemPlace} (hb : Below W.heap.size W W') (ht : decide (t < Tryd.prog.types.size) = true) (h : DataW.Trod enc Tryd.prog W 0 (fun _ => true) true t v d p) :
    DataW.Trod enc Tryd.prog W' 0 (fun b => decide (b < W.heap.size)) true t v d p := by
  obtain ⟨n, hn⟩ := h
  exact ⟨n, DataW.trod_stays kidsAll (fun ht hu => fullAll _ _ ht hu) (fun h => by cases h) (of_decide_eq_true ht) hn (fun q hq => hb.same (DataW.trod_lt n _ _ _ hn q hq)) (fun q hq => decide_eq_true (DataW.trod_lt n _ _ _ hn q hq))⟩
theorem spans_of {H : Type} {enc : TypeId × Value → H} {W : World} {base : Nat} {held : Bool} {v : Value} {d : DataW H} {p : List MemPlace} (hv : ∃ a len cap, v = .slice a len cap) (h : DataW.Trod enc Tryd.prog W base (fun _ => true) held 23 v d p) :
    ∃ (al : Option Addr) (m capl : Nat) (s t : Nat → Int), v = .slice al m capl ∧ Sp al m s t W := by
  obtain ⟨f, hf⟩ := h
  obtain ⟨a0, l0, c0, rfl⟩ := hv
  rcases Go.Deep.open_slice_pairs Tryd.underlying23 Tryd.underlying29 cellsspan rfl rfl (by kernel_rfl) (by kernel_rfl) hf with ⟨hc, _⟩ | ⟨a, len, cap, m, n, V0, V1, D0, D1, P0, P1, hc, _, hl, _, hm, _, hall⟩
  · obtain hc := (List.cons.inj hc).1
    exact ⟨none, 0, 0, fun _ => 0, fun _ => 0, hc, fun k hk => absurd hk (Nat.not_lt_zero _)⟩
  · obtain hc := (List.cons.inj hc).1
    simp only [if_true] at hm
    subst hm
    have hint : ∀ k, ∃ x : Int × Int, k < m → V0 k = .int .i64 x.1 ∧ V1 k = .int .i64 x.2 := fun k => by
      by_cases hk : k < m
      · obtain ⟨x, e1, _⟩ := DataW.trod_int Tryd.underlying3 (hall k hk).2.2.1
        obtain ⟨y, e2, _⟩ := DataW.trod_int Tryd.underlying3 (hall k hk).2.2.2
        simp only [List.cons.injEq, and_true] at e1 e2
        exact ⟨(x, y), fun _ => ⟨e1, e2⟩⟩
      · exact ⟨(0, 0), fun h => absurd h hk⟩
    refine ⟨some a, len, m, fun k => (Classical.choose (hint k)).1, fun k => (Classical.choose (hint k)).2, hc, fun k hk => ?_⟩
    have hk' : k < m := by omega
    obtain ⟨e1, e2⟩ := Classical.choose_spec (hint k) hk'
    exact ⟨a, rfl, by rw [(hall k hk').1, e1], by rw [(hall k hk').2.1, e2]⟩

set_option maxRecDepth 100000 in
theorem lifted (os : Os) (started : os.Started) (H : Type) (enc : TypeId × Value → H) :
    ReturnsInHanded {} Tryd.checked os 4 .any (fun w args => (Rows.spanKeepsSpec.pre enc Tryd.prog Tryd.f4 [] false w args ∧ laidMetH Tryd.prog lstF w) ∧ sizedMet enc Tryd.prog Tryd.f4 (OpenSpec.ofChange Rows.spanKeepsSpec) false w args)
      (Rows.spanKeepsSpec.post enc Tryd.prog Tryd.f4 false true false false) := by
  refine returnsInHanded_of_change_and (C := Tryd.checked) (X := fun w _ => laidMetH Tryd.prog lstF w) (fun _ _ _ hh h => h.of_heap hh) own started (by kernel_rfl) Tryd.func4
    (ChangeSpec.witness_at (enc := enc) (C := Tryd.checked) (os := os) (X := fun w _ => laidMetH Tryd.prog lstF w) false (laidWorldF os) #[.slice none 0 0, .slice none 0 0] 8 rfl (by kernel_rfl) (by kernel_rfl) (by kernel_rfl) (by kernel_rfl) (by kernel_rfl) (laidWorldF_met os _)) ?_
  intro W base args ds gs before hval0 hW _ _ hL _
  have hval : ∀ (j : Nat) t v, Tryd.f4.params[j]? = some t → args[j]? = some v → Value.okWide Tryd.prog W .any base t v := hval0
  have hW' := hW
  obtain ⟨p, q, hA0, hV0, rfl, hfz, hnd⟩ := hW
  have hA : DataW.TrodAll enc Tryd.prog W 0 (fun _ => true) true Tryd.f4.params.toList args.toList ds p := hA0
  have hV : DataW.TrodVars enc Tryd.prog W (fun _ => true) [] gs q := hV0
  rw [Tryd.params4] at hA hval
  obtain ⟨v0, vs0, d0, ds0, p0, q0, hargs, rfl, rfl, h0, r0⟩ := trodAll_cons hA
  obtain ⟨v1, vs1, d1, ds1, p1, q1, rfl, rfl, rfl, h1, r1⟩ := trodAll_cons r0
  obtain ⟨rfl, rfl, rfl⟩ := trodAll_nil r1
  obtain rfl : args = #[v0, v1] := by cases args; simp_all
  have hnet := net_of (okWide_slice Tryd.underlying22 (hval 0 22 v0 rfl rfl)) h0
  obtain ⟨ad, n, cap, A, L, C, g, rfl, hN⟩ := hnet
  have hsp := spans_of (okWide_slice Tryd.underlying23 (hval 1 23 v1 rfl rfl)) h1
  obtain ⟨al, m, capl, s, t, rfl, hS⟩ := hsp
  have hg := ft_of_laid hL
  obtain ⟨rfl, rfl⟩ : gs = [] ∧ q = [] := by
    cases gs with
    | nil => exact ⟨rfl, hV⟩
    | cons g r => exact absurd hV (by intro h; cases h)
  have e1 : Rows.spanKeepsSpec.fn H ([d0, d1] ++ []) = { results := [.lit (.bool true)], args := [d0, d1] } := by simp [Rows.spanKeepsSpec]
  refine (skeeps_walk ad al n m cap capl A L C g s t W hg hN hS).mono fun e W' ⟨he, hb⟩ => ?_
  subst he
  refine ⟨_, rfl, _, _, _, [], p0 ++ (p1 ++ []), [], hW', ?_, ?_, ?_, hb.frame _, ?_⟩
  · rw [e1]; exact trodAll_mk1 (shut_bool Tryd.underlying4 true)
  · rw [e1]; exact trodAll_cons_mk (stays_of hb (by kernel_rfl) h0) (trodAll_cons_mk (stays_of hb (by kernel_rfl) h1) trodAll_mk0)
  · rw [e1]; rfl
  · intro h; cases h

theorem said : Rows.SpanKeepsSaid :=
  OpenClaim.holds_of_wide 4 Tryd.f4 rfl rfl rfl rfl rfl rfl rfl ⟨rfl, rfl, rfl, rfl, rfl⟩ rfl rfl rfl rfl rfl (by kernel_rfl) Tryd.func4 (by kernel_rfl)
    (of_decide_eq_true (by kernel_rfl)) (by unfold Func.isWrapper; rw [if_neg (of_decide_eq_false (by kernel_rfl))]; exact ⟨rfl, rfl⟩)
    (fun os started H enc _ => lifted os started H enc)

theorem plain (f : FuncId) (fn : Func) (hf : Tryd.pinned.checked.prog.funcNamed "almanac/almanackeep.SpanKeeps" = some f) (hfn : Tryd.pinned.checked.prog.funcs[f]? = some fn) :
    true = Tryd.pinned.checked.prog.looks [] ∧ ∀ (j : Nat) t, fn.params[j]? = some t → Tryd.pinned.checked.prog.wantsStandIn t = false := by
  obtain rfl : f = 4 := Option.some.inj ((show Tryd.prog.funcNamed "almanac/almanackeep.SpanKeeps" = some 4 by kernel_rfl).symm.trans hf) |>.symm
  obtain rfl : fn = Tryd.f4 := (Option.some.inj (Tryd.func4.symm.trans hfn)).symm
  refine ⟨by kernel_rfl, fun j t ht => ?_⟩
  rw [Tryd.params4] at ht
  have hm := Array.mem_of_getElem? ht
  simp only [List.mem_toArray, List.mem_cons, List.not_mem_nil, or_false] at hm
  have h : t = 22 ∨ t = 23 := by first | omega | exact hm | exact hm.symm | (rcases hm with hm | hm <;> first | exact hm | exact hm.symm | simp [hm])
  rcases h with rfl | rfl
  · exact (show Tryd.prog.wantsStandIn 22 = false by kernel_rfl)
  · exact (show Tryd.prog.wantsStandIn 23 = false by kernel_rfl)
end Go.Proofs.YtnaggcadmfmibaaDoor.spanKeepsP
namespace Go.Proofs.YtnaggcadmfmibaaDoor
open Go
/-- THE CARD -/
theorem spanKeeps_card : Rows.SpanKeepsCardSaid :=
  Claim7.holds_tied_plain_at .later [] _ _ _ _ spanKeepsP.said (fun _ h => by cases h) (by kernel_rfl) (fun _ h => by cases h) spanKeeps_row_tie rfl ⟨rfl, rfl⟩ (by kernel_rfl) rfl spanKeepsP.plain (by kernel_rfl)
#print axioms spanKeeps_card
end Go.Proofs.YtnaggcadmfmibaaDoor
