/- In one plain sentence: for every input the law MomentsRoom returns true, changes no argument and touches no old memory; package errors' variable errorType is read as the program's text lays it. -/
import Derived.Test.YtmjplljjcbdcfaaDoorMomM
import Derived.Test.YtmjplljjcbdcfaaDoorLawBase
import Derived.SevenTiedAt
import Derived.Lib.SmallJoins
import Derived.Deep.Matrix
import Derived.Deep.SlicePairs
import Derived.ChangeStays
import Derived.ReadAgain
namespace Go.Proofs.YtmjplljjcbdcfaaDoor.momentsRoomP
open Go.ChangeShapes Go.WideShapes Go.RowKit Go
set_option linter.unusedVariables false

theorem cellsspan : Tryd.prog.cellsOf 55 = 2 := by kernel_rfl
theorem spans_of {H : Type} {enc : TypeId × Value → H} {W : World} {base : Nat} {held : Bool} {v : Value} {d : DataW H} {p : List MemPlace} (hv : ∃ a len cap, v = .slice a len cap) (h : DataW.Trod enc Tryd.prog W base (fun _ => true) held 22 v d p) :
    ∃ zs : List (Int × Int), SpsW W v zs := by
  obtain ⟨f, hf⟩ := h
  obtain ⟨a0, l0, c0, rfl⟩ := hv
  rcases Go.Deep.open_slice_pairs Tryd.underlying22 Tryd.underlying55 cellsspan rfl rfl (by kernel_rfl) (by kernel_rfl) hf with ⟨hc, _⟩ | ⟨a, len, cap, m, n, V0, V1, D0, D1, P0, P1, hc, _, hl, _, hm, _, hall⟩
  · obtain hc := (List.cons.inj hc).1
    exact ⟨[], none, 0, hc, fun k hk => absurd hk (Nat.not_lt_zero _)⟩
  · obtain hc := (List.cons.inj hc).1
    simp only [if_true] at hm
    subst hm
    have hint : ∀ k, ∃ x : Int × Int, k < m → V0 k = .int .i64 x.1 ∧ V1 k = .int .i64 x.2 := fun k => by
      by_cases hk : k < m
      · obtain ⟨x, e1, _⟩ := DataW.trod_int Tryd.underlying3 (hall k hk).2.2.1
        obtain ⟨y, e2, _⟩ := DataW.trod_int Tryd.underlying3 (hall k hk).2.2.2
        simp only [List.cons.injEq, and_true] at e1 e2
        exact ⟨(x, y), fun _ => ⟨e1, e2⟩⟩
      · exact ⟨(0, 0), fun h => absurd h hk⟩
    refine ⟨(List.range len).map (fun k => Classical.choose (hint k)), some a, m, by rw [hc]; simp, fun k hk => ?_⟩
    have hk0 : k < len := by simpa using hk
    have hk' : k < m := by omega
    obtain ⟨e1, e2⟩ := Classical.choose_spec (hint k) hk'
    have hget : ((List.range len).map (fun k => Classical.choose (hint k))).getD k (0, 0) = Classical.choose (hint k) := by
      rw [List.getD_eq_getElem?_getD, List.getElem?_map, List.getElem?_range hk0]; rfl
    rw [hget]
    exact ⟨a, rfl, (hall k hk').1.trans (congrArg some e1), (hall k hk').2.1.trans (congrArg some e2)⟩
theorem kidsAll : Kids Tryd.prog (· < Tryd.prog.types.size) := kids_rows (by kernel_rfl) (by kernel_rfl)
theorem fullAll : ∀ t e, t < Tryd.prog.types.size → Tryd.prog.underlying t = some (.slice e) → 0 < Tryd.prog.cellsOf e := slices_full_of Tryd.prog (by kernel_rfl)
theorem stays_of {H : Type} {enc : TypeId × Value → H} {W W' : World} {t : TypeId} {v : Value} {d : DataW H} {p : List MemPlace} (hb : Below W.heap.size W W') (ht : decide (t < Tryd.prog.types.size) = true) (h : DataW.Trod enc Tryd.prog W 0 (fun _ => true) true t v d p) :
    DataW.Trod enc Tryd.prog W' 0 (fun b => decide (b < W.heap.size)) true t v d p := by
  obtain ⟨n, hn⟩ := h
  exact ⟨n, DataW.trod_stays kidsAll (fun ht hu => fullAll _ _ ht hu) (fun h => by cases h) (of_decide_eq_true ht) hn (fun q hq => hb.same (DataW.trod_lt n _ _ _ hn q hq)) (fun q hq => decide_eq_true (DataW.trod_lt n _ _ _ hn q hq))⟩
set_option maxRecDepth 100000 in
theorem lifted (os : Os) (started : os.Started) (H : Type) (enc : TypeId × Value → H) :
    ReturnsInHanded {} Tryd.checked os 4 .any (fun w args => (Rows.momentsRoomSpec.pre enc Tryd.prog Tryd.f4 [] false w args ∧ laidMetH Tryd.prog lst w) ∧ sizedMet enc Tryd.prog Tryd.f4 (OpenSpec.ofChange Rows.momentsRoomSpec) false w args)
      (Rows.momentsRoomSpec.post enc Tryd.prog Tryd.f4 false true false false) := by
  refine returnsInHanded_of_change_and (C := Tryd.checked) (X := fun w _ => laidMetH Tryd.prog lst w) (fun _ _ _ hh h => h.of_heap hh) own started (by kernel_rfl) Tryd.func4
    (ChangeSpec.witness_at (enc := enc) (C := Tryd.checked) (os := os) (X := fun w _ => laidMetH Tryd.prog lst w) false (laidWorld os) #[.slice none 0 0, .int .i64 0, .int .i64 0] 8 rfl (by kernel_rfl) (by kernel_rfl) (by kernel_rfl) (by kernel_rfl) (by kernel_rfl) (laidWorld_met os _)) ?_
  intro W base args ds gs before hval0 hW _ _ hL _
  have hval : ∀ (j : Nat) t v, Tryd.f4.params[j]? = some t → args[j]? = some v → Value.okWide Tryd.prog W .any base t v := hval0
  have hW' := hW
  obtain ⟨p, q, hA0, hV0, rfl, hfz, hnd⟩ := hW
  have hA : DataW.TrodAll enc Tryd.prog W 0 (fun _ => true) true Tryd.f4.params.toList args.toList ds p := hA0
  have hV : DataW.TrodVars enc Tryd.prog W (fun _ => true) [] gs q := hV0
  rw [Tryd.params4] at hA hval
  obtain ⟨v0, vs0, d0, ds0, p0, q0, hargs, rfl, rfl, h0, r0⟩ := trodAll_cons hA
  obtain ⟨v1, vs1, d1, ds1, p1, q1, rfl, rfl, rfl, h1, r1⟩ := trodAll_cons r0
  obtain ⟨v2, vs2, d2, ds2, p2, q2, rfl, rfl, rfl, h2, r2⟩ := trodAll_cons r1
  obtain ⟨rfl, rfl, rfl⟩ := trodAll_nil r2
  obtain rfl : args = #[v0, v1, v2] := by cases args; simp_all
  obtain ⟨a1, rfl, rfl, rfl, w1⟩ := open_int Tryd.underlying3 (hval 1 3 v1 rfl rfl) h1
  obtain ⟨a2, rfl, rfl, rfl, w2⟩ := open_int Tryd.underlying3 (hval 2 3 v2 rfl rfl) h2
  obtain ⟨zs, hN⟩ := spans_of (okWide_slice Tryd.underlying22 (hval 0 22 v0 rfl rfl)) h0
  have hg := handle_of_laid hL
  obtain ⟨rfl, rfl⟩ : gs = [] ∧ q = [] := by
    cases gs with
    | nil => exact ⟨rfl, hV⟩
    | cons g r => exact absurd hV (by intro h; cases h)
  have e1 : Rows.momentsRoomSpec.fn H ([d0, .lit (.int .i64 a1), .lit (.int .i64 a2)] ++ []) = { results := [.lit (.bool true)], args := [d0, .lit (.int .i64 a1), .lit (.int .i64 a2)] } := by simp [Rows.momentsRoomSpec]
  refine (mroom_walk v0 zs a1 a2 W hg hN).mono fun e W' ⟨he, hb⟩ => ?_
  subst he
  refine ⟨_, rfl, _, _, _, [], p0 ++ [], [], hW', ?_, ?_, ?_, hb.frame _, ?_⟩
  · rw [e1]; exact trodAll_mk1 (shut_bool Tryd.underlying4 true)
  · rw [e1]; exact trodAll_cons_mk (stays_of hb (by kernel_rfl) h0) (trodAll_cons_mk (shut_int Tryd.underlying3 w1) (trodAll_cons_mk (shut_int Tryd.underlying3 w2) trodAll_mk0))
  · rw [e1]; rfl
  · intro h; cases h

theorem said : Rows.MomentsRoomSaid :=
  OpenClaim.holds_of_wide 4 Tryd.f4 rfl rfl rfl rfl rfl rfl rfl ⟨rfl, rfl, rfl, rfl, rfl⟩ rfl rfl rfl rfl rfl (by kernel_rfl) Tryd.func4 (by kernel_rfl)
    (of_decide_eq_true (by kernel_rfl)) (by unfold Func.isWrapper; rw [if_neg (of_decide_eq_false (by kernel_rfl))]; exact ⟨rfl, rfl⟩)
    (fun os started H enc _ => lifted os started H enc)

theorem plain (f : FuncId) (fn : Func) (hf : Tryd.pinned.checked.prog.funcNamed "almanac/almanackeep.MomentsRoom" = some f) (hfn : Tryd.pinned.checked.prog.funcs[f]? = some fn) :
    true = Tryd.pinned.checked.prog.looks [] ∧ ∀ (j : Nat) t, fn.params[j]? = some t → Tryd.pinned.checked.prog.wantsStandIn t = false := by
  obtain rfl : f = 4 := Option.some.inj ((show Tryd.prog.funcNamed "almanac/almanackeep.MomentsRoom" = some 4 by kernel_rfl).symm.trans hf) |>.symm
  obtain rfl : fn = Tryd.f4 := (Option.some.inj (Tryd.func4.symm.trans hfn)).symm
  refine ⟨by kernel_rfl, fun j t ht => ?_⟩
  rw [Tryd.params4] at ht
  have hm := Array.mem_of_getElem? ht
  simp only [List.mem_toArray, List.mem_cons, List.not_mem_nil, or_false] at hm
  have h : t = 22 ∨ t = 3 := by first | omega | exact hm | (rcases hm with hm | hm | hm <;> simp [hm])
  rcases h with rfl | rfl
  · exact (show Tryd.prog.wantsStandIn 22 = false by kernel_rfl)
  · exact (show Tryd.prog.wantsStandIn 3 = false by kernel_rfl)
end Go.Proofs.YtmjplljjcbdcfaaDoor.momentsRoomP
namespace Go.Proofs.YtmjplljjcbdcfaaDoor
open Go
/-- THE CARD -/
theorem momentsRoom_card : Rows.MomentsRoomCardSaid :=
  Claim7.holds_tied_plain_at .later [] _ _ _ _ momentsRoomP.said (fun _ h => by cases h) (by kernel_rfl) (fun _ h => by cases h) momentsRoom_row_tie rfl ⟨rfl, rfl⟩ (by kernel_rfl) rfl momentsRoomP.plain (by kernel_rfl)
#print axioms momentsRoom_card
end Go.Proofs.YtmjplljjcbdcfaaDoor
