/- In one plain sentence: for every input the law BusyBest returns true, changes no argument and touches no old memory; package errors' variable errorType is read as the program's text lays it. -/
import Derived.Test.YtabgoicholknoaaDoorBusQ
import Derived.Test.YtabgoicholknoaaDoorLawBase
import Derived.SevenTiedAt
import Derived.Lib.SmallJoins
import Derived.Deep.SlicePairs
import Derived.ChangeStays
import Derived.ReadAgain
namespace Go.Proofs.YtabgoicholknoaaDoor.busyBestP
open Go.ChangeShapes Go.WideShapes Go.RowKit Go
set_option linter.unusedVariables false

theorem cellsInt : Tryd.prog.cellsOf 3 = 1 := by kernel_rfl
theorem cellsInts : Tryd.prog.cellsOf 23 = 1 := by kernel_rfl
theorem cellsInst : Tryd.prog.cellsOf 22 = 1 := by kernel_rfl
theorem cellsspan : Tryd.prog.cellsOf 42 = 2 := by kernel_rfl
theorem cellsspans : Tryd.prog.cellsOf 28 = 1 := by kernel_rfl
theorem cellsWant : Tryd.prog.cellsOf 25 = 7 := by kernel_rfl
theorem bytesInt : Tryd.prog.bytesOf 3 = 8 := by kernel_rfl
theorem array7 {α : Type} {cs : Array α} (h : cs.size = 7) : ∃ c0 c1 c2 c3 c4 c5 c6, cs = #[c0, c1, c2, c3, c4, c5, c6] := by
  obtain ⟨l⟩ := cs
  match l, h with
  | [c0, c1, c2, c3, c4, c5, c6], _ => exact ⟨c0, c1, c2, c3, c4, c5, c6, rfl⟩
def elems {H : Type} : DataW H → Nat
  | .slice e _ => e.length
  | _ => 0
/-- where something lies, the address has no part -/
theorem at_none {W : World} {a : Addr} {k : Nat} {v0 v : Value} (h0 : W.cell? (a.add 0) = some v0) (h : W.cell? (a.add k) = some v) : a = ⟨a.block, a.off, none⟩ ∧ W.cell? ⟨a.block, a.off + k, none⟩ = some v := by
  obtain ⟨b, o, p⟩ := a
  cases p with
  | none => exact ⟨rfl, by rw [Addr.add_lit] at h; exact h⟩
  | some p =>
    exfalso
    revert h0
    simp only [Addr.add, World.cell?]
    intro h0
    split at h0 <;> simp_all
theorem bound_of {H : Type} {y : DataW H} {t e : TypeId} {b : Nat} (ht : Tryd.prog.underlying t = some (.slice e)) (hb : Tryd.prog.bytesOf e = b) (b0 : 0 < b) (h : (y.weights Tryd.prog t).all (· ≤ reachBytes) = true) : elems y ≤ 1125899906842624 := by
  cases y with
  | slice el sp =>
    unfold DataW.weights at h
    rw [ht] at h
    simp only [List.all_cons, Bool.and_eq_true, decide_eq_true_eq, hb] at h
    have h1 := h.1
    unfold reachBytes at h1
    show el.length ≤ _
    have h2 : el.length + sp.length ≤ (el.length + sp.length) * b := Nat.le_mul_of_pos_right _ b0
    omega
  | _ => exact Nat.zero_le _
theorem kidsAll : Kids Tryd.prog (· < Tryd.prog.types.size) := kids_rows (by kernel_rfl) (by kernel_rfl)
theorem fullAll : ∀ t e, t < Tryd.prog.types.size → Tryd.prog.underlying t = some (.slice e) → 0 < Tryd.prog.cellsOf e := slices_full_of Tryd.prog (by kernel_rfl)
theorem stays_of {H : Type} {enc : TypeId × Value → H} {W W' : World} {t : TypeId} {v : Value} {d : DataW H} {p : List MemPlace} (hb : Below W.heap.size W W') (ht : decide (t < Tryd.prog.types.size) = true) (h : DataW.Trod enc Tryd.prog W 0 (fun _ => true) true t v d p) :
    DataW.Trod enc Tryd.prog W' 0 (fun b => decide (b < W.heap.size)) true t v d p := by
  obtain ⟨n, hn⟩ := h
  exact ⟨n, DataW.trod_stays kidsAll (fun ht hu => fullAll _ _ ht hu) (fun h => by cases h) (of_decide_eq_true ht) hn (fun q hq => hb.same (DataW.trod_lt n _ _ _ hn q hq)) (fun q hq => decide_eq_true (DataW.trod_lt n _ _ _ hn q hq))⟩
set_option maxRecDepth 100000 in
theorem ints_of {H : Type} {enc : TypeId × Value → H} {W : World} {base n : Nat} {sp : Nat → Bool} {held : Bool} {v : Value} {y : DataW H × List MemPlace} (h : DataW.trod enc Tryd.prog W base sp held n 23 [v] = some y) :
    ∃ (A : Option Addr) (c : Nat) (l : List Int), v = .slice A l.length c ∧ (∀ j, j < l.length → ∃ g o, A = some ⟨g, o, none⟩ ∧ W.cell? ⟨g, o + j, none⟩ = some (.int .i64 (l.getD j 0))) ∧ FormS v ∧ elems y.1 = l.length ∧ ∀ x ∈ l, (Lit.int .i64 x).wf = true := by
  rcases open_ints Tryd.underlying23 Tryd.underlying3 cellsInt h with ⟨hc, hx⟩ | ⟨a, len, cap, zs, hc, _, hl, _, hzl, hx, hcell, hwf⟩
  · obtain hc := (List.cons.inj hc).1
    exact ⟨none, 0, [], hc, fun k hk => absurd hk (Nat.not_lt_zero _), .inl hc, by rw [hx]; rfl, fun x hx => absurd hx (by simp)⟩
  · obtain hc := (List.cons.inj hc).1
    have hz : len ≤ zs.length := by rw [hzl]; split <;> omega
    have hlen : (zs.take len).length = len := by rw [List.length_take]; omega
    refine ⟨some a, cap, zs.take len, by rw [hlen]; exact hc, fun k hk => ?_, .inr ⟨a, len, cap, hc⟩, ?_, fun x hx => hwf x (List.mem_of_mem_take hx)⟩
    · rw [hlen] at hk
      obtain ⟨e1, e2⟩ := at_none (hcell 0 (by omega)) (hcell k (by omega))
      refine ⟨a.block, a.off, congrArg some e1, ?_⟩
      rw [e2, List.getD_eq_getElem?_getD, List.getD_eq_getElem?_getD, List.getElem?_take, if_pos hk]
    · rw [hx]
      show (lits .i64 (zs.take len)).length = _
      unfold lits
      rw [List.length_map]
theorem sps_of {H : Type} {enc : TypeId × Value → H} {W : World} {base n : Nat} {sp : Nat → Bool} {held : Bool} {v : Value} {y : DataW H × List MemPlace} (h : DataW.trod enc Tryd.prog W base sp held n 28 [v] = some y) :
    ∃ (zs : List (Int × Int)) (a : Option Addr) (c : Nat), v = .slice a zs.length c ∧ SpsW W (.slice a zs.length c) zs := by
  rcases Go.Deep.open_slice_pairs Tryd.underlying28 Tryd.underlying42 cellsspan rfl rfl (by kernel_rfl) (by kernel_rfl) h with ⟨hc, hx⟩ | ⟨a, len, cap, m, k0, V0, V1, D0, D1, P0, P1, hc, _, hl, _, hm, hx, hall⟩
  · obtain hc := (List.cons.inj hc).1
    exact ⟨[], none, 0, hc, none, 0, rfl, fun k hk => absurd hk (Nat.not_lt_zero _)⟩
  · obtain hc := (List.cons.inj hc).1
    have hlm : len ≤ m := by rw [hm]; split <;> omega
    have hint : ∀ k, ∃ x : Int × Int, k < m → V0 k = .int .i64 x.1 ∧ V1 k = .int .i64 x.2 := fun k => by
      by_cases hk : k < m
      · obtain ⟨x, e1, _⟩ := DataW.trod_int Tryd.underlying3 (hall k hk).2.2.1
        obtain ⟨z, e2, _⟩ := DataW.trod_int Tryd.underlying3 (hall k hk).2.2.2
        simp only [List.cons.injEq, and_true] at e1 e2
        exact ⟨(x, z), fun _ => ⟨e1, e2⟩⟩
      · exact ⟨(0, 0), fun h => absurd h hk⟩
    have hlen : ((List.range len).map fun k => Classical.choose (hint k)).length = len := by rw [List.length_map, List.length_range]
    refine ⟨(List.range len).map fun k => Classical.choose (hint k), some a, cap, by rw [hlen]; exact hc, some a, cap, by rw [hlen], fun k hk => ?_⟩
    rw [hlen] at hk
    have hg : ((List.range len).map fun k => Classical.choose (hint k)).getD k (0, 0) = Classical.choose (hint k) := by
      rw [List.getD_eq_getElem?_getD, List.getElem?_map, List.getElem?_range hk]; rfl
    rw [hg]
    obtain ⟨e1, e2⟩ := Classical.choose_spec (hint k) (by omega)
    exact ⟨a, rfl, (hall k (by omega)).1.trans (congrArg some e1), (hall k (by omega)).2.1.trans (congrArg some e2)⟩
theorem list_ex {α : Type} : ∀ {n : Nat} {Q : Nat → α → Prop}, (∀ i, i < n → ∃ x, Q i x) → ∃ L : List α, L.length = n ∧ ∀ k (hk : k < L.length), Q k L[k]
  | 0, Q, h => ⟨[], rfl, fun k hk => absurd hk (Nat.not_lt_zero _)⟩
  | n + 1, Q, h => by
    obtain ⟨L, hl, hq⟩ := list_ex (n := n) (Q := Q) (fun i hi => h i (by omega))
    obtain ⟨x, hx⟩ := h n (by omega)
    refine ⟨L ++ [x], by simp [hl], fun k hk => ?_⟩
    rw [List.length_append, List.length_cons, List.length_nil] at hk
    by_cases c : k < L.length
    · rw [List.getElem_append_left c]; exact hq k c
    · obtain rfl : k = L.length := by omega
      rw [List.getElem_append_right (Nat.le_refl _)]
      simp only [Nat.sub_self, List.getElem_cons_zero]
      rw [hl]; exact hx
theorem zs_of {H : Type} {enc : TypeId × Value → H} {W : World} {base : Nat} {sp : Nat → Bool} {held : Bool} {v : Value} {d : DataW H} {p : List MemPlace} (hv : ∃ a len cap, v = .slice a len cap) (h : DataW.Trod enc Tryd.prog W base sp held 26 v d p) : ∃ Zs, ZsAt W v Zs := by
  obtain ⟨f, hf⟩ := h
  obtain ⟨a0, l0, c0, rfl⟩ := hv
  rcases Go.Deep.open_slice1 Tryd.underlying26 cellsspans hf with ⟨hc, _⟩ | ⟨a, len, cap, m, n, V, D, Pl, hc, _, hl, _, hm, _, hall⟩
  · obtain hc := (List.cons.inj hc).1
    exact ⟨[], none, 0, hc, fun k hk => absurd hk (Nat.not_lt_zero _)⟩
  · obtain hc := (List.cons.inj hc).1
    have hlm : len ≤ m := by rw [hm]; split <;> omega
    obtain ⟨L, hL, hq⟩ := list_ex (n := len) (Q := fun i (zs : List (Int × Int)) => ∃ a k, V i = .slice a zs.length k ∧ SpsW W (.slice a zs.length k) zs) (fun i hi => by
      obtain ⟨zs, a, c, e1, e2⟩ := sps_of (hall i (by omega)).2
      exact ⟨zs, a, c, e1, e2⟩)
    refine ⟨L, some a, cap, by rw [hL]; exact hc, fun j hj => ?_⟩
    obtain ⟨a', k', e1, e2⟩ := hq j hj
    obtain ⟨g1, g2⟩ := at_none (hall 0 (by omega)).1 (hall j (by omega)).1
    rw [getD_at L j [] hj]
    exact ⟨a.block, a.off, a', k', congrArg some g1, by rw [g2, e1], e2⟩
set_option maxRecDepth 100000 in
set_option linter.all false in
theorem want_of {H : Type} {enc : TypeId × Value → H} {W : World} {base b0 : Nat} {r : Reach} {sp : Nat → Bool} {held : Bool} {v : Value} {d : DataW H} {p : List MemPlace} (hv : Value.okWide Tryd.prog W r b0 25 v) (h : DataW.Trod enc Tryd.prog W base sp held 25 v d p)
    (hw : (d.weights Tryd.prog 25).all (· ≤ reachBytes) = true) : ∃ (V : Wn) (mv sv : Value), v = wantV V mv sv ∧ IsAt W mv V.must ∧ IsAt W sv V.should ∧ (∀ x ∈ V.must ++ V.should, (Lit.int .i64 x).wf = true) ∧ FormS mv ∧ FormS sv := by
  obtain ⟨cs, rfl, hsz⟩ := okWide_struct Tryd.underlying25 hv
  obtain ⟨c0, c1, c2, c3, c4, c5, c6, rfl⟩ := array7 (hsz.trans cellsWant)
  obtain ⟨fuel, hf⟩ := h
  obtain ⟨xs, n, _, hx, hl, hlen, hfs⟩ := DataW.trod_struct Tryd.underlying25 hf
  match xs, hlen with
  | [y0, y1, y2, y3, y4, y5, y6], _ =>
    simp only [Prod.mk.injEq] at hx
    obtain ⟨rfl, _⟩ := hx
    have g0 : DataW.trod enc Tryd.prog W base sp held n 3 ((([c0, c1, c2, c3, c4, c5, c6] : List Value).drop 0).take (Tryd.prog.cellsOf 3)) = some y0 := hfs 0 _ rfl
    rw [cellsInt] at g0
    replace g0 : DataW.trod enc Tryd.prog W base sp held n 3 [c0] = some y0 := g0
    have g1 : DataW.trod enc Tryd.prog W base sp held n 3 ((([c0, c1, c2, c3, c4, c5, c6] : List Value).drop 1).take (Tryd.prog.cellsOf 3)) = some y1 := hfs 1 _ rfl
    rw [cellsInt] at g1
    replace g1 : DataW.trod enc Tryd.prog W base sp held n 3 [c1] = some y1 := g1
    have g2 : DataW.trod enc Tryd.prog W base sp held n 22 ((([c0, c1, c2, c3, c4, c5, c6] : List Value).drop 2).take (Tryd.prog.cellsOf 22)) = some y2 := hfs 2 _ rfl
    rw [cellsInst] at g2
    replace g2 : DataW.trod enc Tryd.prog W base sp held n 22 [c2] = some y2 := g2
    have g3 : DataW.trod enc Tryd.prog W base sp held n 22 ((([c0, c1, c2, c3, c4, c5, c6] : List Value).drop 3).take (Tryd.prog.cellsOf 22)) = some y3 := hfs 3 _ rfl
    rw [cellsInst] at g3
    replace g3 : DataW.trod enc Tryd.prog W base sp held n 22 [c3] = some y3 := g3
    have g4 : DataW.trod enc Tryd.prog W base sp held n 23 ((([c0, c1, c2, c3, c4, c5, c6] : List Value).drop 4).take (Tryd.prog.cellsOf 23)) = some y4 := hfs 4 _ rfl
    rw [cellsInts] at g4
    replace g4 : DataW.trod enc Tryd.prog W base sp held n 23 [c4] = some y4 := g4
    have g5 : DataW.trod enc Tryd.prog W base sp held n 23 ((([c0, c1, c2, c3, c4, c5, c6] : List Value).drop 5).take (Tryd.prog.cellsOf 23)) = some y5 := hfs 5 _ rfl
    rw [cellsInts] at g5
    replace g5 : DataW.trod enc Tryd.prog W base sp held n 23 [c5] = some y5 := g5
    have g6 : DataW.trod enc Tryd.prog W base sp held n 3 ((([c0, c1, c2, c3, c4, c5, c6] : List Value).drop 6).take (Tryd.prog.cellsOf 3)) = some y6 := hfs 6 _ rfl
    rw [cellsInt] at g6
    replace g6 : DataW.trod enc Tryd.prog W base sp held n 3 [c6] = some y6 := g6
    obtain ⟨x0, e0, _⟩ := DataW.trod_int Tryd.underlying3 g0
    obtain rfl : c0 = .int .i64 x0 := (List.cons.inj e0).1
    obtain ⟨x1, e1, _⟩ := DataW.trod_int Tryd.underlying3 g1
    obtain rfl : c1 = .int .i64 x1 := (List.cons.inj e1).1
    obtain ⟨x2, e2, _⟩ := DataW.trod_int Tryd.underlying22 g2
    obtain rfl : c2 = .int .i64 x2 := (List.cons.inj e2).1
    obtain ⟨x3, e3, _⟩ := DataW.trod_int Tryd.underlying22 g3
    obtain rfl : c3 = .int .i64 x3 := (List.cons.inj e3).1
    obtain ⟨x6, e6, _⟩ := DataW.trod_int Tryd.underlying3 g6
    obtain rfl : c6 = .int .i64 x6 := (List.cons.inj e6).1
    obtain ⟨A4, n4, l4, rfl, i4, f4, m4, w4'⟩ := ints_of g4
    obtain ⟨A5, n5, l5, rfl, i5, f5, m5, w5'⟩ := ints_of g5
    unfold DataW.weights at hw
    rw [Tryd.underlying25] at hw
    simp only [List.map_cons, List.map_nil, DataW.weightsEach, List.all_append, Bool.and_eq_true] at hw
    obtain ⟨_, _, _, _, w4, w5, _⟩ := hw
    have z4 := bound_of Tryd.underlying23 bytesInt (by decide) w4
    have z5 := bound_of Tryd.underlying23 bytesInt (by decide) w5
    refine ⟨⟨x0, x1, x2, x3, l4, l5, x6⟩, .slice A4 l4.length n4, .slice A5 l5.length n5, rfl, ⟨A4, n4, rfl, by rw [← m4]; exact z4, i4⟩, ⟨A5, n5, rfl, by rw [← m5]; exact z5, i5⟩, fun x hx => ?_, f4, f5⟩
    rcases List.mem_append.1 hx with h | h
    · exact w4' x h
    · exact w5' x h
set_option maxRecDepth 100000 in
set_option linter.all false in
theorem lifted (os : Os) (started : os.Started) (H : Type) (enc : TypeId × Value → H) :
    ReturnsInHanded {} Tryd.checked os 3 .any (fun w args => (Rows.busyBestSpec.pre enc Tryd.prog Tryd.f3 [] false w args ∧ laidMetH Tryd.prog lst w) ∧ sizedMet enc Tryd.prog Tryd.f3 (OpenSpec.ofChange Rows.busyBestSpec) false w args)
      (Rows.busyBestSpec.post enc Tryd.prog Tryd.f3 false true false false) := by
  refine returnsInHanded_of_change_and (C := Tryd.checked) (X := fun w _ => laidMetH Tryd.prog lst w) (fun _ _ _ hh h => h.of_heap hh) own started (by kernel_rfl) Tryd.func3
    (ChangeSpec.witness_at (enc := enc) (C := Tryd.checked) (os := os) (X := fun w _ => laidMetH Tryd.prog lst w) false (laidWorld os) #[.agg #[.int .i64 0, .int .i64 0, .int .i64 0, .int .i64 0, .slice none 0 0, .slice none 0 0, .int .i64 0], .slice none 0 0] 8 rfl (by kernel_rfl) (by kernel_rfl) (by kernel_rfl) (by kernel_rfl) (by kernel_rfl) (laidWorld_met os _)) ?_
  intro W base args ds gs before hval0 hW u1 u2 hL u3
  have hval : ∀ (j : Nat) t v, Tryd.f3.params[j]? = some t → args[j]? = some v → Value.okWide Tryd.prog W .any base t v := hval0
  have hW' := hW
  have hall : (DataW.weightsEach Tryd.prog (Tryd.f3.params.toList ++ DataSpec.varTypes Tryd.prog Rows.busyBestSpec.plain) (ds ++ gs)).all (· ≤ reachBytes) = true := u2
  obtain ⟨p, q, hA0, hV0, rfl, hfz, hnd⟩ := hW
  have hA : DataW.TrodAll enc Tryd.prog W 0 (fun _ => true) true Tryd.f3.params.toList args.toList ds p := hA0
  have hV : DataW.TrodVars enc Tryd.prog W (fun _ => true) [] gs q := hV0
  rw [Tryd.params3] at hA hval hall
  obtain ⟨v0, vs0, d0, ds0, p0, q0, hargs, rfl, rfl, h0, r0⟩ := trodAll_cons hA
  obtain ⟨v1, vs1, d1, ds1, p1, q1, rfl, rfl, rfl, h1, r1⟩ := trodAll_cons r0
  obtain ⟨rfl, rfl, rfl⟩ := trodAll_nil r1
  obtain rfl : args = #[v0, v1] := by cases args; simp_all
  obtain ⟨rfl, rfl⟩ : gs = [] ∧ q = [] := by
    cases gs with
    | nil => exact ⟨rfl, hV⟩
    | cons g r => exact absurd hV (by intro h; cases h)
  have hw0 : (d0.weights Tryd.prog 25).all (· ≤ reachBytes) = true := by
    simp only [List.cons_append, List.nil_append, List.append_nil, DataW.weightsEach, List.all_append, Bool.and_eq_true] at hall
    exact hall.1
  obtain ⟨V, mv, sv, rfl, im, is, iw, fm, fs⟩ := want_of (hval 0 25 v0 rfl rfl) h0 hw0
  obtain ⟨Zs, hZ⟩ := zs_of (okWide_slice Tryd.underlying26 (hval 1 26 v1 rfl rfl)) h1
  have hd := handle_of_laid hL
  have e1 : Rows.busyBestSpec.fn H ([d0, d1] ++ []) = { results := [.lit (.bool true)], args := [d0, d1] } := by simp [Rows.busyBestSpec]
  refine (best_walk V mv sv v1 Zs W hd im is iw hZ fm fs).mono fun e W' ⟨he, hb⟩ => ?_
  subst he
  refine ⟨_, rfl, _, _, _, [], p0 ++ (p1 ++ []), [], hW', ?_, ?_, ?_, hb.frame _, ?_⟩
  · rw [e1]; exact trodAll_mk1 (shut_bool Tryd.underlying4 true)
  · rw [e1]; exact trodAll_cons_mk (stays_of hb (by kernel_rfl) h0) (trodAll_cons_mk (stays_of hb (by kernel_rfl) h1) trodAll_mk0)
  · rw [e1]; rfl
  · intro h; cases h

theorem said : Rows.BusyBestSaid :=
  OpenClaim.holds_of_wide 3 Tryd.f3 rfl rfl rfl rfl rfl rfl rfl ⟨rfl, rfl, rfl, rfl, rfl⟩ rfl rfl rfl rfl rfl (by kernel_rfl) Tryd.func3 (by kernel_rfl)
    (of_decide_eq_true (by kernel_rfl)) (by unfold Func.isWrapper; rw [if_neg (of_decide_eq_false (by kernel_rfl))]; exact ⟨rfl, rfl⟩)
    (fun os started H enc _ => lifted os started H enc)

theorem plain (f : FuncId) (fn : Func) (hf : Tryd.pinned.checked.prog.funcNamed "almanac/almanackeep.BusyBest" = some f) (hfn : Tryd.pinned.checked.prog.funcs[f]? = some fn) :
    true = Tryd.pinned.checked.prog.looks [] ∧ ∀ (j : Nat) t, fn.params[j]? = some t → Tryd.pinned.checked.prog.wantsStandIn t = false := by
  obtain rfl : f = 3 := Option.some.inj ((show Tryd.prog.funcNamed "almanac/almanackeep.BusyBest" = some 3 by kernel_rfl).symm.trans hf) |>.symm
  obtain rfl : fn = Tryd.f3 := (Option.some.inj (Tryd.func3.symm.trans hfn)).symm
  refine ⟨by kernel_rfl, fun j t ht => ?_⟩
  rw [Tryd.params3] at ht
  have hm := Array.mem_of_getElem? ht
  simp only [List.mem_toArray, List.mem_cons, List.not_mem_nil, or_false] at hm
  have h : t = 25 ∨ t = 26 := by first | omega | exact hm | exact hm.symm | (rcases hm with hm | hm <;> first | exact hm | exact hm.symm | simp [hm])
  rcases h with rfl | rfl
  · exact (show Tryd.prog.wantsStandIn 25 = false by kernel_rfl)
  · exact (show Tryd.prog.wantsStandIn 26 = false by kernel_rfl)
end Go.Proofs.YtabgoicholknoaaDoor.busyBestP
namespace Go.Proofs.YtabgoicholknoaaDoor
open Go
/-- THE CARD -/
theorem busyBest_card : Rows.BusyBestCardSaid :=
  Claim7.holds_tied_plain_at .later [] _ _ _ _ busyBestP.said (fun _ h => by cases h) (by kernel_rfl) (fun _ h => by cases h) busyBest_row_tie rfl ⟨rfl, rfl⟩ (by kernel_rfl) rfl busyBestP.plain (by kernel_rfl)
#print axioms busyBest_card
end Go.Proofs.YtabgoicholknoaaDoor
