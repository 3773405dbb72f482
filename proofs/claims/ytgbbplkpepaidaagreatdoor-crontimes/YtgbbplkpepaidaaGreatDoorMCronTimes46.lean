/- In one plain sentence: for every input the law CronTimes returns true, changes no argument and touches no old memory; package errors' variable errorType and package cron's six kinds of numbers are read as the program's text lays them. -/
import Derived.Test.YtgbbplkpepaidaaGreatDoorMCronTimes45
import Derived.Test.YtgbbplkpepaidaaGreatDoorMCronTimes19
import Derived.SevenTiedAt
import Derived.Lib.SmallJoins
import Derived.Deep.SlicePairs
import Derived.ChangeStays
import Derived.ReadAgain
import Derived.Test.YtgbbplkpepaidaaGreatDoorMCronTimes15
namespace Go.Proofs.YtgbbplkpepaidaaGreatDoor.cronTimesP
open Go.ChangeShapes Go.WideShapes Go.RowKit Go
set_option linter.unusedVariables false
set_option linter.unusedSimpArgs false

theorem cells25 : Tryz.prog.cellsOf 25 = 11 := by kernel_rfl
theorem cellsInt : Tryz.prog.cellsOf 3 = 1 := by kernel_rfl
theorem cellsInts : Tryz.prog.cellsOf 22 = 1 := by kernel_rfl
theorem cellsBool : Tryz.prog.cellsOf 4 = 1 := by kernel_rfl
theorem cellsNths : Tryz.prog.cellsOf 23 = 1 := by kernel_rfl
theorem cellsNth : Tryz.prog.cellsOf 55 = 2 := by kernel_rfl
theorem bytesInt : Tryz.prog.bytesOf 3 = 8 := by kernel_rfl
theorem bytesNth : Tryz.prog.bytesOf 55 = 16 := by kernel_rfl
theorem array11 {α : Type} {cs : Array α} (h : cs.size = 11) : ∃ c0 c1 c2 c3 c4 c5 c6 c7 c8 c9 c10, cs = #[c0, c1, c2, c3, c4, c5, c6, c7, c8, c9, c10] := by
  obtain ⟨l⟩ := cs
  match l, h with
  | [c0, c1, c2, c3, c4, c5, c6, c7, c8, c9, c10], _ => exact ⟨c0, c1, c2, c3, c4, c5, c6, c7, c8, c9, c10, rfl⟩
/-- how long a slice's datum is -/
def elems {H : Type} : DataW H → Nat
  | .slice e _ => e.length
  | _ => 0
theorem il_of {H : Type} {enc : TypeId × Value → H} {W : World} {base n : Nat} {sp : Nat → Bool} {held : Bool} {v : Value} {y : DataW H × List MemPlace} (h : DataW.trod enc Tryz.prog W base sp held n 22 [v] = some y) :
    ∃ (A : Option Addr) (c : Nat) (l : List Int), v = .slice A l.length c ∧ IL A l W ∧ elems y.1 = l.length := by
  rcases open_ints Tryz.underlying22 Tryz.underlying3 cellsInt h with ⟨hc, hx⟩ | ⟨a, len, cap, zs, hc, _, hl, _, hzl, hx, hcell, _⟩
  · obtain hc := (List.cons.inj hc).1
    exact ⟨none, 0, [], hc, fun k hk => absurd hk (Nat.not_lt_zero _), by rw [hx]; rfl⟩
  · obtain hc := (List.cons.inj hc).1
    have hz : len ≤ zs.length := by rw [hzl]; split <;> omega
    have hlen : (zs.take len).length = len := by rw [List.length_take]; omega
    refine ⟨some a, cap, zs.take len, by rw [hlen]; exact hc, fun k hk => ⟨a, rfl, ?_⟩, ?_⟩
    · rw [hlen] at hk
      rw [hcell k (by omega), List.getD_eq_getElem?_getD, List.getD_eq_getElem?_getD, List.getElem?_take, if_pos hk]
    · rw [hx]
      show (lits .i64 (zs.take len)).length = _
      unfold lits
      rw [List.length_map]
theorem addr_one (a : Addr) (n : Nat) : a.add (n + 1) = ⟨(a.add n).block, (a.add n).off + 1, none⟩ := by
  rw [Addr.add_succ']
  cases n with
  | zero => simp [Addr.add]
  | succ n => rw [Addr.add_succ']; simp; omega
theorem nl_of {H : Type} {enc : TypeId × Value → H} {W : World} {base n : Nat} {sp : Nat → Bool} {held : Bool} {v : Value} {y : DataW H × List MemPlace} (h : DataW.trod enc Tryz.prog W base sp held n 23 [v] = some y) :
    ∃ (A : Option Addr) (c : Nat) (l : List (Int × Int)), v = .slice A l.length c ∧ NL A l W ∧ elems y.1 = l.length := by
  rcases Go.Deep.open_slice_pairs Tryz.underlying23 Tryz.underlying55 cellsNth rfl rfl (by kernel_rfl) (by kernel_rfl) h with ⟨hc, hx⟩ | ⟨a, len, cap, m, k0, V0, V1, D0, D1, P0, P1, hc, _, hl, _, hm, hx, hall⟩
  · obtain hc := (List.cons.inj hc).1
    exact ⟨none, 0, [], hc, fun k hk => absurd hk (Nat.not_lt_zero _), by rw [hx]; rfl⟩
  · obtain hc := (List.cons.inj hc).1
    have hlm : len ≤ m := by rw [hm]; split <;> omega
    have hint : ∀ k, ∃ x : Int × Int, k < m → V0 k = .int .i64 x.1 ∧ V1 k = .int .i64 x.2 := fun k => by
      by_cases hk : k < m
      · obtain ⟨x, e1, _⟩ := DataW.trod_int Tryz.underlying3 (hall k hk).2.2.1
        obtain ⟨z, e2, _⟩ := DataW.trod_int Tryz.underlying3 (hall k hk).2.2.2
        simp only [List.cons.injEq, and_true] at e1 e2
        exact ⟨(x, z), fun _ => ⟨e1, e2⟩⟩
      · exact ⟨(0, 0), fun h => absurd h hk⟩
    have hlen : ((List.range len).map fun k => Classical.choose (hint k)).length = len := by rw [List.length_map, List.length_range]
    refine ⟨some a, cap, (List.range len).map fun k => Classical.choose (hint k), by rw [hlen]; exact hc, fun k hk => ⟨a, rfl, ?_⟩, ?_⟩
    · rw [hlen] at hk
      have hg : ((List.range len).map fun k => Classical.choose (hint k)).getD k (0, 0) = Classical.choose (hint k) := by
        rw [List.getD_eq_getElem?_getD, List.getElem?_map, List.getElem?_range hk]; rfl
      rw [hg]
      obtain ⟨e1, e2⟩ := Classical.choose_spec (hint k) (by omega)
      exact ⟨(hall k (by omega)).1.trans (congrArg some e1), (congrArg W.cell? (addr_one a (k * 2))).symm.trans ((hall k (by omega)).2.1.trans (congrArg some e2))⟩
    · rw [hx]
      show ((List.range len).map _).length = _
      rw [List.length_map, List.length_range, hlen]
theorem bound_of {H : Type} {y : DataW H} {t e : TypeId} {b : Nat} (ht : Tryz.prog.underlying t = some (.slice e)) (hb : Tryz.prog.bytesOf e = b) (b0 : 0 < b) (h : (y.weights Tryz.prog t).all (· ≤ reachBytes) = true) : elems y ≤ 1125899906842624 := by
  cases y with
  | slice el sp =>
    unfold DataW.weights at h
    rw [ht] at h
    simp only [List.all_cons, Bool.and_eq_true, decide_eq_true_eq, hb] at h
    have h1 := h.1
    unfold reachBytes at h1
    show el.length ≤ _
    have h2 : el.length + sp.length ≤ (el.length + sp.length) * b := Nat.le_mul_of_pos_right _ b0
    omega
  | _ => exact Nat.zero_le _
theorem kidsAll : Kids Tryz.prog (· < Tryz.prog.types.size) := kids_rows (by kernel_rfl) (by kernel_rfl)
theorem fullAll : ∀ t e, t < Tryz.prog.types.size → Tryz.prog.underlying t = some (.slice e) → 0 < Tryz.prog.cellsOf e := slices_full_of Tryz.prog (by kernel_rfl)
theorem stays_of {H : Type} {enc : TypeId × Value → H} {W W' : World} {t : TypeId} {v : Value} {d : DataW H} {p : List MemPlace} (hb : Below W.heap.size W W') (ht : decide (t < Tryz.prog.types.size) = true) (h : DataW.Trod enc Tryz.prog W 0 (fun _ => true) true t v d p) :
    DataW.Trod enc Tryz.prog W' 0 (fun b => decide (b < W.heap.size)) true t v d p := by
  obtain ⟨n, hn⟩ := h
  exact ⟨n, DataW.trod_stays kidsAll (fun ht hu => fullAll _ _ ht hu) (fun h => by cases h) (of_decide_eq_true ht) hn (fun q hq => hb.same (DataW.trod_lt n _ _ _ hn q hq)) (fun q hq => decide_eq_true (DataW.trod_lt n _ _ _ hn q hq))⟩
set_option maxRecDepth 100000 in
theorem cron_of {H : Type} {enc : TypeId × Value → H} {W : World} {base b0 : Nat} {r : Reach} {sp : Nat → Bool} {held : Bool} {v : Value} {d : DataW H} {p : List MemPlace} (hv : Value.okWide Tryz.prog W r b0 25 v) (h : DataW.Trod enc Tryz.prog W base sp held 25 v d p)
    (hw : (d.weights Tryz.prog 25).all (· ≤ reachBytes) = true) : ∃ (A : CAd) (x : Crn.C), v = crV A x ∧ CL A x W := by
  obtain ⟨cs, rfl, hsz⟩ := okWide_struct Tryz.underlying25 hv
  obtain ⟨c0, c1, c2, c3, c4, c5, c6, c7, c8, c9, c10, rfl⟩ := array11 (hsz.trans cells25)
  obtain ⟨fuel, hf⟩ := h
  obtain ⟨xs, n, _, hx, hl, hlen, hfs⟩ := DataW.trod_struct Tryz.underlying25 hf
  match xs, hlen with
  | [y0, y1, y2, y3, y4, y5, y6, y7, y8, y9, y10], _ =>
    simp only [Prod.mk.injEq] at hx
    obtain ⟨rfl, _⟩ := hx
    have g0 : DataW.trod enc Tryz.prog W base sp held n 22 ((([c0, c1, c2, c3, c4, c5, c6, c7, c8, c9, c10] : List Value).drop 0).take (Tryz.prog.cellsOf 22)) = some y0 := hfs 0 _ rfl
    rw [cellsInts] at g0
    replace g0 : DataW.trod enc Tryz.prog W base sp held n 22 [c0] = some y0 := g0
    have g1 : DataW.trod enc Tryz.prog W base sp held n 22 ((([c0, c1, c2, c3, c4, c5, c6, c7, c8, c9, c10] : List Value).drop 1).take (Tryz.prog.cellsOf 22)) = some y1 := hfs 1 _ rfl
    rw [cellsInts] at g1
    replace g1 : DataW.trod enc Tryz.prog W base sp held n 22 [c1] = some y1 := g1
    have g2 : DataW.trod enc Tryz.prog W base sp held n 22 ((([c0, c1, c2, c3, c4, c5, c6, c7, c8, c9, c10] : List Value).drop 2).take (Tryz.prog.cellsOf 22)) = some y2 := hfs 2 _ rfl
    rw [cellsInts] at g2
    replace g2 : DataW.trod enc Tryz.prog W base sp held n 22 [c2] = some y2 := g2
    have g3 : DataW.trod enc Tryz.prog W base sp held n 4 ((([c0, c1, c2, c3, c4, c5, c6, c7, c8, c9, c10] : List Value).drop 3).take (Tryz.prog.cellsOf 4)) = some y3 := hfs 3 _ rfl
    rw [cellsBool] at g3
    replace g3 : DataW.trod enc Tryz.prog W base sp held n 4 [c3] = some y3 := g3
    have g4 : DataW.trod enc Tryz.prog W base sp held n 22 ((([c0, c1, c2, c3, c4, c5, c6, c7, c8, c9, c10] : List Value).drop 4).take (Tryz.prog.cellsOf 22)) = some y4 := hfs 4 _ rfl
    rw [cellsInts] at g4
    replace g4 : DataW.trod enc Tryz.prog W base sp held n 22 [c4] = some y4 := g4
    have g5 : DataW.trod enc Tryz.prog W base sp held n 4 ((([c0, c1, c2, c3, c4, c5, c6, c7, c8, c9, c10] : List Value).drop 5).take (Tryz.prog.cellsOf 4)) = some y5 := hfs 5 _ rfl
    rw [cellsBool] at g5
    replace g5 : DataW.trod enc Tryz.prog W base sp held n 4 [c5] = some y5 := g5
    have g6 : DataW.trod enc Tryz.prog W base sp held n 22 ((([c0, c1, c2, c3, c4, c5, c6, c7, c8, c9, c10] : List Value).drop 6).take (Tryz.prog.cellsOf 22)) = some y6 := hfs 6 _ rfl
    rw [cellsInts] at g6
    replace g6 : DataW.trod enc Tryz.prog W base sp held n 22 [c6] = some y6 := g6
    have g7 : DataW.trod enc Tryz.prog W base sp held n 4 ((([c0, c1, c2, c3, c4, c5, c6, c7, c8, c9, c10] : List Value).drop 7).take (Tryz.prog.cellsOf 4)) = some y7 := hfs 7 _ rfl
    rw [cellsBool] at g7
    replace g7 : DataW.trod enc Tryz.prog W base sp held n 4 [c7] = some y7 := g7
    have g8 : DataW.trod enc Tryz.prog W base sp held n 22 ((([c0, c1, c2, c3, c4, c5, c6, c7, c8, c9, c10] : List Value).drop 8).take (Tryz.prog.cellsOf 22)) = some y8 := hfs 8 _ rfl
    rw [cellsInts] at g8
    replace g8 : DataW.trod enc Tryz.prog W base sp held n 22 [c8] = some y8 := g8
    have g9 : DataW.trod enc Tryz.prog W base sp held n 22 ((([c0, c1, c2, c3, c4, c5, c6, c7, c8, c9, c10] : List Value).drop 9).take (Tryz.prog.cellsOf 22)) = some y9 := hfs 9 _ rfl
    rw [cellsInts] at g9
    replace g9 : DataW.trod enc Tryz.prog W base sp held n 22 [c9] = some y9 := g9
    have g10 : DataW.trod enc Tryz.prog W base sp held n 23 ((([c0, c1, c2, c3, c4, c5, c6, c7, c8, c9, c10] : List Value).drop 10).take (Tryz.prog.cellsOf 23)) = some y10 := hfs 10 _ rfl
    rw [cellsNths] at g10
    replace g10 : DataW.trod enc Tryz.prog W base sp held n 23 [c10] = some y10 := g10
    obtain ⟨A0, n0, l0, rfl, i0, m0⟩ := il_of g0
    obtain ⟨A1, n1, l1, rfl, i1, m1⟩ := il_of g1
    obtain ⟨A2, n2, l2, rfl, i2, m2⟩ := il_of g2
    obtain ⟨b3, e3, q3⟩ := DataW.trod_bool Tryz.underlying4 g3
    obtain rfl : c3 = .bool b3 := (List.cons.inj e3).1
    obtain ⟨A4, n4, l4, rfl, i4, m4⟩ := il_of g4
    obtain ⟨b5, e5, q5⟩ := DataW.trod_bool Tryz.underlying4 g5
    obtain rfl : c5 = .bool b5 := (List.cons.inj e5).1
    obtain ⟨A6, n6, l6, rfl, i6, m6⟩ := il_of g6
    obtain ⟨b7, e7, q7⟩ := DataW.trod_bool Tryz.underlying4 g7
    obtain rfl : c7 = .bool b7 := (List.cons.inj e7).1
    obtain ⟨A8, n8, l8, rfl, i8, m8⟩ := il_of g8
    obtain ⟨A9, n9, l9, rfl, i9, m9⟩ := il_of g9
    obtain ⟨A10, n10, l10, rfl, i10, m10⟩ := nl_of g10
    unfold DataW.weights at hw
    rw [Tryz.underlying25] at hw
    simp only [List.map_cons, List.map_nil, DataW.weightsEach, List.all_append, Bool.and_eq_true] at hw
    obtain ⟨_, _, _, _, w4, _, w6, _, w8, w9, w10, _⟩ := hw
    have z4 := bound_of Tryz.underlying22 bytesInt (by decide) w4
    have z6 := bound_of Tryz.underlying22 bytesInt (by decide) w6
    have z8 := bound_of Tryz.underlying22 bytesInt (by decide) w8
    have z9 := bound_of Tryz.underlying22 bytesInt (by decide) w9
    have z10 := bound_of Tryz.underlying23 bytesNth (by decide) w10
    exact ⟨⟨A0, A1, A2, A4, A6, A8, A9, A10, n0, n1, n2, n4, n6, n8, n9, n10⟩, ⟨l0, l1, l2, b3, l4, b5, l6, b7, l8, l9, l10⟩, rfl, ⟨i0, i1, i2, i4, i6, i8, i9, i10, by rw [← m4, ← m6, ← m8, ← m9, ← m10]; exact ⟨z4, z6, z8, z9, z10⟩⟩⟩

set_option maxRecDepth 100000 in
theorem lifted (os : Os) (started : os.Started) (H : Type) (enc : TypeId × Value → H) :
    ReturnsInHanded {} Tryz.checked os 3 .any (fun w args => (Rows.cronTimesSpec.pre enc Tryz.prog Tryz.f3 [] false w args ∧ laidMetH Tryz.prog lstC w) ∧ sizedMet enc Tryz.prog Tryz.f3 (OpenSpec.ofChange Rows.cronTimesSpec) false w args)
      (Rows.cronTimesSpec.post enc Tryz.prog Tryz.f3 false true false false) := by
  refine returnsInHanded_of_change_and (C := Tryz.checked) (X := fun w _ => laidMetH Tryz.prog lstC w) (fun _ _ _ hh h => h.of_heap hh) own started (by kernel_rfl) Tryz.func3
    (ChangeSpec.witness_at (enc := enc) (C := Tryz.checked) (os := os) (X := fun w _ => laidMetH Tryz.prog lstC w) false (laidWorldC os) #[.agg #[.slice none 0 0, .slice none 0 0, .slice none 0 0, .bool false, .slice none 0 0, .bool false, .slice none 0 0, .bool false, .slice none 0 0, .slice none 0 0, .slice none 0 0], .int .i64 0] 8 rfl (by kernel_rfl) (by kernel_rfl) (by kernel_rfl) (by kernel_rfl) (by kernel_rfl) (laidWorldC_met os _)) ?_
  intro W base args ds gs before hval0 hW u1 u2 hL u3
  have hval : ∀ (j : Nat) t v, Tryz.f3.params[j]? = some t → args[j]? = some v → Value.okWide Tryz.prog W .any base t v := hval0
  have hW' := hW
  have hall : (DataW.weightsEach Tryz.prog (Tryz.f3.params.toList ++ DataSpec.varTypes Tryz.prog Rows.cronTimesSpec.plain) (ds ++ gs)).all (· ≤ reachBytes) = true := u2
  obtain ⟨p, q, hA0, hV0, rfl, hfz, hnd⟩ := hW
  have hA : DataW.TrodAll enc Tryz.prog W 0 (fun _ => true) true Tryz.f3.params.toList args.toList ds p := hA0
  have hV : DataW.TrodVars enc Tryz.prog W (fun _ => true) [] gs q := hV0
  rw [Tryz.params3] at hA hval hall
  obtain ⟨v0, vs0, d0, ds0, p0, q0, hargs, rfl, rfl, h0, r0⟩ := trodAll_cons hA
  obtain ⟨v1, vs1, d1, ds1, p1, q1, rfl, rfl, rfl, h1, r1⟩ := trodAll_cons r0
  obtain ⟨rfl, rfl, rfl⟩ := trodAll_nil r1
  obtain rfl : args = #[v0, v1] := by cases args; simp_all
  obtain ⟨rfl, rfl⟩ : gs = [] ∧ q = [] := by
    cases gs with
    | nil => exact ⟨rfl, hV⟩
    | cons g r => exact absurd hV (by intro h; cases h)
  have hw0 : (d0.weights Tryz.prog 25).all (· ≤ reachBytes) = true := by
    simp only [List.cons_append, List.nil_append, List.append_nil, DataW.weightsEach, List.all_append, Bool.and_eq_true] at hall
    exact hall.1
  obtain ⟨A, x, rfl, hCL⟩ := cron_of (hval 0 25 v0 rfl rfl) h0 hw0
  have hd := hd_of_laidC hL
  have hk := kt_of_laid hL
  obtain ⟨a1, rfl, rfl, rfl, w1⟩ := open_int Tryz.underlying26 (hval 1 26 v1 rfl rfl) h1
  have e1 : Rows.cronTimesSpec.fn H ([d0, .lit (.int .i64 a1)] ++ []) = { results := [.lit (.bool true)], args := [d0, .lit (.int .i64 a1)] } := by simp [Rows.cronTimesSpec]
  refine (crontimes_walk A x a1 W hd hk hCL (wf_bd w1).1 (wf_bd w1).2).mono fun e W' ⟨he, hb⟩ => ?_
  subst he
  refine ⟨_, rfl, _, _, _, [], p0 ++ ([] ++ []), [], hW', ?_, ?_, ?_, hb.frame _, ?_⟩
  · rw [e1]; exact trodAll_mk1 (shut_bool Tryz.underlying4 true)
  · rw [e1]; exact trodAll_cons_mk (stays_of hb (by kernel_rfl) h0) (trodAll_cons_mk (shut_int Tryz.underlying26 w1) trodAll_mk0)
  · rw [e1]; rfl
  · intro h; cases h

theorem said : Rows.CronTimesSaid :=
  OpenClaim.holds_of_wide 3 Tryz.f3 rfl rfl rfl rfl rfl rfl rfl ⟨rfl, rfl, rfl, rfl, rfl⟩ rfl rfl rfl rfl rfl (by kernel_rfl) Tryz.func3 (by kernel_rfl)
    (of_decide_eq_true (by kernel_rfl)) (by unfold Func.isWrapper; rw [if_neg (of_decide_eq_false (by kernel_rfl))]; exact ⟨rfl, rfl⟩)
    (fun os started H enc _ => lifted os started H enc)

theorem plain (f : FuncId) (fn : Func) (hf : Tryz.pinned.checked.prog.funcNamed "almanac/almanaclaw.CronTimes" = some f) (hfn : Tryz.pinned.checked.prog.funcs[f]? = some fn) :
    true = Tryz.pinned.checked.prog.looks [] ∧ ∀ (j : Nat) t, fn.params[j]? = some t → Tryz.pinned.checked.prog.wantsStandIn t = false := by
  obtain rfl : f = 3 := Option.some.inj ((show Tryz.prog.funcNamed "almanac/almanaclaw.CronTimes" = some 3 by kernel_rfl).symm.trans hf) |>.symm
  obtain rfl : fn = Tryz.f3 := (Option.some.inj (Tryz.func3.symm.trans hfn)).symm
  refine ⟨by kernel_rfl, fun j t ht => ?_⟩
  rw [Tryz.params3] at ht
  have hm := Array.mem_of_getElem? ht
  simp only [List.mem_toArray, List.mem_cons, List.not_mem_nil, or_false] at hm
  rcases hm with rfl | rfl
  · exact (show Tryz.prog.wantsStandIn 25 = false by kernel_rfl)
  · exact (show Tryz.prog.wantsStandIn 26 = false by kernel_rfl)
end Go.Proofs.YtgbbplkpepaidaaGreatDoor.cronTimesP
namespace Go.Proofs.YtgbbplkpepaidaaGreatDoor
open Go
/-- THE CARD -/
theorem cronTimes_card : Rows.CronTimesCardSaid :=
  Claim7.holds_tied_plain_at .later [] _ _ _ _ cronTimesP.said (fun _ h => by cases h) (by kernel_rfl) (fun _ h => by cases h) cronTimes_row_tie rfl ⟨rfl, rfl⟩ (by kernel_rfl) rfl cronTimesP.plain (by kernel_rfl)
#print axioms cronTimes_card
end Go.Proofs.YtgbbplkpepaidaaGreatDoor
