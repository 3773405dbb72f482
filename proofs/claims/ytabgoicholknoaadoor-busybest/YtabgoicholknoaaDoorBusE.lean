/- busy: Check, walked. -/
import Derived.Test.YtabgoicholknoaaDoorBusD
namespace Go.Proofs.YtabgoicholknoaaDoor
open Go.RowKit Go.Shelf Go.Maps
set_option linter.unusedVariables false
set_option linter.unusedSimpArgs false

/-- what the walk of Check keeps: the set of those seen, the two lists -/
structure CK (w : World) (mv sv : Value) (seen : List Int) (wr : World) : Prop where
  m : wr.ownsMap Tryd.prog 3 (unitElem (H := Unit)) (w.heap.size + 1) seen.length (seenS seen)
  b : Below w.heap.size w wr
  c0 : wr.cell? ⟨w.heap.size + 2, 0, none⟩ = some mv
  c1 : wr.cell? ⟨w.heap.size + 2, 1, none⟩ = some sv
  z : w.heap.size + 3 ≤ wr.heap.size
theorem CK.alloc {w : World} {mv sv : Value} {seen : List Int} {wr : World} (h : CK w mv sv seen wr) (o : Obj) : CK w mv sv seen (wr.alloc o) := by
  have hz := h.z
  exact ⟨h.m.alloc o, h.b.alloc (by omega) o, (World.cell?_alloc_past _ _ _ (by show w.heap.size + 2 < wr.heap.size; omega)).trans h.c0, (World.cell?_alloc_past _ _ _ (by show w.heap.size + 2 < wr.heap.size; omega)).trans h.c1, by simp; omega⟩
theorem CK.put {w : World} {mv sv : Value} {seen : List Int} {wr w1 : World} {x : Int} (h : CK w mv sv seen wr) (hm : w1.ownsMap Tryd.prog 3 (unitElem (H := Unit)) (w.heap.size + 1) (seen.length + 1) ((seenS seen).put (.int .i64 x) (.agg []))) (hg : wr.grownBy w1 (some (w.heap.size + 1))) : CK w mv sv (seen ++ [x]) w1 := by
  have hz := h.z
  have hs := hg.size
  have hc : ∀ j, w1.cell? ⟨w.heap.size + 2, j, none⟩ = wr.cell? ⟨w.heap.size + 2, j, none⟩ := fun j => by
    have := hg.block (w.heap.size + 2) (by omega) (by simp)
    simp only [World.cell?, this]
  exact ⟨by rw [seenS_snoc, List.length_append]; exact hm, h.b.grown hg (by omega) (fun j hj => by cases hj; omega), (hc 0).trans h.c0, (hc 1).trans h.c1, by omega⟩
theorem cell_new2 (X : World) (a b : Value) (t : TypeId) (n : Nat) (hn : X.heap.size = n) : (X.alloc (.cells #[a, b] t)).cell? ⟨n, 0, none⟩ = some a ∧ (X.alloc (.cells #[a, b] t)).cell? ⟨n, 1, none⟩ = some b := by subst hn; simp
theorem okW_bad (n : Int) (a b : List Int) (x : Int) (hx : x < 0 ∨ n ≤ x ∨ x ∈ a) : okW n [] (a ++ x :: b) = false := by
  rw [okW_app, List.nil_append, okW, if_pos hx, Bool.and_false]
theorem okW_more (n : Int) (a : List Int) (x : Int) (ha : okW n [] a = true) (hx : ¬ (x < 0 ∨ n ≤ x ∨ x ∈ a)) : okW n [] (a ++ [x]) = true := by
  rw [okW_app, List.nil_append, okW, if_neg hx, ha]; rfl
set_option maxRecDepth 100000 in
set_option maxHeartbeats 4000000 in
theorem bcheck_any (W : Wn) (people : Int) (mv sv : Value) (w : World) (hm : IsAt w mv W.must) (hs : IsAt w sv W.should) (hwf : ∀ x ∈ W.must ++ W.should, (Lit.int .i64 x).wf = true) :
    Calls Tryd.prog 13 #[wantV W mv sv, .int .i64 people] w fun e w' => e = .returned (eB (W.chk people)) ∧ Below w.heap.size w w' := by
  have hbx : Below w.heap.size w (w.alloc (wantC W mv sv)) := (Below.refl _ w).alloc (Nat.le_refl _) _
  unfold Wn.chk
  have hmm := @run_makeMap Tryd.prog
  unfold wantV
  by_cases a1 : W.len < 1
  · go_enter Tryd.func13, Tryd.ntmps13
    go_wp2
    go_ret
    exact ⟨rfl, hbx⟩
  by_cases a2 : 34560000 < W.len
  · go_enter Tryd.func13, Tryd.ntmps13
    go_wp2
    go_ret
    exact ⟨rfl, hbx⟩
  by_cases a3 : W.step < 1
  · go_enter Tryd.func13, Tryd.ntmps13
    go_wp2
    go_ret
    exact ⟨rfl, hbx⟩
  by_cases a4 : W.seats < 0
  · go_enter Tryd.func13, Tryd.ntmps13
    go_wp2
    go_ret
    exact ⟨rfl, hbx⟩
  rw [if_neg (by omega)]
  by_cases b1 : W.to' < W.from'
  · go_enter Tryd.func13, Tryd.ntmps13
    go_wp2
    go_ret
    exact ⟨rfl, hbx⟩
  by_cases b2 : W.from' < -345600086399
  · go_enter Tryd.func13, Tryd.ntmps13
    go_wp2
    go_ret
    exact ⟨rfl, hbx⟩
  by_cases b3 : 345600086399 < W.to'
  · go_enter Tryd.func13, Tryd.ntmps13
    go_wp2
    go_ret
    exact ⟨rfl, hbx⟩
  rw [if_neg (by omega)]
  have hw1 : wrap64 (W.to' - W.from') = W.to' - W.from' := by rw [wrap64_id] <;> omega
  have hq : (W.to' - W.from').tdiv W.step = (W.to' - W.from') / W.step := Int.tdiv_eq_ediv_of_nonneg (by omega)
  have hqb : 0 ≤ (W.to' - W.from') / W.step := Int.ediv_nonneg (by omega) (by omega)
  have hqc : (W.to' - W.from') / W.step ≤ W.to' - W.from' := Int.ediv_le_self _ (by omega)
  have hw2 : wrap64 ((W.to' - W.from') / W.step) = (W.to' - W.from') / W.step := by rw [wrap64_id] <;> omega
  have hst : W.step ≠ 0 := by omega
  by_cases c1 : 10000 < (W.to' - W.from') / W.step
  · rw [if_pos c1]
    go_enter Tryd.func13, Tryd.ntmps13
    go_wp2
    go_ret
    exact ⟨rfl, hbx⟩
  rw [if_neg c1]
  obtain ⟨V, hV⟩ : ∃ V, eB (if okW people [] (W.must ++ W.should) = true then 0 else 1) = V := ⟨_, rfl⟩
  rw [hV]
  have HV := hide hV
  obtain ⟨ad1, cap1, rfl, hl1, hall1⟩ := hm
  obtain ⟨ad2, cap2, rfl, hl2, hall2⟩ := hs
  have HM := hide (And.intro hall1 hall2)
  have HF := hide hwf
  have HBX := hide hbx
  clear hwf hV hbx hall1 hall2
  go_enter Tryd.func13, Tryd.ntmps13
  go_wp2_with fail
  go_loopw [67] (fun i wr => ∃ j : Nat, j ≤ 2 ∧ i = .int .i64 j ∧ okW people [] (([W.must, W.should].take j).flatten) = true ∧ CK w (.slice ad1 W.must.length cap1) (.slice ad2 W.should.length cap2) (([W.must, W.should].take j).flatten) wr) (fun i _ => 2 - (intOf i).toNat)
  case atStart =>
    refine ⟨0, by omega, rfl, rfl, ⟨?_, ?_, ?_, ?_, ?_⟩⟩
    · have h := World.ownsMap_made (H := Unit) (w.alloc (wantC W (.slice ad1 W.must.length cap1) (.slice ad2 W.should.length cap2))) Tryd.prog 3 unitElem
      rw [World.size_alloc] at h
      exact h.alloc _
    · exact (HBX.out.alloc (by simp) _).alloc (by simp; omega) _
    · exact (cell_new2 _ _ _ _ _ (by simp)).1
    · exact (cell_new2 _ _ _ _ _ (by simp)).2
    · simp
  case round =>
    obtain ⟨j, hj, rfl, hok, hC⟩ := hrel
    by_cases hlt : j < 2
    · have hji : (j : Int) < 2 := by omega
      have hj0 : (0 : Int) ≤ j := by omega
      have hex : ∃ (ad : Option Addr) (l : List Int) (cap : Nat) (post : List Int), wr.cell? ⟨w.heap.size + 2, j, none⟩ = some (.slice ad l.length cap) ∧ l.length ≤ 1125899906842624 ∧
          (∀ k, k < l.length → ∃ g o, ad = some ⟨g, o, none⟩ ∧ w.cell? ⟨g, o + k, none⟩ = some (.int .i64 (l.getD k 0))) ∧ ([W.must, W.should].take (j + 1)).flatten = ([W.must, W.should].take j).flatten ++ l ∧ W.must ++ W.should = ([W.must, W.should].take j).flatten ++ (l ++ post) := by
        have h01 : j = 0 ∨ j = 1 := by omega
        rcases h01 with rfl | rfl
        · exact ⟨ad1, W.must, cap1, W.should, hC.c0, hl1, HM.out.1, by simp, by simp⟩
        · exact ⟨ad2, W.should, cap2, [], hC.c1, hl2, HM.out.2, by simp, by simp⟩
      obtain ⟨ad, l, cap, post, hcell, hll, hall, hnext, hfull⟩ := hex
      have HN := hide (And.intro hall (And.intro hnext hfull))
      generalize ([W.must, W.should].take j).flatten = pre at *
      have HC := hide (And.intro hok hC)
      clear hall hnext hfull hok hC
      go_wp2_with fail
      go_loopw [73] (fun i wr => ∃ k : Nat, k ≤ l.length ∧ i = .int .i64 k ∧ okW people [] (pre ++ l.take k) = true ∧ CK w (.slice ad1 W.must.length cap1) (.slice ad2 W.should.length cap2) (pre ++ l.take k) wr) (fun i _ => l.length - (intOf i).toNat)
      case atStart =>
        exact ⟨0, by omega, rfl, by simpa using HC.out.1, by simpa using HC.out.2⟩
      case round =>
        obtain ⟨k, hk, rfl, hok, hC⟩ := hrel
        by_cases hkl : k < l.length
        · have hki : (k : Int) < l.length := by omega
          obtain ⟨g, o, rfl, hx⟩ := HN.out.1 k hkl
          have hx0 := (hC.b.cell (World.block_lt_of_cell? w _ hx)).trans hx
          have htk : l.take (k + 1) = l.take k ++ [l.getD k 0] := by rw [List.take_succ_eq_append_getElem hkl, getD_at l k 0 hkl]
          have hsplit : l = l.take k ++ (l.getD k 0 :: l.drop (k + 1)) := by
            rw [getD_at l k 0 hkl, ← List.drop_eq_getElem_cons hkl, List.take_append_drop]
          have hall : W.must ++ W.should = (pre ++ l.take k) ++ (l.getD k 0 :: (l.drop (k + 1) ++ post)) := by
            rw [HN.out.2.2]
            conv => lhs; rw [hsplit]
            simp
          have hin : (Lit.int .i64 (l.getD k 0)).wf = true := HF.out _ (by rw [hall]; simp)
          have hlen : (pre ++ l.take k).length ≤ 3377699720527872 := by
            have := congrArg List.length hall
            simp only [List.length_append] at this ⊢
            omega
          have hnx : pre ++ l.take (k + 1) = (pre ++ l.take k) ++ [l.getD k 0] := by rw [htk, List.append_assoc]
          clear hsplit htk hx
          generalize pre ++ l.take k = seen at *
          generalize l.getD k 0 = x at *
          have hhas := has_seenS seen x
          have hkey : keyOf Tryd.prog 3 (.int .i64 x) = some (.int .i64 x) := keyOf_int_mk Tryd.underlying3 hin
          by_cases hxin : x ∈ seen
          · rw [decide_eq_true hxin] at hhas
            have hbad := okW_bad people seen (l.drop (k + 1) ++ post) x (.inr (.inr hxin))
            have HE := hide (And.intro hall (And.intro hbad (hC.alloc (.cells #[] 83)).b))
            clear hall hbad hnx hin hlen hok hxin
            go_wp2_with (first | (at_lookup; refine wpList_lookup_own_unit _ rfl _ _ 81 rfl 3 83 bkeyed Tryd.underlying81 (bzero _) (w.heap.size + 1) seen.length _ rfl hC.m _ _ rfl hkey ?_) | go_in)
            go_ret
            refine ⟨?_, HE.out.2.2⟩
            rw [← HV.out, HE.out.1, HE.out.2.1]; rfl
          · rw [decide_eq_false hxin] at hhas
            by_cases hx1 : x < 0
            · have hbad := okW_bad people seen (l.drop (k + 1) ++ post) x (.inl hx1)
              have HE := hide (And.intro hall (And.intro hbad (hC.alloc (.cells #[] 83)).b))
              clear hall hbad hnx hin hlen hok hxin
              go_wp2_with (first | (at_lookup; refine wpList_lookup_own_unit _ rfl _ _ 81 rfl 3 83 bkeyed Tryd.underlying81 (bzero _) (w.heap.size + 1) seen.length _ rfl hC.m _ _ rfl hkey ?_) | go_in)
              go_ret
              refine ⟨?_, HE.out.2.2⟩
              rw [← HV.out, HE.out.1, HE.out.2.1]; rfl
            · by_cases hx2 : people ≤ x
              · have hbad := okW_bad people seen (l.drop (k + 1) ++ post) x (.inr (.inl hx2))
                have HE := hide (And.intro hall (And.intro hbad (hC.alloc (.cells #[] 83)).b))
                clear hall hbad hnx hin hlen hok hxin
                go_wp2_with (first | (at_lookup; refine wpList_lookup_own_unit _ rfl _ _ 81 rfl 3 83 bkeyed Tryd.underlying81 (bzero _) (w.heap.size + 1) seen.length _ rfl hC.m _ _ rfl hkey ?_) | go_in)
                go_ret
                refine ⟨?_, HE.out.2.2⟩
                rw [← HV.out, HE.out.1, HE.out.2.1]; rfl
              · have hmore := okW_more people seen x hok (fun h => h.elim hx1 fun h => h.elim hx2 hxin)
                have HE := hide (And.intro hnx hmore)
                clear hall hnx hin hok hxin hmore
                go_wp2_with (first | (at_lookup; refine wpList_lookup_own_unit _ rfl _ _ 81 rfl 3 83 bkeyed Tryd.underlying81 (bzero _) (w.heap.size + 1) seen.length _ rfl hC.m _ _ rfl hkey ?_) | (at_mapUpdate; refine wpList_mapUpdate_own _ rfl _ _ _ 81 rfl 3 83 bkeyed Tryd.underlying81 (unitElem (H := Unit)) (w.heap.size + 1) seen.length _ rfl ((hC.alloc _).m) (by unfold maxLen; omega) _ _ _ rfl rfl hkey _ [] unitElem_mk ?_; intro w1 hm1 hg1) | go_in)
                go_roundw
                case rel => exact ⟨k + 1, by omega, by go_num, by rw [HE.out.1]; exact HE.out.2, by rw [HE.out.1]; exact (hC.alloc _).put hm1 hg1⟩
                case measure => simp [intOf]; omega
        · obtain rfl : k = l.length := by omega
          have hki : ¬ (l.length : Int) < l.length := by omega
          rw [List.take_length] at hok hC
          have HH := hide (And.intro hok hC)
          clear hok hC
          go_wp2
          go_roundw
          case rel => exact ⟨j + 1, by omega, by go_num, by rw [HN.out.2.1]; exact HH.out.1, by rw [HN.out.2.1]; exact HH.out.2⟩
          case measure => simp [intOf]; omega
    · obtain rfl : j = 2 := by omega
      have hji : ¬ ((2 : Nat) : Int) < 2 := by omega
      have hfl : ([W.must, W.should].take 2).flatten = W.must ++ W.should := by simp
      rw [hfl] at hok
      have HH := hide (And.intro hok hC.b)
      clear hok hC
      go_wp2
      go_ret
      refine ⟨?_, HH.out.2⟩
      rw [← HV.out, HH.out.1]; rfl
end Go.Proofs.YtabgoicholknoaaDoor
