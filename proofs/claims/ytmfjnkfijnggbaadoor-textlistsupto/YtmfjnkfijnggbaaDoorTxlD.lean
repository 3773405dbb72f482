/- The reference's Items. -/
import Derived.Test.YtmfjnkfijnggbaaDoorTxlC
import Derived.Test.YtmfjnkfijnggbaaDoorTxlB
import Derived.Laws.OwnMore
import Derived.Deep.AppendLies
namespace Go.Proofs.YtmfjnkfijnggbaaDoor
open Go.RowKit
set_option linter.unusedVariables false
set_option linter.unusedSimpArgs false

theorem two_ext (s : ByteArray) (k : Nat) (h : k + 1 < s.size) : s.extract (k + 1) (k + 2) = Tl.str [s[k + 1]] := one_ext s (k + 1) h
/-- two cells of one's own -/
def B2 (w : World) (b : Nat) (x y : Value) : Prop := w.cell? ⟨b, 0, none⟩ = some x ∧ w.cell? ⟨b, 1, none⟩ = some y ∧ (∀ j, w.frozen? ⟨b, j, none⟩ = false)
theorem B2.lt {w : World} {b : Nat} {x y : Value} (h : B2 w b x y) : b < w.heap.size := World.block_lt_of_cell? _ _ h.1
theorem B2.at {w w' : World} {b : Nat} {x y : Value} (h : B2 w b x y) (e : w'.heap[b]? = w.heap[b]?) : B2 w' b x y :=
  ⟨(World.cell?_of_block (w := w) (a := ⟨b, 0, none⟩) e).trans h.1, (World.cell?_of_block (w := w) (a := ⟨b, 1, none⟩) e).trans h.2.1, fun j => (World.frozen?_of_block (w := w) (a := ⟨b, j, none⟩) e).trans (h.2.2 j)⟩
theorem B2.later {w w' : World} {b : Nat} {x y : Value} (h : B2 w b x y) (hb : Below w.heap.size w w') : B2 w' b x y := h.at (hb.block b h.lt)
theorem B2.set {w : World} {b : Nat} {x y : Value} (h : B2 w b x y) (u v : Value) : B2 ((w.setCell ⟨b, 0, none⟩ u).setCell ⟨b, 1, none⟩ v) b u v := by
  refine ⟨?_, ?_, fun j => by rw [World.frozen?_setCell, World.frozen?_setCell]; exact h.2.2 j⟩
  · rw [World.cell?_setCell_other _ _ _ _ (by simp)]; exact World.cell?_setCell_same _ _ _ h.1
  · exact World.cell?_setCell_same _ _ _ (by rw [World.cell?_setCell_other _ _ _ _ (by simp)]; exact h.2.1)
set_option maxHeartbeats 4000000 in
theorem fine_any (w : World) : Calls Tryd.prog 19 #[] w fun e w' => e = .returned (.agg #[.int .i64 0, .int .i64 (-1)]) ∧ Below w.heap.size w w' := by
  go_enter Tryd.func19, Tryd.ntmps19
  go_wp2
  exact bodyPost_ret (v := .agg #[.int .i64 0, .int .i64 (-1)]) (by simp [results, Tryd.results19, go_sem]) rfl ⟨rfl, (Below.refl _ w).alloc (Nat.le_refl _) _⟩
theorem str1_ne {x c : UInt8} (h : x ≠ c) : ((Tl.str [x]).toList == [c]) = false := by
  rw [ByteArray.toList_eq, beq_eq_false_iff_ne]
  intro e
  exact h (List.cons.inj e).1
theorem mono0' {w : World} {b b' : Nat} {e : TypeId} {s : Nat} {v : Value} {n : Nat} {xs : List Value} (h : w.ownsRow b e s v n xs) (hb : b' ≤ b) : w.ownsRow b' e s v n xs :=
  ⟨h.1, h.2.imp id fun ⟨g, cap, cur, h1, h2, h3⟩ => ⟨g, cap, cur, h1, Nat.le_trans hb h2, h3⟩⟩
/-- what the reference's Items answers -/
def RitP (R : Except Nat (List (List UInt8))) (base : Nat) (w : World) (e : Ending) (w' : World) : Prop :=
  (∃ v L, R = .ok (txs L) ∧ e = .returned (.tuple #[v, .agg #[.int .i64 0, .int .i64 (-1)]]) ∧ SR w' base v L ∧ L.length ≤ 1000000000 ∧ Below base w w') ∨
  (∃ i : Nat, R = .error i ∧ i ≤ 1000000000 ∧ e = .returned (.tuple #[.slice none 0 0, .agg #[.int .i64 5, .int .i64 i]]) ∧ Below base w w')
set_option maxRecDepth 100000 in
set_option maxHeartbeats 8000000 in
theorem ritems_any (s : ByteArray) (w : World) (h1 : s.size ≤ 100000000) :
    Calls Tryd.prog 6 #[.string s] w (RitP (Tl.run (Tl.tx s) 0 [] []) w.heap.size w) := by
  obtain ⟨R, hR⟩ : ∃ R, R = Tl.run (Tl.tx s) 0 [] [] := ⟨_, rfl⟩
  rw [← hR]
  replace hR := hide hR
  go_enter Tryd.func6, Tryd.ntmps6
  go_wp2_with fail
  go_loopw [4, 5] (fun v4 i wr => ∃ (k : Nat) (L : List ByteArray) (c : List UInt8), k ≤ s.size ∧ i = .int .i64 k ∧ SR wr (w.heap.size + 1) v4 (L ++ [Tl.str c]) ∧ R = Tl.run ((Tl.tx s).drop k) k (txs L) c ∧ L.length + c.length ≤ k ∧
    B2 wr w.heap.size (.int .i64 0) (.int .i64 0) ∧ Below w.heap.size w wr) (fun _ i _ => s.size - (intOf i).toNat)
  case atStart =>
    refine ⟨0, [], [], by omega, rfl, ?_, hR.out, by simp, ⟨by simp, by simp, fun j => by simp⟩, ((Below.refl _ w).alloc (Nat.le_refl _) _).alloc (by simp) _⟩
    exact ⟨rfl, .inr ⟨w.heap.size + 1, 1, #[.string ⟨#[]⟩], by simp, Nat.le_refl _, by simpa using heap_alloc_new (w.alloc (.cells #[.int .i64 0, .int .i64 0] 27)) _, Nat.le_refl 1, by unfold maxLen; omega, rfl, rfl⟩⟩
  case round =>
    obtain ⟨k, L, c, hk, rfl, hs, hrun, hlen, hr, hB⟩ := hrel
    have hsz := hB.size
    have hpos : 0 < (L ++ [Tl.str c]).length := by simp
    obtain ⟨g, cp, hv4, hg0, hg1⟩ := World.ownsRow.form hs hpos
    subst hv4
    have hln : (L ++ [Tl.str c]).length = L.length + 1 := by simp
    obtain ⟨r0, r1, rf⟩ := hr
    by_cases hlt : k < s.size
    · have hki : (k : Int) < s.size := by omega
      have hk0 : (0 : Int) ≤ k := by omega
      have hk1 : (k : Int) + 1 ≤ s.size := by omega
      have hk2 : (k : Int) ≤ (k : Int) + 1 := by omega
      have hk3 : ((k : Int) + 1).toNat = k + 1 := by omega
      have hr : B2 wr w.heap.size (.int .i64 0) (.int .i64 0) := ⟨r0, r1, rf⟩
      rw [Tl.drop_at s k hlt] at hrun
      have hx := one_ext s k hlt
      by_cases e59 : s[k] = 59
      · rw [e59] at hrun hx
        rw [Tl.run_sem] at hrun
        replace hx : s.extract k (k + 1) = ⟨#[59]⟩ := hx
        clear hs
        go_wp2
        have hr2 := hr.set (.int .i64 5) (.int .i64 k)
        have hB2 := (hB.setCell (p := ⟨w.heap.size, 0, none⟩) (Nat.le_refl _) (.int .i64 5)).setCell (p := ⟨w.heap.size, 1, none⟩) (Nat.le_refl _) (.int .i64 k)
        exact bodyPost_ret (v := .tuple #[.slice none 0 0, .agg #[.int .i64 5, .int .i64 k]]) (by simp [results, Tryd.results6, go_sem, hr2.1, hr2.2.1]) rfl (.inr ⟨k, hrun, by omega, rfl, hB2⟩)
      have q59 : ((Tl.str [s[k]]).toList == [59]) = false := str1_ne e59
      by_cases e44 : s[k] = 44
      · rw [e44] at hrun hx
        rw [Tl.run_com] at hrun
        replace hx : s.extract k (k + 1) = ⟨#[44]⟩ := hx
        clear q59
        go_wp2_with (at_builtin; refine wpList_append_sr rfl (.tmp 26) (.tmp 27) rfl (w.heap.size + 1) _ (L ++ [Tl.str c]) [⟨#[]⟩] rfl (hs.alloc _) ⟨wr.heap.size, 0, none⟩ 1 1 rfl rfl (one_newS wr _ ⟨#[]⟩) (by simp; omega) (by simp; omega) ?_)
        intro v1 w1 hs1 hgrow hb1
        have hB1 : Below w.heap.size w w1 := (hB.alloc hB.size _).trans (hb1.mono (by omega))
        have hr1 : B2 w1 w.heap.size (.int .i64 0) (.int .i64 0) := (hr.later ((Below.refl _ wr).alloc (Nat.le_refl _) _)).at (hgrow.block _ (by simp; omega) (by simp [Value.ownBlock]; omega))
        obtain ⟨a2, l2, c2, rfl⟩ := ownr_form' hs1
        have HS1 := hide (show SR w1 (w.heap.size + 1) (.slice a2 l2 c2) ((L ++ [Tl.str c]) ++ [Tl.str []]) by rw [List.append_assoc]; exact hs1)
        clear hgrow hb1 hs hr r0 r1 rf hs1
        go_wp2
        go_roundw
        case rel => exact ⟨k + 1, L ++ [Tl.str c], [], by omega, by go_num, HS1.out, by rw [hrun, txs_snoc], by simp; omega, hr1, hB1⟩
        case measure => simp [intOf]; omega
      have q44 : ((Tl.str [s[k]]).toList == [44]) = false := str1_ne e44
      -- what is put at the end of the last text
      have hst (x : UInt8) : SR (wr.setCell ⟨g, L.length, none⟩ (.string (Tl.str c ++ Tl.str [x]))) (w.heap.size + 1) (.slice (some ⟨g, 0, none⟩) (L ++ [Tl.str c]).length cp) (L ++ [Tl.str (c ++ [x])]) ∧ B2 (wr.setCell ⟨g, L.length, none⟩ (.string (Tl.str c ++ Tl.str [x]))) w.heap.size (.int .i64 0) (.int .i64 0) ∧ Below w.heap.size w (wr.setCell ⟨g, L.length, none⟩ (.string (Tl.str c ++ Tl.str [x]))) := by
        refine ⟨?_, hr.at (Below.heap_setCell _ _ _ _ (by show w.heap.size ≠ g; omega)), hB.setCell (p := ⟨g, L.length, none⟩) (by show w.heap.size ≤ g; omega) _⟩
        have h := (World.ownsRow.stored hs L.length (.string (Tl.str c ++ Tl.str [x]))).1
        have e1 : (strs' (L ++ [Tl.str c])).set L.length (.string (Tl.str c ++ Tl.str [x])) = strs' (L ++ [Tl.str (c ++ [x])]) := by
          rw [strs_app', strs_app', ← strs_len' L, List.set_append_right _ _ (Nat.le_refl _), Nat.sub_self, Tl.str_app]; rfl
        rw [e1] at h
        have e2 : (L ++ [Tl.str (c ++ [x])]).length = (L ++ [Tl.str c]).length := by simp
        unfold SR
        rw [e2]
        exact h
      have hcell : wr.cell? ⟨g, L.length, none⟩ = some (.string (Tl.str c)) := by
        have := World.ownsRow.cellAt hs L.length (by simp)
        rw [this, strs_app', ← strs_len' L, List.getElem?_append_right (Nat.le_refl _), Nat.sub_self]; rfl
      have hfr : wr.frozen? ⟨g, L.length, none⟩ = false := World.ownsRow.frozenAt hs L.length
      have hn1 : (0 : Int) ≤ ((L ++ [Tl.str c]).length : Int) - 1 := by omega
      have hn2 : ((L ++ [Tl.str c]).length : Int) - 1 < ((L ++ [Tl.str c]).length : Int) := by omega
      have hn3 : (((L ++ [Tl.str c]).length : Int) - 1).toNat = L.length := by omega
      have hsc : (Tl.str c).size ≤ 100000000 := by rw [Tl.str_size]; omega
      have hs1 (x : UInt8) : (Tl.str [x]).size = 1 := rfl
      clear hs
      generalize (L ++ [Tl.str c]).length = n at *
      by_cases e92 : s[k] = 92
      · rw [e92] at hrun hx
        replace hx : s.extract k (k + 1) = ⟨#[92]⟩ := hx
        clear q59 q44 e59 e44 e92
        by_cases hl2 : k + 1 < s.size
        · have hm1 : (k : Int) + 1 < s.size := by omega
          have hm2 : (k : Int) + 2 ≤ s.size := by omega
          have hm3 : (k : Int) + 1 ≤ (k : Int) + 2 := by omega
          have hm4 : ((k : Int) + 2).toNat = k + 2 := by omega
          have hm5 : (0 : Int) ≤ (k : Int) + 1 := by omega
          have hx2 := two_ext s k hl2
          rw [Tl.drop_at s (k + 1) hl2] at hrun
          have Hk := hide hl2
          generalize s[k + 1] = d at *
          rcases Tl.un_cases d with ⟨h1, hu⟩ | ⟨h1, hu⟩ | ⟨⟨n1, n2, n3, n4, n5⟩, hu⟩
          · replace hrun := hrun.trans (Tl.run_esc hu _ _ _ _)
            obtain ⟨o1, o2, o3⟩ := hst d
            have Hr := hide hrun
            clear hrun hu hst hl2
            rcases h1 with h1 | h1 | h1
            all_goals
              have z1 : (Tl.str c).size + (Tl.str [d]).size ≤ 300000000 := by rw [hs1]; omega
              subst h1
              clear hs1
              unfold Tl.str at *
              go_wp2
              go_roundw
              case rel => exact ⟨k + 2, L, c ++ [_], by have := Hk.out; omega, by go_num, o1, Hr.out, by simp; omega, o2, o3⟩
              case measure => simp [intOf]; omega
          · replace hrun := hrun.trans (Tl.run_esc hu _ _ _ _)
            obtain ⟨o1, o2, o3⟩ := hst 10
            have Hr := hide hrun
            have z1 := hs1 10
            replace z1 : (Tl.str c).size + (Tl.str [10]).size ≤ 300000000 := by rw [z1]; omega
            clear hrun hu hst hl2 hs1
            rcases h1 with h1 | h1
            all_goals
              rw [h1] at hx2
              clear h1
              unfold Tl.str at *
              go_wp2
              go_roundw
              case rel => exact ⟨k + 2, L, c ++ [10], by have := Hk.out; omega, by go_num, o1, Hr.out, by simp; omega, o2, o3⟩
              case measure => simp [intOf]; omega
          · replace hrun := hrun.trans (Tl.run_bad hu _ _ _ _)
            have m1 : ((Tl.str [d]).toList == [92]) = false := str1_ne n1
            have m2 : ((Tl.str [d]).toList == [44]) = false := str1_ne n2
            have m3 : ((Tl.str [d]).toList == [59]) = false := str1_ne n3
            have m4 : ((Tl.str [d]).toList == [110]) = false := str1_ne n4
            have m5 : ((Tl.str [d]).toList == [78]) = false := str1_ne n5
            have Hr := hide hrun
            clear hrun hu hst hl2 hs1 n1 n2 n3 n4 n5
            generalize Tl.str [d] = X at *
            go_wp2
            have hr2 := hr.set (.int .i64 5) (.int .i64 k)
            have hB2 := (hB.setCell (p := ⟨w.heap.size, 0, none⟩) (Nat.le_refl _) (.int .i64 5)).setCell (p := ⟨w.heap.size, 1, none⟩) (Nat.le_refl _) (.int .i64 k)
            exact bodyPost_ret (v := .tuple #[.slice none 0 0, .agg #[.int .i64 5, .int .i64 k]]) (by simp [results, Tryd.results6, go_sem, hr2.1, hr2.2.1]) rfl (.inr ⟨k, Hr.out, by omega, rfl, hB2⟩)
        · have hm1 : ¬ (k : Int) + 1 < s.size := by omega
          rw [List.drop_of_length_le (by rw [Tl.tx_len]; omega), Tl.run_end] at hrun
          have Hr := hide hrun
          clear hrun hst hl2 hs1
          · go_wp2
            have hr2 := hr.set (.int .i64 5) (.int .i64 k)
            have hB2 := (hB.setCell (p := ⟨w.heap.size, 0, none⟩) (Nat.le_refl _) (.int .i64 5)).setCell (p := ⟨w.heap.size, 1, none⟩) (Nat.le_refl _) (.int .i64 k)
            exact bodyPost_ret (v := .tuple #[.slice none 0 0, .agg #[.int .i64 5, .int .i64 k]]) (by simp [results, Tryd.results6, go_sem, hr2.1, hr2.2.1]) rfl (.inr ⟨k, Hr.out, by omega, rfl, hB2⟩)
      have q92 : ((Tl.str [s[k]]).toList == [92]) = false := str1_ne e92
      rw [Tl.run_any e44 e59 e92] at hrun
      obtain ⟨o1, o2, o3⟩ := hst s[k]
      have z1 : (Tl.str c).size + (Tl.str [s[k]]).size ≤ 300000000 := by rw [hs1]; omega
      have Hr := hide hrun
      clear e44 e59 e92 hs1 hst hrun
      generalize Tl.str [s[k]] = X at *
      go_wp2
      go_roundw
      case rel => exact ⟨k + 1, L, c ++ [s[k]], by omega, by go_num, o1, Hr.out, by simp; omega, o2, o3⟩
      case measure => simp [intOf]; omega
    · have hkn : k = s.size := by omega
      have hki : (s.size : Int) ≤ k := by omega
      subst hkn
      have hr : B2 wr w.heap.size (.int .i64 0) (.int .i64 0) := ⟨r0, r1, rf⟩
      rw [List.drop_of_length_le (by rw [Tl.tx_len]; omega), Tl.run, ← txs_snoc] at hrun
      clear r0 r1 rf
      go_wp2_with fail
      refine (fine_any _).mono ?_
      rintro e W1 ⟨rfl, hb1⟩
      have hr1 := hr.later hb1
      have hs1 := hs.later hb1
      have hB1 := hB.trans (hb1.mono hB.size)
      obtain ⟨r0, r1, rf⟩ := hr1
      have hr2 := B2.set ⟨r0, r1, rf⟩ (.int .i64 0) (.int .i64 (-1))
      have hB2 := (hB1.setCell (p := ⟨w.heap.size, 0, none⟩) (Nat.le_refl _) (.int .i64 0)).setCell (p := ⟨w.heap.size, 1, none⟩) (Nat.le_refl _) (.int .i64 (-1))
      have hs2 : SR ((W1.setCell ⟨w.heap.size, 0, none⟩ (.int .i64 0)).setCell ⟨w.heap.size, 1, none⟩ (.int .i64 (-1))) (w.heap.size + 1) (.slice (some ⟨g, 0, none⟩) (L ++ [Tl.str c]).length cp) (L ++ [Tl.str c]) := ownsRow_setCell_below (ownsRow_setCell_below hs1 (a := ⟨w.heap.size, 0, none⟩) (by show w.heap.size < _; omega) _) (a := ⟨w.heap.size, 1, none⟩) (by show w.heap.size < _; omega) _
      clear hs hs1 hr
      go_wp2
      exact bodyPost_ret (v := .tuple #[.slice (some ⟨g, 0, none⟩) (L ++ [Tl.str c]).length cp, .agg #[.int .i64 0, .int .i64 (-1)]]) (by simp [results, Tryd.results6, go_sem, hr2.1, hr2.2.1]) rfl (.inl ⟨_, _, hrun, rfl, mono0' hs2 (by omega), by simp; omega, hB2⟩)
end Go.Proofs.YtmfjnkfijnggbaaDoor
