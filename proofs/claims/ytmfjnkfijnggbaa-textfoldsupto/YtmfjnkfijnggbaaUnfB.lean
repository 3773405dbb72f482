/- The reference's Cuts, Unfold. -/
import Derived.Test.YtmfjnkfijnggbaaUnfM
import Derived.Test.YtmfjnkfijnggbaaTxlC
import Derived.Laws.OwnMore
import Derived.Deep.AppendLies
import Derived.Deep.CutRange
import Derived.Deep.Cut
namespace Go.Proofs.Ytmfjnkfijnggbaa
open Go.RowKit
set_option linter.unusedVariables false
set_option linter.unusedSimpArgs false

theorem drop_split (l : List UInt8) (f i : Nat) (h1 : f ≤ i) (h2 : i < l.length) : l.drop f = (l.drop f).take (i - f) ++ l[i] :: l.drop (i + 1) := by
  conv => lhs; rw [← List.take_append_drop (i - f) (l.drop f)]
  congr 1
  rw [List.drop_drop, show f + (i - f) = i by omega]
  exact List.drop_eq_getElem_cons h2
set_option maxRecDepth 100000 in
set_option maxHeartbeats 8000000 in
theorem cuts_any (s : ByteArray) (C : List (List UInt8)) (w : World) (h1 : s.size ≤ 100000000) (hC : Tl.Cts (Tl.tx s) C) :
    Calls Try.prog 12 #[.string s, .int .u8 10] w fun e w' => ∃ v L, e = .returned v ∧ SR w' w.heap.size v L ∧ txs L = C ∧ L.length ≤ s.size + 1 ∧ Below w.heap.size w w' := by
  have HC := hide hC
  clear hC
  go_enter Try.func12, Try.ntmps12
  go_wp2_with fail
  go_loopw [5, 6, 7] (fun v5 v6 v7 wr => ∃ (f i : Nat) (D : List ByteArray) (C' : List (List UInt8)), f ≤ i ∧ i ≤ s.size ∧ v6 = .int .i64 f ∧ v7 = .int .i64 i ∧ SR wr w.heap.size v5 D ∧ (10 : UInt8) ∉ ((Tl.tx s).drop f).take (i - f) ∧ Tl.Cts ((Tl.tx s).drop f) C' ∧ txs D ++ C' = C ∧ D.length ≤ f ∧ Below w.heap.size w wr) (fun _ _ v7 _ => s.size - (intOf v7).toNat)
  case atStart => exact ⟨0, 0, [], C, by omega, by omega, rfl, rfl, SR.nil _ _, by simp, HC.out, rfl, by simp, Below.refl _ _⟩
  case round =>
    obtain ⟨f, i, D, C', hfi, hi, rfl, rfl, hs, hno, hct, happ, hlen, hB⟩ := hrel
    obtain ⟨a5, l5, c5, rfl⟩ := ownr_form' hs
    by_cases hlt : i < s.size
    · have hii : (i : Int) < s.size := by omega
      have hi0 : (0 : Int) ≤ i := by omega
      have hf0 : (0 : Int) ≤ f := by omega
      have hf1 : (f : Int) ≤ i := by omega
      have hi2 : (i : Int) ≤ s.size := by omega
      have hsp := drop_split (Tl.tx s) f i hfi (by rw [Tl.tx_len]; exact hlt)
      rw [Tl.tx_getElem s i hlt] at hsp
      by_cases e10 : s[i] = 10
      · have e1 : ((s[i].toNat : Int) == 10) = true := by rw [e10]; rfl
        rw [e10] at hsp
        obtain ⟨L', hL', rfl⟩ := hct.inv_more hsp hno
        have hx : Hid (Tl.tx (s.extract f i) = ((Tl.tx s).drop f).take (i - f)) := Tl.tx_extract s f i
        have HA : Hid (txs (D ++ [s.extract f i]) ++ L' = C) := by
          show _ = _
          rw [← happ]
          unfold txs
          rw [List.map_append, List.map_cons, List.map_nil, hx.out, List.append_assoc]; rfl
        have HL' := hide hL'
        clear hsp hct hno happ hL' e10
        go_wp2_with (at_builtin; refine wpList_append_sr rfl (.tmp 19) (.tmp 24) rfl w.heap.size _ D [s.extract f i] rfl (hs.alloc _) ⟨wr.heap.size, 0, none⟩ 1 1 rfl rfl (one_newS wr _ (s.extract f i)) (by simp; omega) (by have := hB.size; simp; omega) ?_)
        intro v1 w1 hs1 hgrow hb1
        have hB1 : Below w.heap.size w w1 := (hB.alloc hB.size _).trans hb1
        obtain ⟨a2, l2, c2, rfl⟩ := ownr_form' hs1
        clear hgrow hb1 hs
        go_wp2
        go_roundw
        case rel => exact ⟨i + 1, i + 1, D ++ [s.extract f i], L', by omega, by omega, by go_num, by go_num, hs1, by simp, HL'.out, HA.out, by simp; omega, hB1⟩
        case measure => simp [intOf]; omega
      · have e1 : ((s[i].toNat : Int) == 10) = false := Tl.ne_int e10
        have hno2 : Hid ((10 : UInt8) ∉ ((Tl.tx s).drop f).take (i + 1 - f)) := by
          show _ ∉ _
          have : ((Tl.tx s).drop f).take (i + 1 - f) = ((Tl.tx s).drop f).take (i - f) ++ [s[i]] := by
            rw [show i + 1 - f = (i - f) + 1 by omega, List.take_add_one, List.getElem?_drop, show f + (i - f) = i by omega, List.getElem?_eq_getElem (by rw [Tl.tx_len]; exact hlt)]; rfl
          rw [this]
          intro hm
          rcases List.mem_append.1 hm with hm | hm
          · exact hno hm
          · exact e10 (List.mem_singleton.1 hm).symm
        clear hsp e10 hno
        go_wp2
        go_roundw
        case rel => exact ⟨f, i + 1, D, C', by omega, by omega, rfl, by go_num, hs, hno2.out, hct, happ, hlen, hB⟩
        case measure => simp [intOf]; omega
    · have hkn : i = s.size := by omega
      have hki : (s.size : Int) ≤ i := by omega
      subst hkn
      have hf0 : (0 : Int) ≤ f := by omega
      have hf1 : (f : Int) ≤ s.size := by omega
      have hx : Hid (Tl.tx (s.extract f s.size) = (Tl.tx s).drop f) := by
        show _ = _
        rw [Tl.tx_extract, List.take_of_length_le (by rw [List.length_drop, Tl.tx_len]; omega)]
      rw [List.take_of_length_le (by rw [List.length_drop, Tl.tx_len]; omega)] at hno
      have hC1 := hct.inv_last hno
      have HA : Hid (txs (D ++ [s.extract f s.size]) = C) := by
        show _ = _
        rw [← happ, hC1]
        unfold txs
        rw [List.map_append, List.map_cons, List.map_nil, hx.out]
      clear hC1 hno hct happ
      go_wp2_with (at_builtin; refine wpList_append_sr rfl (.tmp 28) (.tmp 32) rfl w.heap.size _ D [s.extract f s.size] rfl (hs.alloc _) ⟨wr.heap.size, 0, none⟩ 1 1 rfl rfl (one_newS wr _ (s.extract f s.size)) (by simp; omega) (by have := hB.size; simp; omega) ?_)
      intro v1 w1 hs1 hgrow hb1
      have hB1 : Below w.heap.size w w1 := (hB.alloc hB.size _).trans hb1
      obtain ⟨a2, l2, c2, rfl⟩ := ownr_form' hs1
      clear hgrow hb1 hs
      go_wp2
      go_ret
      exact ⟨_, _, rfl, hs1, HA.out, by simp; omega, hB1⟩
end Go.Proofs.Ytmfjnkfijnggbaa
