/- The reference's Escape, JoinList. -/
import Derived.Test.YtmfjnkfijnggbaaDoorTxlA
namespace Go.Proofs.YtmfjnkfijnggbaaDoor
open Go.RowKit
set_option linter.unusedVariables false
set_option linter.unusedSimpArgs false

theorem one_ext (s : ByteArray) (k : Nat) (h : k < s.size) : s.extract k (k + 1) = Tl.str [s[k]] := by
  apply Tl.tx_inj
  rw [Tl.tx_extract, Tl.tx_str]
  have : (Tl.tx s).drop k = s[k] :: (Tl.tx s).drop (k + 1) := by rw [← Tl.tx_getElem s k h, ← List.drop_eq_getElem_cons]
  rw [this, show k + 1 - k = 1 by omega]; rfl
theorem nil_app (S : ByteArray) : (⟨#[]⟩ : ByteArray) ++ S = S := Tl.tx_inj (by rw [Tl.tx_app]; rfl)
set_option maxRecDepth 100000 in
set_option maxHeartbeats 4000000 in
theorem resc_any (s : ByteArray) (w : World) (h2 : s.size ≤ 100000000) :
    Calls Tryd.prog 8 #[.string s] w fun e w' => e = .returned (.string (Tl.str (Tl.esc (Tl.tx s)))) ∧ Below w.heap.size w w' := by
  go_enter Tryd.func8, Tryd.ntmps8
  go_wp2_with fail
  go_loopw [3, 4] (fun v i wr => ∃ k : Nat, k ≤ s.size ∧ i = .int .i64 k ∧ v = .string (Tl.str (Tl.esc ((Tl.tx s).take k))) ∧ Below w.heap.size w wr) (fun _ i _ => s.size - (intOf i).toNat)
  case atStart => exact ⟨0, by omega, rfl, rfl, Below.refl _ _⟩
  case round =>
    obtain ⟨k, hk, rfl, rfl, hB⟩ := hrel
    by_cases hlt : k < s.size
    · have hki : (k : Int) < s.size := by omega
      have hk0 : (0 : Int) ≤ k := by omega
      have hT : Hid (Tl.str (Tl.esc ((Tl.tx s).take (k + 1))) = Tl.str (Tl.esc ((Tl.tx s).take k)) ++ Tl.str (Tl.escB s[k])) := by
        show _ = _
        rw [Tl.tx_take_succ s k hlt, Tl.esc_snoc, Tl.str_app]
      have hL : (Tl.str (Tl.esc ((Tl.tx s).take k))).size ≤ 200000000 := by
        have := Tl.esc_len ((Tl.tx s).take k)
        rw [List.length_take, Tl.tx_len] at this
        rw [Tl.str_size]
        omega
      have hx := one_ext s k hlt
      have hk1 : (k : Int) + 1 ≤ s.size := by omega
      have hk2 : (k : Int) ≤ (k : Int) + 1 := by omega
      have hk3 : ((k : Int) + 1).toNat = k + 1 := by omega
      generalize Tl.str (Tl.esc ((Tl.tx s).take k)) = E at *
      rcases Tl.byte_cases s[k] with e | e | e | e | e
      · rw [e] at hT hx
        replace hx : s.extract k (k + 1) = ⟨#[92]⟩ := hx
        have q1 : ((⟨#[92]⟩ ++ ⟨#[92]⟩ : ByteArray).toList == [10]) = false := by rw [ByteArray.toList_eq]; rfl
        have z1 : (⟨#[92]⟩ : ByteArray).size + (⟨#[92]⟩ : ByteArray).size ≤ 10 := by decide
        have z2 : E.size + (⟨#[92]⟩ ++ ⟨#[92]⟩ : ByteArray).size ≤ 300000000 := by rw [ByteArray.size_append]; omega
        clear e
        go_wp2
        go_roundw
        case rel => exact ⟨k + 1, by omega, by go_num, by first | (rw [hT.out]; done) | (rw [hT.out]; rfl), hB⟩
        case measure => simp [intOf]; omega
      · rw [e] at hT hx
        replace hx : s.extract k (k + 1) = ⟨#[44]⟩ := hx
        have q1 : ((⟨#[92]⟩ ++ ⟨#[44]⟩ : ByteArray).toList == [10]) = false := by rw [ByteArray.toList_eq]; rfl
        have z1 : (⟨#[92]⟩ : ByteArray).size + (⟨#[44]⟩ : ByteArray).size ≤ 10 := by decide
        have z2 : E.size + (⟨#[92]⟩ ++ ⟨#[44]⟩ : ByteArray).size ≤ 300000000 := by rw [ByteArray.size_append]; omega
        clear e
        go_wp2
        go_roundw
        case rel => exact ⟨k + 1, by omega, by go_num, by first | (rw [hT.out]; done) | (rw [hT.out]; rfl), hB⟩
        case measure => simp [intOf]; omega
      · rw [e] at hT hx
        replace hx : s.extract k (k + 1) = ⟨#[59]⟩ := hx
        have q1 : ((⟨#[92]⟩ ++ ⟨#[59]⟩ : ByteArray).toList == [10]) = false := by rw [ByteArray.toList_eq]; rfl
        have z1 : (⟨#[92]⟩ : ByteArray).size + (⟨#[59]⟩ : ByteArray).size ≤ 10 := by decide
        have z2 : E.size + (⟨#[92]⟩ ++ ⟨#[59]⟩ : ByteArray).size ≤ 300000000 := by rw [ByteArray.size_append]; omega
        clear e
        go_wp2
        go_roundw
        case rel => exact ⟨k + 1, by omega, by go_num, by first | (rw [hT.out]; done) | (rw [hT.out]; rfl), hB⟩
        case measure => simp [intOf]; omega
      · rw [e] at hT hx
        replace hx : s.extract k (k + 1) = ⟨#[10]⟩ := hx
        have z2 : E.size + (⟨#[92, 110]⟩ : ByteArray).size ≤ 300000000 := by have : (⟨#[92, 110]⟩ : ByteArray).size = 2 := rfl; omega
        clear e
        go_wp2
        go_roundw
        case rel => exact ⟨k + 1, by omega, by go_num, by first | (rw [hT.out]; done) | (rw [hT.out]; rfl), hB⟩
        case measure => simp [intOf]; omega
      · obtain ⟨n1, n2, n3, n4⟩ := e
        have HE : Hid (Tl.escB s[k] = [s[k]]) := by
          show _ = _
          unfold Tl.escB
          rw [if_neg (by simp [n1, n2, n3]), if_neg n4]
        rw [HE.out] at hT
        generalize s[k] = x at *
        have q (c : UInt8) (h : x ≠ c) : ((Tl.str [x]).toList == [c]) = false := by
          rw [ByteArray.toList_eq, beq_eq_false_iff_ne]
          intro e
          exact h (List.cons.inj e).1
        have q1 := q _ n1
        have q2 := q _ n2
        have q3 := q _ n3
        have q4 := q _ n4
        clear q n1 n2 n3 n4 HE
        have z2 : E.size + (Tl.str [x]).size ≤ 300000000 := by have : (Tl.str [x]).size = 1 := rfl; omega
        generalize Tl.str [x] = X at *
        go_wp2
        go_roundw
        case rel => exact ⟨k + 1, by omega, by go_num, by first | (rw [hT.out]; done) | (rw [hT.out]; rfl), hB⟩
        case measure => simp [intOf]; omega
    · have hkn : k = s.size := by omega
      have hki : (s.size : Int) ≤ k := by omega
      subst hkn
      rw [show (Tl.tx s).take s.size = Tl.tx s by rw [← Tl.tx_len, List.take_length]]
      go_wp2
      go_ret
      exact ⟨rfl, hB⟩
set_option maxRecDepth 100000 in
set_option maxHeartbeats 4000000 in
theorem rjoin_any (a : Option Addr) (c : Nat) (L : List ByteArray) (w : World) (h : SL a L w) (h1 : L.length ≤ 100000000) (h2 : Tl.total (txs L) ≤ 10000000) :
    Calls Tryd.prog 10 #[.slice a L.length c] w fun e w' => e = .returned (.string (Tl.str (Tl.joinE (txs L)))) ∧ Below w.heap.size w w' := by
  have HL := hide h
  have HZ : Hid (∀ k, (Tl.joinE ((txs L).take k)).length ≤ 130000000) := fun k => by
    have := Tl.joinE_len ((txs L).take k)
    have := Tl.total_take (txs L) k
    have : ((txs L).take k).length ≤ L.length := by rw [List.length_take, txs_len]; omega
    omega
  have HK := hide (fun W k (hk : k < L.length) => by
    have hz := size_le_total L k hk
    exact resc_any L[k] W (by omega))
  clear h
  go_enter Tryd.func10, Tryd.ntmps10
  go_wp2_with fail
  go_loopw [3, 4] (fun v i wr => ∃ k : Nat, k ≤ L.length ∧ i = .int .i64 k ∧ v = .string (Tl.str (Tl.joinE ((txs L).take k))) ∧ Below w.heap.size w wr) (fun _ i _ => L.length - (intOf i).toNat)
  case atStart => exact ⟨0, by omega, rfl, rfl, Below.refl _ _⟩
  case round =>
    obtain ⟨k, hk, rfl, rfl, hB⟩ := hrel
    by_cases hlt : k < L.length
    · have hki : (k : Int) < L.length := by omega
      have hk0 : (0 : Int) ≤ k := by omega
      obtain ⟨ad, rfl, hc⟩ := (HL.out.later hB) k hlt
      have hT := Tl.joinE_snoc ((txs L).take k) (Tl.tx L[k])
      rw [← txs_take L k hlt] at hT
      have hz := HZ.out k
      have he : (Tl.str (Tl.esc (Tl.tx L[k]))).size ≤ 20000000 := by
        have := Tl.esc_len (Tl.tx L[k])
        have := size_le_total L k hlt
        rw [Tl.tx_len] at *
        rw [Tl.str_size]; omega
      have K := hide (fun W => HK.out W k hlt)
      by_cases h0 : k = 0
      · subst h0
        rw [if_pos (by simp), List.nil_append] at hT
        have HT := hide (congrArg Tl.str hT)
        clear hT
        rw [show Tl.joinE ((txs L).take 0) = [] from rfl, show Tl.str [] = ⟨#[]⟩ from rfl]
        rw [show ad.add 0 = ad from rfl] at hc
        generalize L[0] = s at *
        generalize Tl.str (Tl.esc (Tl.tx s)) = S at *
        have z2 : (⟨#[]⟩ : ByteArray).size + S.size ≤ 300000000 := by show 0 + _ ≤ _; omega
        go_wp2_with fail
        refine (K.out _).mono ?_
        rintro e W1 ⟨rfl, hb1⟩
        go_wp2
        go_roundw
        case rel => exact ⟨1, by omega, by go_num, by rw [HT.out, nil_app], hB.trans (hb1.mono hB.size)⟩
        case measure => simp [intOf]; omega
      · rw [if_neg (by
          intro e
          have := congrArg List.length e
          rw [List.length_take, txs_len] at this
          simp only [List.length_nil] at this
          omega)] at hT
        have HT : Hid (Tl.str (Tl.joinE ((txs L).take (k + 1))) = Tl.str (Tl.joinE ((txs L).take k)) ++ ⟨#[44]⟩ ++ Tl.str (Tl.esc (Tl.tx L[k]))) := by
          show _ = _
          rw [hT, Tl.str_app, Tl.str_app]; rfl
        clear hT
        have hki2 : (0 : Int) < k := by omega
        have z0 : (Tl.str (Tl.joinE ((txs L).take k))).size ≤ 130000000 := by rw [Tl.str_size]; exact hz
        generalize L[k] = s at *
        generalize Tl.str (Tl.esc (Tl.tx s)) = S at *
        generalize Tl.str (Tl.joinE ((txs L).take k)) = E at *
        have q1 : (⟨#[44]⟩ : ByteArray).size = 1 := rfl
        have z1 : E.size + (⟨#[44]⟩ : ByteArray).size ≤ 300000000 := by omega
        have z2 : E.size + (⟨#[44]⟩ : ByteArray).size + S.size ≤ 300000000 := by omega
        go_wp2_with fail
        refine (K.out _).mono ?_
        rintro e W1 ⟨rfl, hb1⟩
        go_wp2
        go_roundw
        case rel => exact ⟨k + 1, by omega, by go_num, by rw [HT.out], hB.trans (hb1.mono hB.size)⟩
        case measure => simp [intOf]; omega
    · have hkn : k = L.length := by omega
      have hki : (L.length : Int) ≤ k := by omega
      subst hkn
      rw [show (txs L).take L.length = txs L by rw [← txs_len, List.take_length]]
      go_wp2
      go_ret
      exact ⟨rfl, hB⟩
end Go.Proofs.YtmfjnkfijnggbaaDoor
