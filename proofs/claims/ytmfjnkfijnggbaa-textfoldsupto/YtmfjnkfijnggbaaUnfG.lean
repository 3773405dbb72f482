/- Lists held against each other; package plain: TextFold, TextUnfold; the law TextFolds. -/
import Derived.Test.YtmfjnkfijnggbaaUnfF
import Derived.Test.YtmfjnkfijnggbaaFldB
namespace Go.Proofs.Ytmfjnkfijnggbaa
open Go.RowKit
set_option linter.unusedVariables false
set_option linter.unusedSimpArgs false

set_option maxRecDepth 100000 in
set_option maxHeartbeats 4000000 in
theorem list_same' (a b : Option Addr) (c d : Nat) (L : List ByteArray) (w : World) (h : SL a L w) (h2 : SL b L w) (h1 : L.length ≤ 1000000000) :
    Calls Try.prog 6 #[.slice a L.length c, .slice b L.length d] w fun e w' => e = .returned (.bool true) ∧ Below w.heap.size w w' := by
  have HA := hide h
  have HB := hide h2
  clear h h2
  go_enter Try.func6, Try.ntmps6
  go_wp2_with fail
  go_loopw [5] (fun i wr => ∃ k : Nat, k ≤ L.length ∧ i = .int .i64 k ∧ Below w.heap.size w wr) (fun i _ => L.length - (intOf i).toNat)
  case atStart => exact ⟨0, by omega, rfl, Below.refl _ _⟩
  case round =>
    obtain ⟨k, hk, rfl, hB⟩ := hrel
    by_cases hlt : k < L.length
    · have hki : (k : Int) < L.length := by omega
      have hk0 : (0 : Int) ≤ k := by omega
      obtain ⟨ad, rfl, hc⟩ := (HA.out.later hB) k hlt
      obtain ⟨bd, rfl, hd⟩ := (HB.out.later hB) k hlt
      generalize L[k] = s at *
      go_wp2_with fail
      go_quiet (fail)
      go_wp2
      go_roundw
      case rel => exact ⟨k + 1, by omega, by go_num, ⟨hB.os, hB.tape, hB.output, hB.size, hB.block⟩⟩
      case measure => simp [intOf]; omega
    · have hkn : k = L.length := by omega
      have hki : (L.length : Int) ≤ k := by omega
      subst hkn
      go_wp2
      go_ret
      exact ⟨rfl, hB⟩
theorem txs_inj' {L M : List ByteArray} (h : txs L = txs M) : L = M := by
  have e := congrArg (List.map Tl.str) h
  unfold txs at e
  rw [List.map_map, List.map_map] at e
  have hid : (Tl.str ∘ Tl.tx) = id := funext fun s => Tl.str_tx s
  rw [hid, List.map_id, List.map_id] at e
  exact e
theorem pfold_any (s : ByteArray) (o : List UInt8) (w : World) (h1 : s.size ≤ 100000000) (ho : Tl.Fld 75 (Tl.tx s) o) (hol : o.length ≤ 1000000000) :
    Calls Try.prog 4 #[.string s] w fun e w' => e = .returned (.string (Tl.str o)) ∧ Below w.heap.size w w' := by
  have K := hide (fun W => fold_any s o W h1 ho hol)
  clear ho
  go_enter Try.func4, Try.ntmps4
  go_wp2_with fail
  refine (K.out _).mono ?_
  rintro e W ⟨rfl, hb⟩
  go_wp2
  go_ret
  exact ⟨rfl, hb⟩
theorem punfold_any (s : ByteArray) (C : List (List UInt8)) (w : World) (h1 : s.size ≤ 10000000) (hC : Tl.Cts (Tl.tx s) C) (hC3 : Tl.total C ≤ 10000000) :
    Calls Try.prog 7 #[.string s] w fun e w' => ∃ v L, e = .returned v ∧ SR w' w.heap.size v L ∧ txs L = Tl.unf [] (Tl.strip C) ∧ L.length ≤ 10000001 ∧ Below w.heap.size w w' := by
  have K := hide (fun W => unfold_any s C W h1 hC hC3)
  clear hC
  go_enter Try.func7, Try.ntmps7
  go_wp2_with fail
  refine (K.out _).mono ?_
  rintro e W ⟨v, L, rfl, hs, hL, hl, hb⟩
  obtain ⟨a, l, c, rfl⟩ := ownr_form' hs
  go_wp2
  go_ret
  exact ⟨_, L, rfl, hs, hL, hl, hb⟩
set_option maxRecDepth 100000 in
set_option maxHeartbeats 8000000 in
theorem textfolds_walk (s t : ByteArray) (w : World) (h1 : s.size ≤ 2000000) (h2 : t.size ≤ 2000000) :
    Calls Try.prog 3 #[.string s, .string t] w fun e w' => e = .returned (.bool true) ∧ Below w.heap.size w w' := by
  obtain ⟨o, ho, hol⟩ := Tl.Fld.ex (Tl.tx s).length (Tl.tx s) 75 (Nat.le_refl _) (by omega)
  obtain ⟨C, hC, hC2, hC3⟩ := Tl.Cts.ex (Tl.tx t).length (Tl.tx t) (Nat.le_refl _)
  rw [Tl.tx_len] at hol hC2 hC3
  have K1 := hide (fun W => pfold_any s o W (by omega) ho (by omega))
  have K2 := hide (fun W => rfold_any s o W (by omega) ho (by omega))
  have K3 := hide (fun W => punfold_any t C W (by omega) hC (by omega))
  have K4 := hide (fun W => runfold_any t C W (by omega) hC (by omega) (by omega))
  generalize Tl.str o = O at *
  clear ho hol hC hC2 hC3 h1 h2
  go_enter Try.func3, Try.ntmps3
  go_wp2_with fail
  refine (K1.out _).mono ?_
  rintro e W1 ⟨rfl, b1⟩
  go_wp2_with fail
  refine (K2.out _).mono ?_
  rintro e W2 ⟨rfl, b2⟩
  have hB := b1.trans (b2.mono b1.size)
  clear b1 b2
  go_wp2_with fail
  refine (K3.out _).mono ?_
  rintro e W3 ⟨v, L, rfl, hs, hL, hl, b3⟩
  replace hB := hB.trans (b3.mono hB.size)
  obtain ⟨a, c, rfl, hsl⟩ := SR.sl' hs
  clear b3 hs
  go_wp2_with fail
  refine (K4.out _).mono ?_
  rintro e W4 ⟨v2, L2, rfl, hs2, hL2, hl2, b4⟩
  obtain rfl : L = L2 := txs_inj' (hL.trans hL2.symm)
  replace hB := hB.trans (b4.mono hB.size)
  obtain ⟨a2, c2, rfl, hsl2⟩ := SR.sl' hs2
  have hsl' := hsl.later b4
  clear b4 hs2 hsl
  go_wp2_with fail
  refine (list_same' a a2 c c2 L _ hsl' hsl2 (by omega)).mono ?_
  rintro e W5 ⟨rfl, b5⟩
  replace hB := hB.trans (b5.mono hB.size)
  go_wp2
  go_ret
  exact ⟨by first | rfl | simp, hB⟩
end Go.Proofs.Ytmfjnkfijnggbaa
