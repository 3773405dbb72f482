/- package clock: yearText, Text; the reference's Pad. -/
import Derived.Test.YtafaacliphdndaaGreatDoorMClockBack15
import Derived.Test.YtafaacliphdndaaGreatDoorSh
import Derived.Test.YtafaacliphdndaaGreatDoorMClockBack1
import Derived.Test.YtafaacliphdndaaGreatDoorMClockBack3
import Derived.Lib.AppendIntMem
namespace Go.Proofs.YtafaacliphdndaaGreatDoor
open Go.RowKit Go.Shelf
set_option linter.unusedVariables false
set_option linter.unusedSimpArgs false

theorem itoa_any (n : Nat) (W : World) (ht : Tab W) (hn : n < 1000000) :
    Calls Tryz.prog 58 #[.int .i64 n] W fun e W' => e = .returned (.string ⟨(Lib.decDigits n).toArray⟩) ∧ Below W.heap.size W W' :=
  (Tryz.strconv_Itoa (n : Int) (by omega) (by omega) W ht).mono fun e W' ⟨he, k, os, hw⟩ => ⟨by rw [he, Lib.itoa_nonneg], by rw [hw]; exact Lib.below_grow _ _ (Nat.le_refl _) k os⟩
theorem repeat0 (s : ByteArray) (hs : s.data.toList = [48]) (c : Nat) (hc : c ≤ 10) (W : World) :
    Calls Tryz.prog 82 #[.string s, .int .i64 c] W fun e W' => e = .returned (.string ⟨(Lib.repeatL s.data.toList c).toArray⟩) ∧ Below W.heap.size W W' := by
  have h1 : s.size = 1 := by rw [Lib.size_eq, hs]; rfl
  exact Tryz.strings_Repeat s c W (by omega) (by rw [h1]; omega)
set_option maxHeartbeats 1600000 in
theorem digits_any (n w : Nat) (W : World) (ht : Tab W) (hn : n < 1000000) (hw : w ≤ 6) :
    Calls Tryz.prog 57 #[.int .i64 n, .int .i64 w] W fun e W' => e = .returned (.string (Tx.pad n w)) ∧ Below W.heap.size W W' := by
  have K1 := hide (itoa_any n W ht hn)
  have d0 := Lib.nDigits_pos n
  have d1 : Lib.nDigits n ≤ 6 := Tx.ndig_le n 6 (by omega) (by omega)
  have hz := Tx.digits_size n
  have hp := hide (fun c s hs hc => Tx.pad_of n w c s hs hc)
  generalize (⟨(Lib.decDigits n).toArray⟩ : ByteArray) = D at *
  generalize Lib.nDigits n = N at *
  have hr := fun (s : ByteArray) (hs : s.data.toList = [48]) (c : Nat) => show (⟨(Lib.repeatL s.data.toList c).toArray⟩ : ByteArray).size = c from by
    rw [Lib.size_eq]
    show (Lib.repeatL s.data.toList c).length = c
    rw [Lib.repeatL_length, hs]; simp
  have HR := hide hr
  clear hr
  have hc : max 0 ((w : Int) - N) = ((w - N : Nat) : Int) := by omega
  have HC := hide hc
  clear hc
  go_enter Tryz.func57, Tryz.ntmps57
  go_wp2_with fail
  refine K1.out.mono ?_
  rintro e W1 ⟨rfl, b1⟩
  go_wp2_with fail
  rw [HC.out]
  refine (repeat0 ⟨#[48]⟩ rfl (w - N) (by omega) W1).mono ?_
  rintro e W2 ⟨rfl, b2⟩
  have hs := HR.out ⟨#[48]⟩ rfl (w - N)
  have ha := hide (hp.out (w - N) ⟨#[48]⟩ rfl rfl)
  generalize (⟨(Lib.repeatL (⟨#[48]⟩ : ByteArray).data.toList (w - N)).toArray⟩ : ByteArray) = R at *
  have hs2 : R.size + D.size ≤ 100 := by omega
  go_wp2_with fail
  go_ret
  exact ⟨by rw [ha.out]; rfl, b1.trans (b2.mono b1.size)⟩
end Go.Proofs.YtafaacliphdndaaGreatDoor
namespace Go.Proofs.YtafaacliphdndaaGreatDoor
open Go.RowKit Go.Shelf
set_option linter.unusedVariables false
set_option linter.unusedSimpArgs false

set_option maxHeartbeats 1600000 in
theorem yearText_any (y : Int) (W : World) (ht : Tab W) (y1 : -20000 ≤ y) (y2 : y ≤ 20000) :
    Calls Tryz.prog 56 #[.int .i64 y] W fun e W' => e = .returned (.string (Tx.ytx y)) ∧ Below W.heap.size W W' := by
  by_cases c1 : y < 0
  · obtain ⟨n, rfl⟩ : ∃ n : Nat, y = -(n : Int) := ⟨(-y).toNat, by omega⟩
    have hr := hide (show Tx.ytx (-(n : Int)) = ⟨#[45]⟩ ++ Tx.pad n 5 from by unfold Tx.ytx; rw [if_pos c1]; congr 2; omega)
    have hs : (Tx.pad n 5).size = 5 := Tx.pad_exact _ _ (by omega) (by omega)
    have KD := hide (digits_any n 5 W ht (by omega) (by omega))
    generalize Tx.pad n 5 = P at *
    have hs2 : (⟨#[45]⟩ : ByteArray).size + P.size ≤ 100 := by rw [hs]; decide
    go_enter Tryz.func56, Tryz.ntmps56
    go_wp2_with fail
    refine KD.out.mono ?_
    rintro e W1 ⟨rfl, b1⟩
    go_wp2
    go_ret
    exact ⟨by rw [hr.out]; rfl, b1⟩
  · obtain ⟨n, rfl⟩ : ∃ n : Nat, y = (n : Int) := ⟨y.toNat, by omega⟩
    by_cases c2 : (9999 : Int) < n
    · have hr := hide (show Tx.ytx (n : Int) = ⟨#[43]⟩ ++ Tx.pad n 5 from by unfold Tx.ytx; rw [if_neg c1, if_pos c2]; congr 2)
      have hs : (Tx.pad n 5).size = 5 := Tx.pad_exact _ _ (by omega) (by omega)
      have KD := hide (digits_any n 5 W ht (by omega) (by omega))
      generalize Tx.pad n 5 = P at *
      have hs2 : (⟨#[43]⟩ : ByteArray).size + P.size ≤ 100 := by rw [hs]; decide
      go_enter Tryz.func56, Tryz.ntmps56
      go_wp2_with fail
      refine KD.out.mono ?_
      rintro e W1 ⟨rfl, b1⟩
      go_wp2
      go_ret
      exact ⟨by rw [hr.out]; rfl, b1⟩
    · have hr := hide (show Tx.ytx (n : Int) = Tx.pad n 4 from by unfold Tx.ytx; rw [if_neg c1, if_neg c2]; congr 2)
      have KD := hide (digits_any n 4 W ht (by omega) (by omega))
      generalize Tx.pad n 4 = P at *
      go_enter Tryz.func56, Tryz.ntmps56
      go_wp2_with fail
      refine KD.out.mono ?_
      rintro e W1 ⟨rfl, b1⟩
      go_wp2
      go_ret
      exact ⟨by rw [hr.out]; rfl, b1⟩

/-! ### the reference's Pad -/
def strLen : Value → Nat
  | .string s => s.size
  | _ => 0
set_option maxHeartbeats 1600000 in
theorem rpad_gen (n : Int) (L : List UInt8) (w : Nat) (W : World) (hw : w ≤ 6) (hL : L.length ≤ 100)
    (KI : ∀ W, Tab W → Calls Tryz.prog 58 #[.int .i64 n] W fun e W' => e = .returned (.string ⟨L.toArray⟩) ∧ Below W.heap.size W W') (ht : Tab W) :
    Calls Tryz.prog 35 #[.int .i64 n, .int .i64 w] W fun e W' => e = .returned (.string (Tx.lead L (w - L.length))) ∧ Below W.heap.size W W' := by
  have K1 := hide (KI W ht)
  clear KI
  have hm := hide (Tx.lead_more L)
  have hz := hide (Tx.lead_size L)
  have h0 := Tx.lead_zero L
  rw [← h0] at K1
  clear h0
  go_enter Tryz.func35, Tryz.ntmps35
  go_wp2_with fail
  refine K1.out.mono ?_
  rintro e W1 ⟨rfl, b1⟩
  go_wp2_with fail
  go_loop [5] (fun v => ∃ i : Nat, i ≤ w - L.length ∧ v = .string (Tx.lead L i)) (fun v => w - strLen v)
  case atStart => exact ⟨0, by omega, rfl⟩
  case round =>
    obtain ⟨i, hi, rfl⟩ := hrel
    have hzi := hz.out i
    have hzj := hz.out (i + 1)
    have hmi := hm.out i
    have h1 : (⟨#[48]⟩ : ByteArray).size = 1 := rfl
    by_cases hlt : i + L.length < w
    · have hs : (⟨#[48]⟩ : ByteArray).size + (Tx.lead L i).size ≤ 1000 := by omega
      go_wp2
      go_round
      case rel => exact ⟨i + 1, by omega, rfl⟩
      case measure => show w - (Tx.lead L (i + 1)).size < w - (Tx.lead L i).size; omega
    · have e := hide (show i = w - L.length from by omega)
      have hge : w ≤ (Tx.lead L i).size := by omega
      go_wp2
      go_ret
      exact ⟨by rw [← e.out]; rfl, b1⟩
theorem rpad_nat (n w : Nat) (W : World) (ht : Tab W) (hn : n < 1000000) (hw : w ≤ 6) :
    Calls Tryz.prog 35 #[.int .i64 n, .int .i64 w] W fun e W' => e = .returned (.string (Tx.pad n w)) ∧ Below W.heap.size W W' := by
  rw [← Tx.lead_pad]
  exact rpad_gen n _ w W hw (by rw [Lib.decDigits_length]; have := Tx.ndig_le n 6 (by omega) (by omega); omega) (fun W hW => itoa_any n W hW hn) ht
theorem itoa_neg (n : Nat) (W : World) (ht : Tab W) (h1 : 1 ≤ n) (hn : n < 1000000) :
    Calls Tryz.prog 58 #[.int .i64 (-(n : Int))] W fun e W' => e = .returned (.string ⟨(45 :: Lib.decDigits n).toArray⟩) ∧ Below W.heap.size W W' :=
  (Tryz.strconv_Itoa (-(n : Int)) (by omega) (by omega) W ht).mono fun e W' ⟨he, k, os, hw⟩ => ⟨by rw [he, Lib.itoa_neg n h1], by rw [hw]; exact Lib.below_grow _ _ (Nat.le_refl _) k os⟩
theorem rpad_neg (n w : Nat) (W : World) (ht : Tab W) (h1 : 1 ≤ n) (hn : n < 1000000) (hw : w ≤ 6) :
    Calls Tryz.prog 35 #[.int .i64 (-(n : Int)), .int .i64 w] W fun e W' => ∃ s : ByteArray, e = .returned (.string s) ∧ Below W.heap.size W W' :=
  (rpad_gen (-(n : Int)) (45 :: Lib.decDigits n) w W hw (by rw [List.length_cons, Lib.decDigits_length]; have := Tx.ndig_le n 6 (by omega) (by omega); omega) (fun W hW => itoa_neg n W hW h1 hn) ht).mono fun e W' ⟨he, hb⟩ => ⟨_, he, hb⟩
/-- of any number -/
theorem rpad_some (z : Int) (w : Nat) (W : World) (ht : Tab W) (z1 : -20000 ≤ z) (z2 : z ≤ 20000) (hw : w ≤ 6) :
    Calls Tryz.prog 35 #[.int .i64 z, .int .i64 w] W fun e W' => ∃ s : ByteArray, e = .returned (.string s) ∧ Below W.heap.size W W' := by
  by_cases c : z < 0
  · obtain ⟨n, rfl⟩ : ∃ n : Nat, z = -(n : Int) := ⟨(-z).toNat, by omega⟩
    exact rpad_neg n w W ht (by omega) (by omega) hw
  · obtain ⟨n, rfl⟩ : ∃ n : Nat, z = (n : Int) := ⟨z.toNat, by omega⟩
    exact (rpad_nat n w W ht (by omega) hw).mono fun e W' ⟨he, hb⟩ => ⟨_, he, hb⟩
end Go.Proofs.YtafaacliphdndaaGreatDoor
