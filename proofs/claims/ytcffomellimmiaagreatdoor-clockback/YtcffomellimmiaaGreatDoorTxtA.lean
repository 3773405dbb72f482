/- package clock: digits, yearText. -/
import Derived.Test.YtcffomellimmiaaGreatDoorTabA
import Derived.Test.YtcffomellimmiaaGreatDoorSh
import Derived.Test.YtcffomellimmiaaGreatDoorTxtM
import Derived.Test.YtcffomellimmiaaGreatDoorBase
import Derived.Lib.AppendIntMem
namespace Go.Proofs.YtcffomellimmiaaGreatDoor
open Go.RowKit Go.Shelf
set_option linter.unusedVariables false
set_option linter.unusedSimpArgs false

theorem itoa_any (n : Nat) (W : World) (ht : Tab W) (hn : n < 1000000) :
    Calls Tryz.prog 40 #[.int .i64 n] W fun e W' => e = .returned (.string ⟨(Lib.decDigits n).toArray⟩) ∧ Below W.heap.size W W' :=
  (Tryz.strconv_Itoa (n : Int) (by omega) (by omega) W ht).mono fun e W' ⟨he, k, os, hw⟩ => ⟨by rw [he, Lib.itoa_nonneg], by rw [hw]; exact Lib.below_grow _ _ (Nat.le_refl _) k os⟩
theorem repeat0 (s : ByteArray) (hs : s.data.toList = [48]) (c : Nat) (hc : c ≤ 10) (W : World) :
    Calls Tryz.prog 58 #[.string s, .int .i64 c] W fun e W' => e = .returned (.string ⟨(Lib.repeatL s.data.toList c).toArray⟩) ∧ Below W.heap.size W W' := by
  have h1 : s.size = 1 := by rw [Lib.size_eq, hs]; rfl
  exact Tryz.strings_Repeat s c W (by omega) (by rw [h1]; omega)
set_option maxHeartbeats 1600000 in
theorem digits_any (n w : Nat) (W : World) (ht : Tab W) (hn : n < 1000000) (hw : w ≤ 6) :
    Calls Tryz.prog 36 #[.int .i64 n, .int .i64 w] W fun e W' => e = .returned (.string (Tx.pad n w)) ∧ Below W.heap.size W W' := by
  have K1 := hide (itoa_any n W ht hn)
  have d0 := Lib.nDigits_pos n
  have d1 : Lib.nDigits n ≤ 6 := Tx.ndig_le n 6 (by omega) (by omega)
  have hz := Tx.digits_size n
  have hp := hide (fun c s hs hc => Tx.pad_of n w c s hs hc)
  generalize (⟨(Lib.decDigits n).toArray⟩ : ByteArray) = D at *
  generalize Lib.nDigits n = N at *
  have hr := fun (s : ByteArray) (hs : s.data.toList = [48]) (c : Nat) => show (⟨(Lib.repeatL s.data.toList c).toArray⟩ : ByteArray).size = c from by
    rw [Lib.size_eq]
    show (Lib.repeatL s.data.toList c).length = c
    rw [Lib.repeatL_length, hs]; simp
  have HR := hide hr
  clear hr
  have hc : max 0 ((w : Int) - N) = ((w - N : Nat) : Int) := by omega
  have HC := hide hc
  clear hc
  go_enter Tryz.func36, Tryz.ntmps36
  go_wp2_with fail
  refine K1.out.mono ?_
  rintro e W1 ⟨rfl, b1⟩
  go_wp2_with fail
  rw [HC.out]
  refine (repeat0 ⟨#[48]⟩ rfl (w - N) (by omega) W1).mono ?_
  rintro e W2 ⟨rfl, b2⟩
  have hs := HR.out ⟨#[48]⟩ rfl (w - N)
  have ha := hide (hp.out (w - N) ⟨#[48]⟩ rfl rfl)
  generalize (⟨(Lib.repeatL (⟨#[48]⟩ : ByteArray).data.toList (w - N)).toArray⟩ : ByteArray) = R at *
  have hs2 : R.size + D.size ≤ 100 := by omega
  go_wp2_with fail
  go_ret
  exact ⟨by rw [ha.out]; rfl, b1.trans (b2.mono b1.size)⟩
end Go.Proofs.YtcffomellimmiaaGreatDoor
