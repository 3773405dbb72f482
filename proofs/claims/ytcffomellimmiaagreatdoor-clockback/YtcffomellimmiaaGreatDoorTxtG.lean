/- OffsetText: the reference's. -/
import Derived.Test.YtcffomellimmiaaGreatDoorTxtE
namespace Go.Proofs.YtcffomellimmiaaGreatDoor
open Go.RowKit Go.Shelf
set_option linter.unusedVariables false
set_option linter.unusedSimpArgs false

set_option maxRecDepth 100000 in
set_option maxHeartbeats 4000000 in
theorem roffText_pos (k : Nat) (n : Int) (w : World) (ht : Tab w) (hn : n = k) (hk : k < 86400) (h6 : k % 60 = 0) :
    Calls Tryz.prog 9 #[.int .i64 n] w fun e w' => e = .returned (.tuple #[.string (otx 43 k), .int .i64 0]) ∧ Below w.heap.size w w' := by
  have k0 : 0 ≤ n := by omega
  have k1 : n < 86400 := by omega
  have h6' : n % 60 = 0 := by omega
  have e2 : (n) / 60 % 60 = ((k % 3600 / 60 : Nat) : Int) := by omega
  have hh : k / 3600 < 100 := by omega
  have hm : k % 3600 / 60 < 100 := by omega
  have E1 := hide (show n / 3600 = ((k / 3600 : Nat) : Int) from by omega)
  have E2 := hide e2
  have K := hide (fun z (n : Nat) W hW hz (hn : n < 100) => rpad_eq z n 2 W hW hz (by omega) (by omega))
  have z1 := Tx.pad2 _ hh
  have z2 := Tx.pad2 _ hm
  have HT := hide (show otx 43 k = ⟨#[43]⟩ ++ Tx.pad (k / 3600) 2 ++ ⟨#[58]⟩ ++ Tx.pad (k % 3600 / 60) 2 from rfl)
  generalize otx 43 k = T at *
  generalize k / 3600 = h at *
  generalize k % 3600 / 60 = m at *
  have q1 : (⟨#[43]⟩ : ByteArray).size = 1 := rfl
  have q2 : (⟨#[58]⟩ : ByteArray).size = 1 := rfl
  clear hn h6 hk e2
  go_enter Tryz.func9, Tryz.ntmps9
  go_wp2_with fail
  refine (K.out _ h _ ht (by have := E1.out; omega) hh).mono ?_
  rintro e W1 ⟨rfl, b1⟩
  have ht1 := ht.later b1
  go_wp2_with fail
  refine (K.out _ m _ ht1 (by have := E2.out; omega) hm).mono ?_
  rintro e W2 ⟨rfl, b2⟩
  have hB := b1.trans (b2.mono b1.size)
  go_wp2_with fail
  go_ret2
  refine ⟨by rw [HT.out]; rfl, hB⟩
set_option maxRecDepth 100000 in
set_option maxHeartbeats 4000000 in
theorem roffText_neg (k : Nat) (n : Int) (w : World) (ht : Tab w) (hn : -n = k) (h0 : n < 0) (hk : k < 86400) (h6 : k % 60 = 0) :
    Calls Tryz.prog 9 #[.int .i64 n] w fun e w' => e = .returned (.tuple #[.string (otx 45 k), .int .i64 0]) ∧ Below w.heap.size w w' := by
  have k0 : -86400 < n := by omega
  have hd : (60 : Int) ∣ n := by omega
  have h6' : (n.tmod 60 != 0) = false := by simp [Int.tmod_eq_zero_of_dvd hd]
  clear hd
  have e2 : (-n) / 60 % 60 = ((k % 3600 / 60 : Nat) : Int) := by omega
  have hh : k / 3600 < 100 := by omega
  have hm : k % 3600 / 60 < 100 := by omega
  have f1 : -(n.tdiv 3600) = -n / 3600 := by rw [← Int.neg_tdiv]; exact Int.tdiv_eq_ediv_of_nonneg (by omega)
  have f2 : -(n.tdiv 60) = -n / 60 := by rw [← Int.neg_tdiv]; exact Int.tdiv_eq_ediv_of_nonneg (by omega)
  have E1 := hide (show wrap64 (-(n.tdiv 3600)) = ((k / 3600 : Nat) : Int) from by rw [f1, wrap64_id (by omega) (by omega)]; omega)
  have E2 := hide (show (wrap64 (-(n.tdiv 60))).tmod 60 = ((k % 3600 / 60 : Nat) : Int) from by rw [f2, wrap64_id (by omega) (by omega), Int.tmod_eq_emod_of_nonneg (by omega)]; omega)
  clear f1 f2
  have K := hide (fun z (n : Nat) W hW hz (hn : n < 100) => rpad_eq z n 2 W hW hz (by omega) (by omega))
  have z1 := Tx.pad2 _ hh
  have z2 := Tx.pad2 _ hm
  have HT := hide (show otx 45 k = ⟨#[45]⟩ ++ Tx.pad (k / 3600) 2 ++ ⟨#[58]⟩ ++ Tx.pad (k % 3600 / 60) 2 from rfl)
  generalize otx 45 k = T at *
  generalize k / 3600 = h at *
  generalize k % 3600 / 60 = m at *
  have q1 : (⟨#[45]⟩ : ByteArray).size = 1 := rfl
  have q2 : (⟨#[58]⟩ : ByteArray).size = 1 := rfl
  clear hn h6 hk e2
  go_enter Tryz.func9, Tryz.ntmps9
  go_wp2_with fail
  refine (K.out _ h _ ht E1.out hh).mono ?_
  rintro e W1 ⟨rfl, b1⟩
  have ht1 := ht.later b1
  go_wp2_with fail
  refine (K.out _ m _ ht1 E2.out hm).mono ?_
  rintro e W2 ⟨rfl, b2⟩
  have hB := b1.trans (b2.mono b1.size)
  go_wp2_with fail
  go_ret2
  refine ⟨by rw [HT.out]; rfl, hB⟩
end Go.Proofs.YtcffomellimmiaaGreatDoor
