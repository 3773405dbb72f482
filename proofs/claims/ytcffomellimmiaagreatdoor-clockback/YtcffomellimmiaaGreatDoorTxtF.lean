/- OffsetText: below 0. -/
import Derived.Test.YtcffomellimmiaaGreatDoorTxtE
namespace Go.Proofs.YtcffomellimmiaaGreatDoor
open Go.RowKit Go.Shelf
set_option linter.unusedVariables false
set_option linter.unusedSimpArgs false

set_option maxRecDepth 100000 in
set_option maxHeartbeats 4000000 in
theorem offText_neg (k : Nat) (n : Int) (w : World) (ht : Tab w) (hn : -n = k) (h0 : n < 0) (hk : k < 86400) (h6 : k % 60 = 0) :
    Calls Tryz.prog 20 #[.int .i64 n] w fun e w' => e = .returned (.tuple #[.string (otx 45 k), .nilIface]) ∧ Below w.heap.size w w' := by
  have k0 : -86400 < n := by omega
  have hd : (60 : Int) ∣ n := by omega
  have h6' : (n.tmod 60 != 0) = false := by simp [Int.tmod_eq_zero_of_dvd hd]
  clear hd
  have KC := hide (fun W => clockOf_any (-n) W (by omega) (by omega))
  have K2 := hide (fun (n : Nat) (hn : n < 100) W hW => digits_any n 2 W hW (by omega) (by omega))
  have hh : k / 3600 < 100 := by omega
  have hm : k % 3600 / 60 < 100 := by omega
  have z1 := Tx.pad2 _ hh
  have z2 := Tx.pad2 _ hm
  have e1 : (-n) / 3600 = ((k / 3600 : Nat) : Int) := by omega
  have e2 : (-n) % 3600 / 60 = ((k % 3600 / 60 : Nat) : Int) := by omega
  have HT := hide (show otx 45 k = ⟨#[45]⟩ ++ Tx.pad (k / 3600) 2 ++ ⟨#[58]⟩ ++ Tx.pad (k % 3600 / 60) 2 from rfl)
  unfold clk at KC
  rw [e1, e2] at KC
  generalize (-n) % 60 = s3 at KC
  generalize otx 45 k = T at *
  generalize k / 3600 = h at *
  generalize k % 3600 / 60 = m at *
  have q1 : (⟨#[45]⟩ : ByteArray).size = 1 := rfl
  have q2 : (⟨#[58]⟩ : ByteArray).size = 1 := rfl
  clear e1 e2 hn h6 hk
  go_enter Tryz.func20, Tryz.ntmps20
  go_wp2_with fail
  refine (KC.out _).mono ?_
  rintro e W1 ⟨rfl, b1⟩
  go_wp2_with fail
  have a0 : (W1.alloc (.cells #[.int .i64 h, .int .i64 m, .int .i64 s3] 53)).cell? ⟨W1.heap.size, 0, none⟩ = some (.int .i64 h) := by simp
  have a1 : (W1.alloc (.cells #[.int .i64 h, .int .i64 m, .int .i64 s3] 53)).cell? ⟨W1.heap.size, 1, none⟩ = some (.int .i64 m) := by simp
  have hsz : W1.heap.size < (W1.alloc (.cells #[.int .i64 h, .int .i64 m, .int .i64 s3] 53)).heap.size := by simp
  have hB : Below w.heap.size w (W1.alloc (.cells #[.int .i64 h, .int .i64 m, .int .i64 s3] 53)) := b1.alloc b1.size _
  generalize hV : (W1.alloc (.cells #[.int .i64 h, .int .i64 m, .int .i64 s3] 53)) = V at *
  generalize W1.heap.size = b at *
  clear hV b1
  have htV := hide (ht.later hB)
  go_region_held3 (fun Z => Z.cell? ⟨b, 0, none⟩ = some (.int .i64 h) ∧ Z.cell? ⟨b, 1, none⟩ = some (.int .i64 m) ∧ Below V.heap.size V Z)
    (first | (refine ⟨a0, a1, Below.drew (Below.refl _ _)⟩) | (go_split_ands; refine ⟨?_, ?_, ?_⟩ <;> first | exact kept (by assumption) hz hsz (by assumption) | exact on (by assumption) hz))
    ((go_at_call 36; refine (K2.out _ (by assumption) _ (htV.out.later (by assumption : _ ∧ _ ∧ Below V.heap.size V _).2.2)).mono ?_; rintro e Z ⟨rfl, hz⟩))
  have hH := ‹Z.cell? ⟨b, 0, none⟩ = _ ∧ _›
  have hB3 := hB.trans (hH.2.2.mono hB.size)
  clear hz
  go_wp2_with fail
  go_ret2
  refine ⟨by rw [HT.out]; rfl, hB3⟩
end Go.Proofs.YtcffomellimmiaaGreatDoor
