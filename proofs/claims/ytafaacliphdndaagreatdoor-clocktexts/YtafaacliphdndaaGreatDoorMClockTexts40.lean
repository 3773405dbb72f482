/- OffsetText: the reference's. -/
import Derived.Test.YtafaacliphdndaaGreatDoorMClockTexts20
import Derived.Test.YtafaacliphdndaaGreatDoorMClockTexts39
namespace Go.Proofs.YtafaacliphdndaaGreatDoor
open Go.RowKit Go.Shelf
set_option linter.unusedVariables false
set_option linter.unusedSimpArgs false

/-- an offset that is none: a day or more, or not of whole minutes -/
def Obad (n : Int) : Prop := n ≤ -86400 ∨ (-86400 < n ∧ 86400 ≤ n) ∨ (-86400 < n ∧ n < 86400 ∧ (n.tmod 60 != 0) = true)
theorem Obad.dec (n : Int) : Obad n ∨ (-86400 < n ∧ n < 86400 ∧ n.tmod 60 = 0) := by
  unfold Obad
  by_cases h1 : n ≤ -86400
  · exact .inl (.inl h1)
  · by_cases h2 : 86400 ≤ n
    · exact .inl (.inr (.inl ⟨by omega, h2⟩))
    · by_cases h3 : n.tmod 60 = 0
      · exact .inr ⟨by omega, by omega, h3⟩
      · exact .inl (.inr (.inr ⟨by omega, by omega, by simpa using h3⟩))
/-- an offset's text: its sign ahead -/
def otx (sg : UInt8) (k : Nat) : ByteArray := ⟨#[sg]⟩ ++ Tx.pad (k / 3600) 2 ++ ⟨#[58]⟩ ++ Tx.pad (k % 3600 / 60) 2
theorem otx_size (sg : UInt8) (k : Nat) (h : k < 86400) : (otx sg k).size = 6 := by
  unfold otx
  simp only [ByteArray.size_append, Tx.pad2 _ (show k / 3600 < 100 by omega), Tx.pad2 _ (show k % 3600 / 60 < 100 by omega)]
  rfl

set_option maxHeartbeats 1600000 in
theorem offText_no (n : Int) (w : World) (h : Obad n) :
    Calls Tryz.prog 36 #[.int .i64 n] w fun e w' => e = .returned (.tuple #[.string ⟨#[]⟩, ev 4]) ∧ Below w.heap.size w w' := by
  unfold Obad at h
  rcases h with h | ⟨h1, h⟩ | ⟨h1, h2, h⟩
  all_goals
    go_enter Tryz.func36, Tryz.ntmps36
    go_wp2
    go_ret2
    exact ⟨rfl, Below.refl _ _⟩
set_option maxHeartbeats 1600000 in
theorem roffText_no (n : Int) (w : World) (h : Obad n) :
    Calls Tryz.prog 14 #[.int .i64 n] w fun e w' => e = .returned (.tuple #[.string ⟨#[]⟩, .int .i64 4]) ∧ Below w.heap.size w w' := by
  unfold Obad at h
  rcases h with h | ⟨h1, h⟩ | ⟨h1, h2, h⟩
  all_goals
    go_enter Tryz.func14, Tryz.ntmps14
    go_wp2
    go_ret2
    exact ⟨rfl, Below.refl _ _⟩
set_option maxRecDepth 100000 in
set_option maxHeartbeats 4000000 in
theorem offText_pos (k : Nat) (n : Int) (w : World) (ht : Tab w) (hn : n = k) (hk : k < 86400) (h6 : k % 60 = 0) :
    Calls Tryz.prog 36 #[.int .i64 n] w fun e w' => e = .returned (.tuple #[.string (otx 43 k), .nilIface]) ∧ Below w.heap.size w w' := by
  have k0 : 0 ≤ n := by omega
  have k1 : n < 86400 := by omega
  have h6' : n % 60 = 0 := by omega
  have KC := hide (fun W => clockOf_any n W (by omega) (by omega))
  have K2 := hide (fun (n : Nat) (hn : n < 100) W hW => digits_any n 2 W hW (by omega) (by omega))
  have hh : k / 3600 < 100 := by omega
  have hm : k % 3600 / 60 < 100 := by omega
  have z1 := Tx.pad2 _ hh
  have z2 := Tx.pad2 _ hm
  have e1 : n / 3600 = ((k / 3600 : Nat) : Int) := by omega
  have e2 : n % 3600 / 60 = ((k % 3600 / 60 : Nat) : Int) := by omega
  have HT := hide (show otx 43 k = ⟨#[43]⟩ ++ Tx.pad (k / 3600) 2 ++ ⟨#[58]⟩ ++ Tx.pad (k % 3600 / 60) 2 from rfl)
  unfold clk at KC
  rw [e1, e2] at KC
  generalize n % 60 = s3 at KC
  generalize otx 43 k = T at *
  generalize k / 3600 = h at *
  generalize k % 3600 / 60 = m at *
  have q1 : (⟨#[43]⟩ : ByteArray).size = 1 := rfl
  have q2 : (⟨#[58]⟩ : ByteArray).size = 1 := rfl
  clear e1 e2 hn h6 hk
  go_enter Tryz.func36, Tryz.ntmps36
  go_wp2_with fail
  refine (KC.out _).mono ?_
  rintro e W1 ⟨rfl, b1⟩
  go_wp2_with fail
  have a0 : (W1.alloc (.cells #[.int .i64 h, .int .i64 m, .int .i64 s3] 68)).cell? ⟨W1.heap.size, 0, none⟩ = some (.int .i64 h) := by simp
  have a1 : (W1.alloc (.cells #[.int .i64 h, .int .i64 m, .int .i64 s3] 68)).cell? ⟨W1.heap.size, 1, none⟩ = some (.int .i64 m) := by simp
  have hsz : W1.heap.size < (W1.alloc (.cells #[.int .i64 h, .int .i64 m, .int .i64 s3] 68)).heap.size := by simp
  have hB : Below w.heap.size w (W1.alloc (.cells #[.int .i64 h, .int .i64 m, .int .i64 s3] 68)) := b1.alloc b1.size _
  generalize hV : (W1.alloc (.cells #[.int .i64 h, .int .i64 m, .int .i64 s3] 68)) = V at *
  generalize W1.heap.size = b at *
  clear hV b1
  have htV := hide (ht.later hB)
  go_region_held3 (fun Z => Z.cell? ⟨b, 0, none⟩ = some (.int .i64 h) ∧ Z.cell? ⟨b, 1, none⟩ = some (.int .i64 m) ∧ Below V.heap.size V Z)
    (first | (refine ⟨a0, a1, Below.drew (Below.refl _ _)⟩) | (go_split_ands; refine ⟨?_, ?_, ?_⟩ <;> first | exact kept (by assumption) hz hsz (by assumption) | exact on (by assumption) hz))
    ((go_at_call 57; refine (K2.out _ (by assumption) _ (htV.out.later (by assumption : _ ∧ _ ∧ Below V.heap.size V _).2.2)).mono ?_; rintro e Z ⟨rfl, hz⟩))
  have hH := ‹Z.cell? ⟨b, 0, none⟩ = _ ∧ _›
  have hB3 := hB.trans (hH.2.2.mono hB.size)
  clear hz
  go_wp2_with fail
  go_ret2
  refine ⟨by rw [HT.out]; rfl, hB3⟩
end Go.Proofs.YtafaacliphdndaaGreatDoor
namespace Go.Proofs.YtafaacliphdndaaGreatDoor
open Go.RowKit Go.Shelf
set_option linter.unusedVariables false
set_option linter.unusedSimpArgs false

set_option maxRecDepth 100000 in
set_option maxHeartbeats 4000000 in
theorem offText_neg (k : Nat) (n : Int) (w : World) (ht : Tab w) (hn : -n = k) (h0 : n < 0) (hk : k < 86400) (h6 : k % 60 = 0) :
    Calls Tryz.prog 36 #[.int .i64 n] w fun e w' => e = .returned (.tuple #[.string (otx 45 k), .nilIface]) ∧ Below w.heap.size w w' := by
  have k0 : -86400 < n := by omega
  have hd : (60 : Int) ∣ n := by omega
  have h6' : (n.tmod 60 != 0) = false := by simp [Int.tmod_eq_zero_of_dvd hd]
  clear hd
  have KC := hide (fun W => clockOf_any (-n) W (by omega) (by omega))
  have K2 := hide (fun (n : Nat) (hn : n < 100) W hW => digits_any n 2 W hW (by omega) (by omega))
  have hh : k / 3600 < 100 := by omega
  have hm : k % 3600 / 60 < 100 := by omega
  have z1 := Tx.pad2 _ hh
  have z2 := Tx.pad2 _ hm
  have e1 : (-n) / 3600 = ((k / 3600 : Nat) : Int) := by omega
  have e2 : (-n) % 3600 / 60 = ((k % 3600 / 60 : Nat) : Int) := by omega
  have HT := hide (show otx 45 k = ⟨#[45]⟩ ++ Tx.pad (k / 3600) 2 ++ ⟨#[58]⟩ ++ Tx.pad (k % 3600 / 60) 2 from rfl)
  unfold clk at KC
  rw [e1, e2] at KC
  generalize (-n) % 60 = s3 at KC
  generalize otx 45 k = T at *
  generalize k / 3600 = h at *
  generalize k % 3600 / 60 = m at *
  have q1 : (⟨#[45]⟩ : ByteArray).size = 1 := rfl
  have q2 : (⟨#[58]⟩ : ByteArray).size = 1 := rfl
  clear e1 e2 hn h6 hk
  go_enter Tryz.func36, Tryz.ntmps36
  go_wp2_with fail
  refine (KC.out _).mono ?_
  rintro e W1 ⟨rfl, b1⟩
  go_wp2_with fail
  have a0 : (W1.alloc (.cells #[.int .i64 h, .int .i64 m, .int .i64 s3] 68)).cell? ⟨W1.heap.size, 0, none⟩ = some (.int .i64 h) := by simp
  have a1 : (W1.alloc (.cells #[.int .i64 h, .int .i64 m, .int .i64 s3] 68)).cell? ⟨W1.heap.size, 1, none⟩ = some (.int .i64 m) := by simp
  have hsz : W1.heap.size < (W1.alloc (.cells #[.int .i64 h, .int .i64 m, .int .i64 s3] 68)).heap.size := by simp
  have hB : Below w.heap.size w (W1.alloc (.cells #[.int .i64 h, .int .i64 m, .int .i64 s3] 68)) := b1.alloc b1.size _
  generalize hV : (W1.alloc (.cells #[.int .i64 h, .int .i64 m, .int .i64 s3] 68)) = V at *
  generalize W1.heap.size = b at *
  clear hV b1
  have htV := hide (ht.later hB)
  go_region_held3 (fun Z => Z.cell? ⟨b, 0, none⟩ = some (.int .i64 h) ∧ Z.cell? ⟨b, 1, none⟩ = some (.int .i64 m) ∧ Below V.heap.size V Z)
    (first | (refine ⟨a0, a1, Below.drew (Below.refl _ _)⟩) | (go_split_ands; refine ⟨?_, ?_, ?_⟩ <;> first | exact kept (by assumption) hz hsz (by assumption) | exact on (by assumption) hz))
    ((go_at_call 57; refine (K2.out _ (by assumption) _ (htV.out.later (by assumption : _ ∧ _ ∧ Below V.heap.size V _).2.2)).mono ?_; rintro e Z ⟨rfl, hz⟩))
  have hH := ‹Z.cell? ⟨b, 0, none⟩ = _ ∧ _›
  have hB3 := hB.trans (hH.2.2.mono hB.size)
  clear hz
  go_wp2_with fail
  go_ret2
  refine ⟨by rw [HT.out]; rfl, hB3⟩
end Go.Proofs.YtafaacliphdndaaGreatDoor
namespace Go.Proofs.YtafaacliphdndaaGreatDoor
open Go.RowKit Go.Shelf
set_option linter.unusedVariables false
set_option linter.unusedSimpArgs false

set_option maxRecDepth 100000 in
set_option maxHeartbeats 4000000 in
theorem roffText_pos (k : Nat) (n : Int) (w : World) (ht : Tab w) (hn : n = k) (hk : k < 86400) (h6 : k % 60 = 0) :
    Calls Tryz.prog 14 #[.int .i64 n] w fun e w' => e = .returned (.tuple #[.string (otx 43 k), .int .i64 0]) ∧ Below w.heap.size w w' := by
  have k0 : 0 ≤ n := by omega
  have k1 : n < 86400 := by omega
  have h6' : n % 60 = 0 := by omega
  have e2 : (n) / 60 % 60 = ((k % 3600 / 60 : Nat) : Int) := by omega
  have hh : k / 3600 < 100 := by omega
  have hm : k % 3600 / 60 < 100 := by omega
  have E1 := hide (show n / 3600 = ((k / 3600 : Nat) : Int) from by omega)
  have E2 := hide e2
  have K := hide (fun z (n : Nat) W hW hz (hn : n < 100) => rpad_eq z n 2 W hW hz (by omega) (by omega))
  have z1 := Tx.pad2 _ hh
  have z2 := Tx.pad2 _ hm
  have HT := hide (show otx 43 k = ⟨#[43]⟩ ++ Tx.pad (k / 3600) 2 ++ ⟨#[58]⟩ ++ Tx.pad (k % 3600 / 60) 2 from rfl)
  generalize otx 43 k = T at *
  generalize k / 3600 = h at *
  generalize k % 3600 / 60 = m at *
  have q1 : (⟨#[43]⟩ : ByteArray).size = 1 := rfl
  have q2 : (⟨#[58]⟩ : ByteArray).size = 1 := rfl
  clear hn h6 hk e2
  go_enter Tryz.func14, Tryz.ntmps14
  go_wp2_with fail
  refine (K.out _ h _ ht (by have := E1.out; omega) hh).mono ?_
  rintro e W1 ⟨rfl, b1⟩
  have ht1 := ht.later b1
  go_wp2_with fail
  refine (K.out _ m _ ht1 (by have := E2.out; omega) hm).mono ?_
  rintro e W2 ⟨rfl, b2⟩
  have hB := b1.trans (b2.mono b1.size)
  go_wp2_with fail
  go_ret2
  refine ⟨by rw [HT.out]; rfl, hB⟩
set_option maxRecDepth 100000 in
set_option maxHeartbeats 4000000 in
theorem roffText_neg (k : Nat) (n : Int) (w : World) (ht : Tab w) (hn : -n = k) (h0 : n < 0) (hk : k < 86400) (h6 : k % 60 = 0) :
    Calls Tryz.prog 14 #[.int .i64 n] w fun e w' => e = .returned (.tuple #[.string (otx 45 k), .int .i64 0]) ∧ Below w.heap.size w w' := by
  have k0 : -86400 < n := by omega
  have hd : (60 : Int) ∣ n := by omega
  have h6' : (n.tmod 60 != 0) = false := by simp [Int.tmod_eq_zero_of_dvd hd]
  clear hd
  have e2 : (-n) / 60 % 60 = ((k % 3600 / 60 : Nat) : Int) := by omega
  have hh : k / 3600 < 100 := by omega
  have hm : k % 3600 / 60 < 100 := by omega
  have f1 : -(n.tdiv 3600) = -n / 3600 := by rw [← Int.neg_tdiv]; exact Int.tdiv_eq_ediv_of_nonneg (by omega)
  have f2 : -(n.tdiv 60) = -n / 60 := by rw [← Int.neg_tdiv]; exact Int.tdiv_eq_ediv_of_nonneg (by omega)
  have E1 := hide (show wrap64 (-(n.tdiv 3600)) = ((k / 3600 : Nat) : Int) from by rw [f1, wrap64_id (by omega) (by omega)]; omega)
  have E2 := hide (show (wrap64 (-(n.tdiv 60))).tmod 60 = ((k % 3600 / 60 : Nat) : Int) from by rw [f2, wrap64_id (by omega) (by omega), Int.tmod_eq_emod_of_nonneg (by omega)]; omega)
  clear f1 f2
  have K := hide (fun z (n : Nat) W hW hz (hn : n < 100) => rpad_eq z n 2 W hW hz (by omega) (by omega))
  have z1 := Tx.pad2 _ hh
  have z2 := Tx.pad2 _ hm
  have HT := hide (show otx 45 k = ⟨#[45]⟩ ++ Tx.pad (k / 3600) 2 ++ ⟨#[58]⟩ ++ Tx.pad (k % 3600 / 60) 2 from rfl)
  generalize otx 45 k = T at *
  generalize k / 3600 = h at *
  generalize k % 3600 / 60 = m at *
  have q1 : (⟨#[45]⟩ : ByteArray).size = 1 := rfl
  have q2 : (⟨#[58]⟩ : ByteArray).size = 1 := rfl
  clear hn h6 hk e2
  go_enter Tryz.func14, Tryz.ntmps14
  go_wp2_with fail
  refine (K.out _ h _ ht E1.out hh).mono ?_
  rintro e W1 ⟨rfl, b1⟩
  have ht1 := ht.later b1
  go_wp2_with fail
  refine (K.out _ m _ ht1 E2.out hm).mono ?_
  rintro e W2 ⟨rfl, b2⟩
  have hB := b1.trans (b2.mono b1.size)
  go_wp2_with fail
  go_ret2
  refine ⟨by rw [HT.out]; rfl, hB⟩
end Go.Proofs.YtafaacliphdndaaGreatDoor
