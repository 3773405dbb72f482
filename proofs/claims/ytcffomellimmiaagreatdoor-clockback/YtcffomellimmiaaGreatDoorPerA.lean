/- package clock: partText, partsText. -/
import Derived.Test.YtcffomellimmiaaGreatDoorTxtC
import Derived.Test.YtcffomellimmiaaGreatDoorClockI
namespace Go.Proofs.YtcffomellimmiaaGreatDoor
open Go.RowKit Go.Shelf
set_option linter.unusedVariables false
set_option linter.unusedSimpArgs false

/-- a part with its letter -/
def pt (n : Nat) (c : UInt8) : ByteArray := if n = 0 then ⟨#[]⟩ else ⟨(Lib.decDigits n).toArray⟩ ++ ⟨#[c]⟩
theorem pt_size (n : Nat) (c : UInt8) (h : n ≤ 1000000000000) : (pt n c).size ≤ 14 := by
  unfold pt
  split
  · decide
  · rw [ByteArray.size_append, Tx.digits_size]
    have := Tx.ndig_le n 13 (by omega) (by omega)
    show Lib.nDigits n + 1 ≤ 14
    omega
theorem itoa_big (n : Nat) (W : World) (ht : Tab W) (hn : n ≤ 1000000000000) :
    Calls Tryz.prog 40 #[.int .i64 n] W fun e W' => e = .returned (.string ⟨(Lib.decDigits n).toArray⟩) ∧ Below W.heap.size W W' :=
  (Tryz.strconv_Itoa (n : Int) (by omega) (by omega) W ht).mono fun e W' ⟨he, k, os, hw⟩ => ⟨by rw [he, Lib.itoa_nonneg], by rw [hw]; exact Lib.below_grow _ _ (Nat.le_refl _) k os⟩
set_option maxHeartbeats 1600000 in
theorem partText_any (n : Nat) (c : UInt8) (W : World) (ht : Tab W) (hn : n ≤ 1000000000000) :
    Calls Tryz.prog 79 #[.int .i64 n, .string ⟨#[c]⟩] W fun e W' => e = .returned (.string (pt n c)) ∧ Below W.heap.size W W' := by
  by_cases h0 : n = 0
  · have e : pt n c = ⟨#[]⟩ := by unfold pt; rw [if_pos h0]
    rw [e]
    subst h0
    go_enter Tryz.func79, Tryz.ntmps79
    go_wp2_with fail
    go_ret
    exact ⟨rfl, Below.refl _ _⟩
  · have e : pt n c = ⟨(Lib.decDigits n).toArray⟩ ++ ⟨#[c]⟩ := by unfold pt; rw [if_neg h0]
    have hz := pt_size n c hn
    rw [e] at hz ⊢
    have K := hide (itoa_big n W ht hn)
    have hq : ((n : Int) == 0) = false := by simpa using h0
    have q1 : (⟨#[c]⟩ : ByteArray).size = 1 := rfl
    rw [ByteArray.size_append, q1] at hz
    generalize (⟨(Lib.decDigits n).toArray⟩ : ByteArray) = D at *
    have hs : D.size + (⟨#[c]⟩ : ByteArray).size ≤ 1000 := by rw [q1]; omega
    go_enter Tryz.func79, Tryz.ntmps79
    go_wp2_with fail
    refine K.out.mono ?_
    rintro e W1 ⟨rfl, b1⟩
    go_wp2_with fail
    go_ret
    exact ⟨rfl, b1⟩
set_option maxRecDepth 100000 in
set_option maxHeartbeats 1000000 in
theorem partsText_days (y m n d : Nat) (w : World) (ht : Tab w) (h1 : y ≤ 1000000000000) (h2 : m ≤ 1000000000000) (h3 : n ≤ 1000000000000) (h4 : d ≤ 1000000000000) :
    Calls Tryz.prog 52 #[.agg #[.int .i64 y, .int .i64 m, .int .i64 n, .int .i64 d, .int .i64 0]] w fun e w' => e = .returned (.string (⟨#[80]⟩ ++ pt y 89 ++ pt m 77 ++ pt n 87 ++ pt d 68)) ∧ Below w.heap.size w w' := by
  have KP := hide (fun (n : Nat) (hn : n ≤ 1000000000000) c W hW => partText_any n c W hW hn)
  have z1 := pt_size y 89 h1
  have z2 := pt_size m 77 h2
  have z3 := pt_size n 87 h3
  have z4 := pt_size d 68 h4
  have q1 : (⟨#[80]⟩ : ByteArray).size = 1 := rfl
  have f1 : ¬ (9223372036854775807 < 1 + (pt y 89).size) := by omega
  have f2 : ¬ (9223372036854775807 < 1 + (pt y 89).size + (pt m 77).size) := by omega
  have f3 : ¬ (9223372036854775807 < 1 + (pt y 89).size + (pt m 77).size + (pt n 87).size) := by omega
  have f4 : ¬ (9223372036854775807 < 1 + (pt y 89).size + (pt m 77).size + (pt n 87).size + (pt d 68).size) := by omega
  have hB : Below w.heap.size w (w.alloc (.cells #[.int .i64 y, .int .i64 m, .int .i64 n, .int .i64 d, .int .i64 0] 39)) := (Below.refl _ w).alloc (Nat.le_refl _) _
  go_enter Tryz.func52, Tryz.ntmps52
  go_wp2_with fail
  have a0 : (w.alloc (.cells #[.int .i64 y, .int .i64 m, .int .i64 n, .int .i64 d, .int .i64 0] 39)).cell? ⟨w.heap.size, 0, none⟩ = some (.int .i64 y) := by simp
  have a1 : (w.alloc (.cells #[.int .i64 y, .int .i64 m, .int .i64 n, .int .i64 d, .int .i64 0] 39)).cell? ⟨w.heap.size, 1, none⟩ = some (.int .i64 m) := by simp
  have a2 : (w.alloc (.cells #[.int .i64 y, .int .i64 m, .int .i64 n, .int .i64 d, .int .i64 0] 39)).cell? ⟨w.heap.size, 2, none⟩ = some (.int .i64 n) := by simp
  have a3 : (w.alloc (.cells #[.int .i64 y, .int .i64 m, .int .i64 n, .int .i64 d, .int .i64 0] 39)).cell? ⟨w.heap.size, 3, none⟩ = some (.int .i64 d) := by simp
  have a4 : (w.alloc (.cells #[.int .i64 y, .int .i64 m, .int .i64 n, .int .i64 d, .int .i64 0] 39)).cell? ⟨w.heap.size, 4, none⟩ = some (.int .i64 0) := by simp
  have hb1 : w.heap.size < (w.alloc (.cells #[.int .i64 y, .int .i64 m, .int .i64 n, .int .i64 d, .int .i64 0] 39)).heap.size := by simp
  generalize hV : (w.alloc (.cells #[.int .i64 y, .int .i64 m, .int .i64 n, .int .i64 d, .int .i64 0] 39)) = V at *
  generalize hb : w.heap.size = b at *
  have htV := hide (ht.later (by rw [hb]; exact hB))
  clear hV
  go_region_held3 (fun X => X.cell? ⟨b, 0, none⟩ = some (.int .i64 y) ∧ X.cell? ⟨b, 1, none⟩ = some (.int .i64 m) ∧ X.cell? ⟨b, 2, none⟩ = some (.int .i64 n) ∧ X.cell? ⟨b, 3, none⟩ = some (.int .i64 d) ∧ Below V.heap.size V X)
    (first | assumption | (refine ⟨a0, a1, a2, a3, Below.drew (Below.refl _ _)⟩) | (go_split_ands; refine ⟨?_, ?_, ?_, ?_, ?_⟩ <;> first | assumption | exact kept (by assumption) hx hb1 (by assumption) | exact on (by assumption) hx))
    ((go_at_call 79; refine (KP.out _ (by assumption) _ _ (htV.out.later (by assumption : _ ∧ _ ∧ _ ∧ _ ∧ Below V.heap.size V _).2.2.2.2)).mono ?_; rintro e X ⟨rfl, hx⟩))
  have hH := ‹X.cell? ⟨b, 0, none⟩ = _ ∧ _›
  have a4X := (hH.2.2.2.2.cell (p := ⟨b, 4, none⟩) hb1).trans a4
  have hB3 := hB.trans (hH.2.2.2.2.mono (by have := hB.size; omega))
  clear hx
  go_wp2_with fail
  go_ret
  exact ⟨rfl, by rw [hb]; exact hB3⟩
set_option maxRecDepth 100000 in
set_option maxHeartbeats 4000000 in
theorem partsText_secs (y m n d : Nat) (s : Int) (hh mm ss : Nat) (w : World) (ht : Tab w) (h1 : y ≤ 1000000000000) (h2 : m ≤ 1000000000000) (h3 : n ≤ 1000000000000) (h4 : d ≤ 1000000000000) (s1 : 1 ≤ s) (s2 : s ≤ 1000000000000) (eh : s / 3600 = hh) (em : s % 3600 / 60 = mm) (es : s % 60 = ss) :
    Calls Tryz.prog 52 #[.agg #[.int .i64 y, .int .i64 m, .int .i64 n, .int .i64 d, .int .i64 s]] w fun e w' => e = .returned (.string (⟨#[80]⟩ ++ pt y 89 ++ pt m 77 ++ pt n 87 ++ pt d 68 ++ ⟨#[84]⟩ ++ pt hh 72 ++ pt mm 77 ++ pt ss 83)) ∧ Below w.heap.size w w' := by
  have KP := hide (fun (n : Nat) (hn : n ≤ 1000000000000) c W hW => partText_any n c W hW hn)
  have z1 := pt_size y 89 h1
  have z2 := pt_size m 77 h2
  have z3 := pt_size n 87 h3
  have z4 := pt_size d 68 h4
  have q1 : (⟨#[80]⟩ : ByteArray).size = 1 := rfl
  have f1 : ¬ (9223372036854775807 < 1 + (pt y 89).size) := by omega
  have f2 : ¬ (9223372036854775807 < 1 + (pt y 89).size + (pt m 77).size) := by omega
  have f3 : ¬ (9223372036854775807 < 1 + (pt y 89).size + (pt m 77).size + (pt n 87).size) := by omega
  have f4 : ¬ (9223372036854775807 < 1 + (pt y 89).size + (pt m 77).size + (pt n 87).size + (pt d 68).size) := by omega
  have q2 : (⟨#[84]⟩ : ByteArray).size = 1 := rfl
  have l1 : hh ≤ 1000000000000 := by omega
  have l2 : mm ≤ 1000000000000 := by omega
  have l3 : ss ≤ 1000000000000 := by omega
  have z5 := pt_size hh 72 l1
  have z6 := pt_size mm 77 l2
  have z7 := pt_size ss 83 l3
  have KC := hide (fun W => clockOf_any s W (by omega) (by omega))
  unfold clk at KC
  rw [eh, em, es] at KC
  have hs0 : (s == 0) = false := by simp; omega
  clear eh em es
  have hB : Below w.heap.size w (w.alloc (.cells #[.int .i64 y, .int .i64 m, .int .i64 n, .int .i64 d, .int .i64 s] 39)) := (Below.refl _ w).alloc (Nat.le_refl _) _
  go_enter Tryz.func52, Tryz.ntmps52
  go_wp2_with fail
  have a0 : (w.alloc (.cells #[.int .i64 y, .int .i64 m, .int .i64 n, .int .i64 d, .int .i64 s] 39)).cell? ⟨w.heap.size, 0, none⟩ = some (.int .i64 y) := by simp
  have a1 : (w.alloc (.cells #[.int .i64 y, .int .i64 m, .int .i64 n, .int .i64 d, .int .i64 s] 39)).cell? ⟨w.heap.size, 1, none⟩ = some (.int .i64 m) := by simp
  have a2 : (w.alloc (.cells #[.int .i64 y, .int .i64 m, .int .i64 n, .int .i64 d, .int .i64 s] 39)).cell? ⟨w.heap.size, 2, none⟩ = some (.int .i64 n) := by simp
  have a3 : (w.alloc (.cells #[.int .i64 y, .int .i64 m, .int .i64 n, .int .i64 d, .int .i64 s] 39)).cell? ⟨w.heap.size, 3, none⟩ = some (.int .i64 d) := by simp
  have a4 : (w.alloc (.cells #[.int .i64 y, .int .i64 m, .int .i64 n, .int .i64 d, .int .i64 s] 39)).cell? ⟨w.heap.size, 4, none⟩ = some (.int .i64 s) := by simp
  have hb1 : w.heap.size < (w.alloc (.cells #[.int .i64 y, .int .i64 m, .int .i64 n, .int .i64 d, .int .i64 s] 39)).heap.size := by simp
  generalize hV : (w.alloc (.cells #[.int .i64 y, .int .i64 m, .int .i64 n, .int .i64 d, .int .i64 s] 39)) = V at *
  generalize hb : w.heap.size = b at *
  have htV := hide (ht.later (by rw [hb]; exact hB))
  clear hV
  go_region_held3 (fun X => X.cell? ⟨b, 0, none⟩ = some (.int .i64 y) ∧ X.cell? ⟨b, 1, none⟩ = some (.int .i64 m) ∧ X.cell? ⟨b, 2, none⟩ = some (.int .i64 n) ∧ X.cell? ⟨b, 3, none⟩ = some (.int .i64 d) ∧ Below V.heap.size V X)
    (first | assumption | (refine ⟨a0, a1, a2, a3, Below.drew (Below.refl _ _)⟩) | (go_split_ands; refine ⟨?_, ?_, ?_, ?_, ?_⟩ <;> first | assumption | exact kept (by assumption) hx hb1 (by assumption) | exact on (by assumption) hx))
    ((go_at_call 79; refine (KP.out _ (by assumption) _ _ (htV.out.later (by assumption : _ ∧ _ ∧ _ ∧ _ ∧ Below V.heap.size V _).2.2.2.2)).mono ?_; rintro e X ⟨rfl, hx⟩))
  have hH := ‹X.cell? ⟨b, 0, none⟩ = _ ∧ _›
  have a4X := (hH.2.2.2.2.cell (p := ⟨b, 4, none⟩) hb1).trans a4
  have hB3 := hB.trans (hH.2.2.2.2.mono (by have := hB.size; omega))
  have htX := hide (htV.out.later hH.2.2.2.2)
  clear hx f1 f2 f3 f4
  have hTz : (⟨#[80]⟩ ++ pt y 89 ++ pt m 77 ++ pt n 87 ++ pt d 68 : ByteArray).size ≤ 100 := by
    simp only [ByteArray.size_append, q1]; omega
  generalize hT : (⟨#[80]⟩ ++ pt y 89 ++ pt m 77 ++ pt n 87 ++ pt d 68 : ByteArray) = T at *
  have HT := hide hT
  clear hT
  go_wp2_with fail
  refine (KC.out _).mono ?_
  rintro e W1 ⟨rfl, b1⟩
  have hB4 := hB3.trans (b1.mono (by have := hB3.size; omega))
  have htW := hide (htX.out.later b1)
  have c0 : (W1.alloc (.cells #[.int .i64 hh, .int .i64 mm, .int .i64 ss] 53)).cell? ⟨W1.heap.size, 0, none⟩ = some (.int .i64 hh) := by simp
  have c1 : (W1.alloc (.cells #[.int .i64 hh, .int .i64 mm, .int .i64 ss] 53)).cell? ⟨W1.heap.size, 1, none⟩ = some (.int .i64 mm) := by simp
  have c2 : (W1.alloc (.cells #[.int .i64 hh, .int .i64 mm, .int .i64 ss] 53)).cell? ⟨W1.heap.size, 2, none⟩ = some (.int .i64 ss) := by simp
  have hc1 : W1.heap.size < (W1.alloc (.cells #[.int .i64 hh, .int .i64 mm, .int .i64 ss] 53)).heap.size := by simp
  have hB5 := hB4.alloc (by have := hB4.size; omega) (.cells #[.int .i64 hh, .int .i64 mm, .int .i64 ss] 53)
  have htU := hide (htW.out.later ((Below.refl _ W1).alloc (Nat.le_refl _) (.cells #[.int .i64 hh, .int .i64 mm, .int .i64 ss] 53)))
  have g1 : ¬ (9223372036854775807 < T.size + 1) := by omega
  have g1b : ¬ (9223372036854775807 ≤ T.size) := by omega
  have g2 : ¬ (9223372036854775807 < T.size + 1 + (pt hh 72).size) := by omega
  have g3 : ¬ (9223372036854775807 < T.size + 1 + (pt hh 72).size + (pt mm 77).size) := by omega
  have g4 : ¬ (9223372036854775807 < T.size + 1 + (pt hh 72).size + (pt mm 77).size + (pt ss 83).size) := by omega
  go_wp2_with fail
  clear b1 hB4 hB3 htW htX hH htV
  generalize hU : (W1.alloc (.cells #[.int .i64 hh, .int .i64 mm, .int .i64 ss] 53)) = U at *
  generalize W1.heap.size = c at *
  go_region_held3 (fun Z => Z.cell? ⟨c, 0, none⟩ = some (.int .i64 hh) ∧ Z.cell? ⟨c, 1, none⟩ = some (.int .i64 mm) ∧ Z.cell? ⟨c, 2, none⟩ = some (.int .i64 ss) ∧ Below U.heap.size U Z)
    (first | assumption | (refine ⟨c0, c1, c2, Below.drew (Below.refl _ _)⟩) | (go_split_ands; refine ⟨?_, ?_, ?_, ?_⟩ <;> first | assumption | exact kept (by assumption) hz hc1 (by assumption) | exact on (by assumption) hz))
    ((go_at_call 79; refine (KP.out _ (by assumption) _ _ (htU.out.later (by assumption : _ ∧ _ ∧ _ ∧ Below U.heap.size U _).2.2.2)).mono ?_; rintro e Z ⟨rfl, hz⟩))
  have hK := ‹Z.cell? ⟨c, 0, none⟩ = _ ∧ _›
  have hB6 := hB5.trans (hK.2.2.2.mono (by have := hB5.size; omega))
  clear hz
  go_wp2_with fail
  go_ret
  exact ⟨by rw [HT.out]; rfl, by rw [hb]; exact hB6⟩
end Go.Proofs.YtcffomellimmiaaGreatDoor
