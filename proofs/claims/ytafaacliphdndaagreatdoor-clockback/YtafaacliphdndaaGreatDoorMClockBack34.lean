/- OffsetText: the reference's. -/
import Derived.Test.YtafaacliphdndaaGreatDoorMClockBack23
import Derived.Test.YtafaacliphdndaaGreatDoorMClockBack30
namespace Go.Proofs.YtafaacliphdndaaGreatDoor
open Go.RowKit Go.Shelf
set_option linter.unusedVariables false
set_option linter.unusedSimpArgs false

/-- a part with its letter -/
def pt (n : Nat) (c : UInt8) : ByteArray := if n = 0 then ⟨#[]⟩ else ⟨(Lib.decDigits n).toArray⟩ ++ ⟨#[c]⟩
theorem pt_size (n : Nat) (c : UInt8) (h : n ≤ 1000000000000) : (pt n c).size ≤ 14 := by
  unfold pt
  split
  · decide
  · rw [ByteArray.size_append, Tx.digits_size]
    have := Tx.ndig_le n 13 (by omega) (by omega)
    show Lib.nDigits n + 1 ≤ 14
    omega
theorem itoa_big (n : Nat) (W : World) (ht : Tab W) (hn : n ≤ 1000000000000) :
    Calls Tryz.prog 58 #[.int .i64 n] W fun e W' => e = .returned (.string ⟨(Lib.decDigits n).toArray⟩) ∧ Below W.heap.size W W' :=
  (Tryz.strconv_Itoa (n : Int) (by omega) (by omega) W ht).mono fun e W' ⟨he, k, os, hw⟩ => ⟨by rw [he, Lib.itoa_nonneg], by rw [hw]; exact Lib.below_grow _ _ (Nat.le_refl _) k os⟩
set_option maxHeartbeats 1600000 in
theorem partText_any (n : Nat) (c : UInt8) (W : World) (ht : Tab W) (hn : n ≤ 1000000000000) :
    Calls Tryz.prog 88 #[.int .i64 n, .string ⟨#[c]⟩] W fun e W' => e = .returned (.string (pt n c)) ∧ Below W.heap.size W W' := by
  by_cases h0 : n = 0
  · have e : pt n c = ⟨#[]⟩ := by unfold pt; rw [if_pos h0]
    rw [e]
    subst h0
    go_enter Tryz.func88, Tryz.ntmps88
    go_wp2_with fail
    go_ret
    exact ⟨rfl, Below.refl _ _⟩
  · have e : pt n c = ⟨(Lib.decDigits n).toArray⟩ ++ ⟨#[c]⟩ := by unfold pt; rw [if_neg h0]
    have hz := pt_size n c hn
    rw [e] at hz ⊢
    have K := hide (itoa_big n W ht hn)
    have hq : ((n : Int) == 0) = false := by simpa using h0
    have q1 : (⟨#[c]⟩ : ByteArray).size = 1 := rfl
    rw [ByteArray.size_append, q1] at hz
    generalize (⟨(Lib.decDigits n).toArray⟩ : ByteArray) = D at *
    have hs : D.size + (⟨#[c]⟩ : ByteArray).size ≤ 1000 := by rw [q1]; omega
    go_enter Tryz.func88, Tryz.ntmps88
    go_wp2_with fail
    refine K.out.mono ?_
    rintro e W1 ⟨rfl, b1⟩
    go_wp2_with fail
    go_ret
    exact ⟨rfl, b1⟩
set_option maxRecDepth 100000 in
set_option maxHeartbeats 1000000 in
theorem partsText_days (y m n d : Nat) (w : World) (ht : Tab w) (h1 : y ≤ 1000000000000) (h2 : m ≤ 1000000000000) (h3 : n ≤ 1000000000000) (h4 : d ≤ 1000000000000) :
    Calls Tryz.prog 63 #[.agg #[.int .i64 y, .int .i64 m, .int .i64 n, .int .i64 d, .int .i64 0]] w fun e w' => e = .returned (.string (⟨#[80]⟩ ++ pt y 89 ++ pt m 77 ++ pt n 87 ++ pt d 68)) ∧ Below w.heap.size w w' := by
  have KP := hide (fun (n : Nat) (hn : n ≤ 1000000000000) c W hW => partText_any n c W hW hn)
  have z1 := pt_size y 89 h1
  have z2 := pt_size m 77 h2
  have z3 := pt_size n 87 h3
  have z4 := pt_size d 68 h4
  have q1 : (⟨#[80]⟩ : ByteArray).size = 1 := rfl
  have f1 : ¬ (9223372036854775807 < 1 + (pt y 89).size) := by omega
  have f2 : ¬ (9223372036854775807 < 1 + (pt y 89).size + (pt m 77).size) := by omega
  have f3 : ¬ (9223372036854775807 < 1 + (pt y 89).size + (pt m 77).size + (pt n 87).size) := by omega
  have f4 : ¬ (9223372036854775807 < 1 + (pt y 89).size + (pt m 77).size + (pt n 87).size + (pt d 68).size) := by omega
  have hB : Below w.heap.size w (w.alloc (.cells #[.int .i64 y, .int .i64 m, .int .i64 n, .int .i64 d, .int .i64 0] 24)) := (Below.refl _ w).alloc (Nat.le_refl _) _
  go_enter Tryz.func63, Tryz.ntmps63
  go_wp2_with fail
  have a0 : (w.alloc (.cells #[.int .i64 y, .int .i64 m, .int .i64 n, .int .i64 d, .int .i64 0] 24)).cell? ⟨w.heap.size, 0, none⟩ = some (.int .i64 y) := by simp
  have a1 : (w.alloc (.cells #[.int .i64 y, .int .i64 m, .int .i64 n, .int .i64 d, .int .i64 0] 24)).cell? ⟨w.heap.size, 1, none⟩ = some (.int .i64 m) := by simp
  have a2 : (w.alloc (.cells #[.int .i64 y, .int .i64 m, .int .i64 n, .int .i64 d, .int .i64 0] 24)).cell? ⟨w.heap.size, 2, none⟩ = some (.int .i64 n) := by simp
  have a3 : (w.alloc (.cells #[.int .i64 y, .int .i64 m, .int .i64 n, .int .i64 d, .int .i64 0] 24)).cell? ⟨w.heap.size, 3, none⟩ = some (.int .i64 d) := by simp
  have a4 : (w.alloc (.cells #[.int .i64 y, .int .i64 m, .int .i64 n, .int .i64 d, .int .i64 0] 24)).cell? ⟨w.heap.size, 4, none⟩ = some (.int .i64 0) := by simp
  have hb1 : w.heap.size < (w.alloc (.cells #[.int .i64 y, .int .i64 m, .int .i64 n, .int .i64 d, .int .i64 0] 24)).heap.size := by simp
  generalize hV : (w.alloc (.cells #[.int .i64 y, .int .i64 m, .int .i64 n, .int .i64 d, .int .i64 0] 24)) = V at *
  generalize hb : w.heap.size = b at *
  have htV := hide (ht.later (by rw [hb]; exact hB))
  clear hV
  go_region_held3 (fun X => X.cell? ⟨b, 0, none⟩ = some (.int .i64 y) ∧ X.cell? ⟨b, 1, none⟩ = some (.int .i64 m) ∧ X.cell? ⟨b, 2, none⟩ = some (.int .i64 n) ∧ X.cell? ⟨b, 3, none⟩ = some (.int .i64 d) ∧ Below V.heap.size V X)
    (first | assumption | (refine ⟨a0, a1, a2, a3, Below.drew (Below.refl _ _)⟩) | (go_split_ands; refine ⟨?_, ?_, ?_, ?_, ?_⟩ <;> first | assumption | exact kept (by assumption) hx hb1 (by assumption) | exact on (by assumption) hx))
    ((go_at_call 88; refine (KP.out _ (by assumption) _ _ (htV.out.later (by assumption : _ ∧ _ ∧ _ ∧ _ ∧ Below V.heap.size V _).2.2.2.2)).mono ?_; rintro e X ⟨rfl, hx⟩))
  have hH := ‹X.cell? ⟨b, 0, none⟩ = _ ∧ _›
  have a4X := (hH.2.2.2.2.cell (p := ⟨b, 4, none⟩) hb1).trans a4
  have hB3 := hB.trans (hH.2.2.2.2.mono (by have := hB.size; omega))
  clear hx
  go_wp2_with fail
  go_ret
  exact ⟨rfl, by rw [hb]; exact hB3⟩
set_option maxRecDepth 100000 in
set_option maxHeartbeats 4000000 in
theorem partsText_secs (y m n d : Nat) (s : Int) (hh mm ss : Nat) (w : World) (ht : Tab w) (h1 : y ≤ 1000000000000) (h2 : m ≤ 1000000000000) (h3 : n ≤ 1000000000000) (h4 : d ≤ 1000000000000) (s1 : 1 ≤ s) (s2 : s ≤ 1000000000000) (eh : s / 3600 = hh) (em : s % 3600 / 60 = mm) (es : s % 60 = ss) :
    Calls Tryz.prog 63 #[.agg #[.int .i64 y, .int .i64 m, .int .i64 n, .int .i64 d, .int .i64 s]] w fun e w' => e = .returned (.string (⟨#[80]⟩ ++ pt y 89 ++ pt m 77 ++ pt n 87 ++ pt d 68 ++ ⟨#[84]⟩ ++ pt hh 72 ++ pt mm 77 ++ pt ss 83)) ∧ Below w.heap.size w w' := by
  have KP := hide (fun (n : Nat) (hn : n ≤ 1000000000000) c W hW => partText_any n c W hW hn)
  have z1 := pt_size y 89 h1
  have z2 := pt_size m 77 h2
  have z3 := pt_size n 87 h3
  have z4 := pt_size d 68 h4
  have q1 : (⟨#[80]⟩ : ByteArray).size = 1 := rfl
  have f1 : ¬ (9223372036854775807 < 1 + (pt y 89).size) := by omega
  have f2 : ¬ (9223372036854775807 < 1 + (pt y 89).size + (pt m 77).size) := by omega
  have f3 : ¬ (9223372036854775807 < 1 + (pt y 89).size + (pt m 77).size + (pt n 87).size) := by omega
  have f4 : ¬ (9223372036854775807 < 1 + (pt y 89).size + (pt m 77).size + (pt n 87).size + (pt d 68).size) := by omega
  have q2 : (⟨#[84]⟩ : ByteArray).size = 1 := rfl
  have l1 : hh ≤ 1000000000000 := by omega
  have l2 : mm ≤ 1000000000000 := by omega
  have l3 : ss ≤ 1000000000000 := by omega
  have z5 := pt_size hh 72 l1
  have z6 := pt_size mm 77 l2
  have z7 := pt_size ss 83 l3
  have KC := hide (fun W => clockOf_any s W (by omega) (by omega))
  unfold clk at KC
  rw [eh, em, es] at KC
  have hs0 : (s == 0) = false := by simp; omega
  clear eh em es
  have hB : Below w.heap.size w (w.alloc (.cells #[.int .i64 y, .int .i64 m, .int .i64 n, .int .i64 d, .int .i64 s] 24)) := (Below.refl _ w).alloc (Nat.le_refl _) _
  go_enter Tryz.func63, Tryz.ntmps63
  go_wp2_with fail
  have a0 : (w.alloc (.cells #[.int .i64 y, .int .i64 m, .int .i64 n, .int .i64 d, .int .i64 s] 24)).cell? ⟨w.heap.size, 0, none⟩ = some (.int .i64 y) := by simp
  have a1 : (w.alloc (.cells #[.int .i64 y, .int .i64 m, .int .i64 n, .int .i64 d, .int .i64 s] 24)).cell? ⟨w.heap.size, 1, none⟩ = some (.int .i64 m) := by simp
  have a2 : (w.alloc (.cells #[.int .i64 y, .int .i64 m, .int .i64 n, .int .i64 d, .int .i64 s] 24)).cell? ⟨w.heap.size, 2, none⟩ = some (.int .i64 n) := by simp
  have a3 : (w.alloc (.cells #[.int .i64 y, .int .i64 m, .int .i64 n, .int .i64 d, .int .i64 s] 24)).cell? ⟨w.heap.size, 3, none⟩ = some (.int .i64 d) := by simp
  have a4 : (w.alloc (.cells #[.int .i64 y, .int .i64 m, .int .i64 n, .int .i64 d, .int .i64 s] 24)).cell? ⟨w.heap.size, 4, none⟩ = some (.int .i64 s) := by simp
  have hb1 : w.heap.size < (w.alloc (.cells #[.int .i64 y, .int .i64 m, .int .i64 n, .int .i64 d, .int .i64 s] 24)).heap.size := by simp
  generalize hV : (w.alloc (.cells #[.int .i64 y, .int .i64 m, .int .i64 n, .int .i64 d, .int .i64 s] 24)) = V at *
  generalize hb : w.heap.size = b at *
  have htV := hide (ht.later (by rw [hb]; exact hB))
  clear hV
  go_region_held3 (fun X => X.cell? ⟨b, 0, none⟩ = some (.int .i64 y) ∧ X.cell? ⟨b, 1, none⟩ = some (.int .i64 m) ∧ X.cell? ⟨b, 2, none⟩ = some (.int .i64 n) ∧ X.cell? ⟨b, 3, none⟩ = some (.int .i64 d) ∧ Below V.heap.size V X)
    (first | assumption | (refine ⟨a0, a1, a2, a3, Below.drew (Below.refl _ _)⟩) | (go_split_ands; refine ⟨?_, ?_, ?_, ?_, ?_⟩ <;> first | assumption | exact kept (by assumption) hx hb1 (by assumption) | exact on (by assumption) hx))
    ((go_at_call 88; refine (KP.out _ (by assumption) _ _ (htV.out.later (by assumption : _ ∧ _ ∧ _ ∧ _ ∧ Below V.heap.size V _).2.2.2.2)).mono ?_; rintro e X ⟨rfl, hx⟩))
  have hH := ‹X.cell? ⟨b, 0, none⟩ = _ ∧ _›
  have a4X := (hH.2.2.2.2.cell (p := ⟨b, 4, none⟩) hb1).trans a4
  have hB3 := hB.trans (hH.2.2.2.2.mono (by have := hB.size; omega))
  have htX := hide (htV.out.later hH.2.2.2.2)
  clear hx f1 f2 f3 f4
  have hTz : (⟨#[80]⟩ ++ pt y 89 ++ pt m 77 ++ pt n 87 ++ pt d 68 : ByteArray).size ≤ 100 := by
    simp only [ByteArray.size_append, q1]; omega
  generalize hT : (⟨#[80]⟩ ++ pt y 89 ++ pt m 77 ++ pt n 87 ++ pt d 68 : ByteArray) = T at *
  have HT := hide hT
  clear hT
  go_wp2_with fail
  refine (KC.out _).mono ?_
  rintro e W1 ⟨rfl, b1⟩
  have hB4 := hB3.trans (b1.mono (by have := hB3.size; omega))
  have htW := hide (htX.out.later b1)
  have c0 : (W1.alloc (.cells #[.int .i64 hh, .int .i64 mm, .int .i64 ss] 68)).cell? ⟨W1.heap.size, 0, none⟩ = some (.int .i64 hh) := by simp
  have c1 : (W1.alloc (.cells #[.int .i64 hh, .int .i64 mm, .int .i64 ss] 68)).cell? ⟨W1.heap.size, 1, none⟩ = some (.int .i64 mm) := by simp
  have c2 : (W1.alloc (.cells #[.int .i64 hh, .int .i64 mm, .int .i64 ss] 68)).cell? ⟨W1.heap.size, 2, none⟩ = some (.int .i64 ss) := by simp
  have hc1 : W1.heap.size < (W1.alloc (.cells #[.int .i64 hh, .int .i64 mm, .int .i64 ss] 68)).heap.size := by simp
  have hB5 := hB4.alloc (by have := hB4.size; omega) (.cells #[.int .i64 hh, .int .i64 mm, .int .i64 ss] 68)
  have htU := hide (htW.out.later ((Below.refl _ W1).alloc (Nat.le_refl _) (.cells #[.int .i64 hh, .int .i64 mm, .int .i64 ss] 68)))
  have g1 : ¬ (9223372036854775807 < T.size + 1) := by omega
  have g1b : ¬ (9223372036854775807 ≤ T.size) := by omega
  have g2 : ¬ (9223372036854775807 < T.size + 1 + (pt hh 72).size) := by omega
  have g3 : ¬ (9223372036854775807 < T.size + 1 + (pt hh 72).size + (pt mm 77).size) := by omega
  have g4 : ¬ (9223372036854775807 < T.size + 1 + (pt hh 72).size + (pt mm 77).size + (pt ss 83).size) := by omega
  go_wp2_with fail
  clear b1 hB4 hB3 htW htX hH htV
  generalize hU : (W1.alloc (.cells #[.int .i64 hh, .int .i64 mm, .int .i64 ss] 68)) = U at *
  generalize W1.heap.size = c at *
  go_region_held3 (fun Z => Z.cell? ⟨c, 0, none⟩ = some (.int .i64 hh) ∧ Z.cell? ⟨c, 1, none⟩ = some (.int .i64 mm) ∧ Z.cell? ⟨c, 2, none⟩ = some (.int .i64 ss) ∧ Below U.heap.size U Z)
    (first | assumption | (refine ⟨c0, c1, c2, Below.drew (Below.refl _ _)⟩) | (go_split_ands; refine ⟨?_, ?_, ?_, ?_⟩ <;> first | assumption | exact kept (by assumption) hz hc1 (by assumption) | exact on (by assumption) hz))
    ((go_at_call 88; refine (KP.out _ (by assumption) _ _ (htU.out.later (by assumption : _ ∧ _ ∧ _ ∧ Below U.heap.size U _).2.2.2)).mono ?_; rintro e Z ⟨rfl, hz⟩))
  have hK := ‹Z.cell? ⟨c, 0, none⟩ = _ ∧ _›
  have hB6 := hB5.trans (hK.2.2.2.mono (by have := hB5.size; omega))
  clear hz
  go_wp2_with fail
  go_ret
  exact ⟨by rw [HT.out]; rfl, by rw [hb]; exact hB6⟩
end Go.Proofs.YtafaacliphdndaaGreatDoor
namespace Go.Proofs.YtafaacliphdndaaGreatDoor
open Go.RowKit Go.Shelf
set_option linter.unusedVariables false
set_option linter.unusedSimpArgs false

/-- an offset that is none: a day or more, or not of whole minutes -/
def Obad (n : Int) : Prop := n ≤ -86400 ∨ (-86400 < n ∧ 86400 ≤ n) ∨ (-86400 < n ∧ n < 86400 ∧ (n.tmod 60 != 0) = true)
theorem Obad.dec (n : Int) : Obad n ∨ (-86400 < n ∧ n < 86400 ∧ n.tmod 60 = 0) := by
  unfold Obad
  by_cases h1 : n ≤ -86400
  · exact .inl (.inl h1)
  · by_cases h2 : 86400 ≤ n
    · exact .inl (.inr (.inl ⟨by omega, h2⟩))
    · by_cases h3 : n.tmod 60 = 0
      · exact .inr ⟨by omega, by omega, h3⟩
      · exact .inl (.inr (.inr ⟨by omega, by omega, by simpa using h3⟩))
/-- an offset's text: its sign ahead -/
def otx (sg : UInt8) (k : Nat) : ByteArray := ⟨#[sg]⟩ ++ Tx.pad (k / 3600) 2 ++ ⟨#[58]⟩ ++ Tx.pad (k % 3600 / 60) 2
theorem otx_size (sg : UInt8) (k : Nat) (h : k < 86400) : (otx sg k).size = 6 := by
  unfold otx
  simp only [ByteArray.size_append, Tx.pad2 _ (show k / 3600 < 100 by omega), Tx.pad2 _ (show k % 3600 / 60 < 100 by omega)]
  rfl

set_option maxHeartbeats 1600000 in
theorem offText_no (n : Int) (w : World) (h : Obad n) :
    Calls Tryz.prog 36 #[.int .i64 n] w fun e w' => e = .returned (.tuple #[.string ⟨#[]⟩, ev 4]) ∧ Below w.heap.size w w' := by
  unfold Obad at h
  rcases h with h | ⟨h1, h⟩ | ⟨h1, h2, h⟩
  all_goals
    go_enter Tryz.func36, Tryz.ntmps36
    go_wp2
    go_ret2
    exact ⟨rfl, Below.refl _ _⟩
set_option maxHeartbeats 1600000 in
theorem roffText_no (n : Int) (w : World) (h : Obad n) :
    Calls Tryz.prog 14 #[.int .i64 n] w fun e w' => e = .returned (.tuple #[.string ⟨#[]⟩, .int .i64 4]) ∧ Below w.heap.size w w' := by
  unfold Obad at h
  rcases h with h | ⟨h1, h⟩ | ⟨h1, h2, h⟩
  all_goals
    go_enter Tryz.func14, Tryz.ntmps14
    go_wp2
    go_ret2
    exact ⟨rfl, Below.refl _ _⟩
set_option maxRecDepth 100000 in
set_option maxHeartbeats 4000000 in
theorem offText_pos (k : Nat) (n : Int) (w : World) (ht : Tab w) (hn : n = k) (hk : k < 86400) (h6 : k % 60 = 0) :
    Calls Tryz.prog 36 #[.int .i64 n] w fun e w' => e = .returned (.tuple #[.string (otx 43 k), .nilIface]) ∧ Below w.heap.size w w' := by
  have k0 : 0 ≤ n := by omega
  have k1 : n < 86400 := by omega
  have h6' : n % 60 = 0 := by omega
  have KC := hide (fun W => clockOf_any n W (by omega) (by omega))
  have K2 := hide (fun (n : Nat) (hn : n < 100) W hW => digits_any n 2 W hW (by omega) (by omega))
  have hh : k / 3600 < 100 := by omega
  have hm : k % 3600 / 60 < 100 := by omega
  have z1 := Tx.pad2 _ hh
  have z2 := Tx.pad2 _ hm
  have e1 : n / 3600 = ((k / 3600 : Nat) : Int) := by omega
  have e2 : n % 3600 / 60 = ((k % 3600 / 60 : Nat) : Int) := by omega
  have HT := hide (show otx 43 k = ⟨#[43]⟩ ++ Tx.pad (k / 3600) 2 ++ ⟨#[58]⟩ ++ Tx.pad (k % 3600 / 60) 2 from rfl)
  unfold clk at KC
  rw [e1, e2] at KC
  generalize n % 60 = s3 at KC
  generalize otx 43 k = T at *
  generalize k / 3600 = h at *
  generalize k % 3600 / 60 = m at *
  have q1 : (⟨#[43]⟩ : ByteArray).size = 1 := rfl
  have q2 : (⟨#[58]⟩ : ByteArray).size = 1 := rfl
  clear e1 e2 hn h6 hk
  go_enter Tryz.func36, Tryz.ntmps36
  go_wp2_with fail
  refine (KC.out _).mono ?_
  rintro e W1 ⟨rfl, b1⟩
  go_wp2_with fail
  have a0 : (W1.alloc (.cells #[.int .i64 h, .int .i64 m, .int .i64 s3] 68)).cell? ⟨W1.heap.size, 0, none⟩ = some (.int .i64 h) := by simp
  have a1 : (W1.alloc (.cells #[.int .i64 h, .int .i64 m, .int .i64 s3] 68)).cell? ⟨W1.heap.size, 1, none⟩ = some (.int .i64 m) := by simp
  have hsz : W1.heap.size < (W1.alloc (.cells #[.int .i64 h, .int .i64 m, .int .i64 s3] 68)).heap.size := by simp
  have hB : Below w.heap.size w (W1.alloc (.cells #[.int .i64 h, .int .i64 m, .int .i64 s3] 68)) := b1.alloc b1.size _
  generalize hV : (W1.alloc (.cells #[.int .i64 h, .int .i64 m, .int .i64 s3] 68)) = V at *
  generalize W1.heap.size = b at *
  clear hV b1
  have htV := hide (ht.later hB)
  go_region_held3 (fun Z => Z.cell? ⟨b, 0, none⟩ = some (.int .i64 h) ∧ Z.cell? ⟨b, 1, none⟩ = some (.int .i64 m) ∧ Below V.heap.size V Z)
    (first | (refine ⟨a0, a1, Below.drew (Below.refl _ _)⟩) | (go_split_ands; refine ⟨?_, ?_, ?_⟩ <;> first | exact kept (by assumption) hz hsz (by assumption) | exact on (by assumption) hz))
    ((go_at_call 57; refine (K2.out _ (by assumption) _ (htV.out.later (by assumption : _ ∧ _ ∧ Below V.heap.size V _).2.2)).mono ?_; rintro e Z ⟨rfl, hz⟩))
  have hH := ‹Z.cell? ⟨b, 0, none⟩ = _ ∧ _›
  have hB3 := hB.trans (hH.2.2.mono hB.size)
  clear hz
  go_wp2_with fail
  go_ret2
  refine ⟨by rw [HT.out]; rfl, hB3⟩
end Go.Proofs.YtafaacliphdndaaGreatDoor
namespace Go.Proofs.YtafaacliphdndaaGreatDoor
open Go.RowKit Go.Shelf
set_option linter.unusedVariables false
set_option linter.unusedSimpArgs false

set_option maxRecDepth 100000 in
set_option maxHeartbeats 4000000 in
theorem offText_neg (k : Nat) (n : Int) (w : World) (ht : Tab w) (hn : -n = k) (h0 : n < 0) (hk : k < 86400) (h6 : k % 60 = 0) :
    Calls Tryz.prog 36 #[.int .i64 n] w fun e w' => e = .returned (.tuple #[.string (otx 45 k), .nilIface]) ∧ Below w.heap.size w w' := by
  have k0 : -86400 < n := by omega
  have hd : (60 : Int) ∣ n := by omega
  have h6' : (n.tmod 60 != 0) = false := by simp [Int.tmod_eq_zero_of_dvd hd]
  clear hd
  have KC := hide (fun W => clockOf_any (-n) W (by omega) (by omega))
  have K2 := hide (fun (n : Nat) (hn : n < 100) W hW => digits_any n 2 W hW (by omega) (by omega))
  have hh : k / 3600 < 100 := by omega
  have hm : k % 3600 / 60 < 100 := by omega
  have z1 := Tx.pad2 _ hh
  have z2 := Tx.pad2 _ hm
  have e1 : (-n) / 3600 = ((k / 3600 : Nat) : Int) := by omega
  have e2 : (-n) % 3600 / 60 = ((k % 3600 / 60 : Nat) : Int) := by omega
  have HT := hide (show otx 45 k = ⟨#[45]⟩ ++ Tx.pad (k / 3600) 2 ++ ⟨#[58]⟩ ++ Tx.pad (k % 3600 / 60) 2 from rfl)
  unfold clk at KC
  rw [e1, e2] at KC
  generalize (-n) % 60 = s3 at KC
  generalize otx 45 k = T at *
  generalize k / 3600 = h at *
  generalize k % 3600 / 60 = m at *
  have q1 : (⟨#[45]⟩ : ByteArray).size = 1 := rfl
  have q2 : (⟨#[58]⟩ : ByteArray).size = 1 := rfl
  clear e1 e2 hn h6 hk
  go_enter Tryz.func36, Tryz.ntmps36
  go_wp2_with fail
  refine (KC.out _).mono ?_
  rintro e W1 ⟨rfl, b1⟩
  go_wp2_with fail
  have a0 : (W1.alloc (.cells #[.int .i64 h, .int .i64 m, .int .i64 s3] 68)).cell? ⟨W1.heap.size, 0, none⟩ = some (.int .i64 h) := by simp
  have a1 : (W1.alloc (.cells #[.int .i64 h, .int .i64 m, .int .i64 s3] 68)).cell? ⟨W1.heap.size, 1, none⟩ = some (.int .i64 m) := by simp
  have hsz : W1.heap.size < (W1.alloc (.cells #[.int .i64 h, .int .i64 m, .int .i64 s3] 68)).heap.size := by simp
  have hB : Below w.heap.size w (W1.alloc (.cells #[.int .i64 h, .int .i64 m, .int .i64 s3] 68)) := b1.alloc b1.size _
  generalize hV : (W1.alloc (.cells #[.int .i64 h, .int .i64 m, .int .i64 s3] 68)) = V at *
  generalize W1.heap.size = b at *
  clear hV b1
  have htV := hide (ht.later hB)
  go_region_held3 (fun Z => Z.cell? ⟨b, 0, none⟩ = some (.int .i64 h) ∧ Z.cell? ⟨b, 1, none⟩ = some (.int .i64 m) ∧ Below V.heap.size V Z)
    (first | (refine ⟨a0, a1, Below.drew (Below.refl _ _)⟩) | (go_split_ands; refine ⟨?_, ?_, ?_⟩ <;> first | exact kept (by assumption) hz hsz (by assumption) | exact on (by assumption) hz))
    ((go_at_call 57; refine (K2.out _ (by assumption) _ (htV.out.later (by assumption : _ ∧ _ ∧ Below V.heap.size V _).2.2)).mono ?_; rintro e Z ⟨rfl, hz⟩))
  have hH := ‹Z.cell? ⟨b, 0, none⟩ = _ ∧ _›
  have hB3 := hB.trans (hH.2.2.mono hB.size)
  clear hz
  go_wp2_with fail
  go_ret2
  refine ⟨by rw [HT.out]; rfl, hB3⟩
end Go.Proofs.YtafaacliphdndaaGreatDoor
namespace Go.Proofs.YtafaacliphdndaaGreatDoor
open Go.RowKit Go.Shelf
set_option linter.unusedVariables false
set_option linter.unusedSimpArgs false

set_option maxRecDepth 100000 in
set_option maxHeartbeats 4000000 in
theorem roffText_pos (k : Nat) (n : Int) (w : World) (ht : Tab w) (hn : n = k) (hk : k < 86400) (h6 : k % 60 = 0) :
    Calls Tryz.prog 14 #[.int .i64 n] w fun e w' => e = .returned (.tuple #[.string (otx 43 k), .int .i64 0]) ∧ Below w.heap.size w w' := by
  have k0 : 0 ≤ n := by omega
  have k1 : n < 86400 := by omega
  have h6' : n % 60 = 0 := by omega
  have e2 : (n) / 60 % 60 = ((k % 3600 / 60 : Nat) : Int) := by omega
  have hh : k / 3600 < 100 := by omega
  have hm : k % 3600 / 60 < 100 := by omega
  have E1 := hide (show n / 3600 = ((k / 3600 : Nat) : Int) from by omega)
  have E2 := hide e2
  have K := hide (fun z (n : Nat) W hW hz (hn : n < 100) => rpad_eq z n 2 W hW hz (by omega) (by omega))
  have z1 := Tx.pad2 _ hh
  have z2 := Tx.pad2 _ hm
  have HT := hide (show otx 43 k = ⟨#[43]⟩ ++ Tx.pad (k / 3600) 2 ++ ⟨#[58]⟩ ++ Tx.pad (k % 3600 / 60) 2 from rfl)
  generalize otx 43 k = T at *
  generalize k / 3600 = h at *
  generalize k % 3600 / 60 = m at *
  have q1 : (⟨#[43]⟩ : ByteArray).size = 1 := rfl
  have q2 : (⟨#[58]⟩ : ByteArray).size = 1 := rfl
  clear hn h6 hk e2
  go_enter Tryz.func14, Tryz.ntmps14
  go_wp2_with fail
  refine (K.out _ h _ ht (by have := E1.out; omega) hh).mono ?_
  rintro e W1 ⟨rfl, b1⟩
  have ht1 := ht.later b1
  go_wp2_with fail
  refine (K.out _ m _ ht1 (by have := E2.out; omega) hm).mono ?_
  rintro e W2 ⟨rfl, b2⟩
  have hB := b1.trans (b2.mono b1.size)
  go_wp2_with fail
  go_ret2
  refine ⟨by rw [HT.out]; rfl, hB⟩
set_option maxRecDepth 100000 in
set_option maxHeartbeats 4000000 in
theorem roffText_neg (k : Nat) (n : Int) (w : World) (ht : Tab w) (hn : -n = k) (h0 : n < 0) (hk : k < 86400) (h6 : k % 60 = 0) :
    Calls Tryz.prog 14 #[.int .i64 n] w fun e w' => e = .returned (.tuple #[.string (otx 45 k), .int .i64 0]) ∧ Below w.heap.size w w' := by
  have k0 : -86400 < n := by omega
  have hd : (60 : Int) ∣ n := by omega
  have h6' : (n.tmod 60 != 0) = false := by simp [Int.tmod_eq_zero_of_dvd hd]
  clear hd
  have e2 : (-n) / 60 % 60 = ((k % 3600 / 60 : Nat) : Int) := by omega
  have hh : k / 3600 < 100 := by omega
  have hm : k % 3600 / 60 < 100 := by omega
  have f1 : -(n.tdiv 3600) = -n / 3600 := by rw [← Int.neg_tdiv]; exact Int.tdiv_eq_ediv_of_nonneg (by omega)
  have f2 : -(n.tdiv 60) = -n / 60 := by rw [← Int.neg_tdiv]; exact Int.tdiv_eq_ediv_of_nonneg (by omega)
  have E1 := hide (show wrap64 (-(n.tdiv 3600)) = ((k / 3600 : Nat) : Int) from by rw [f1, wrap64_id (by omega) (by omega)]; omega)
  have E2 := hide (show (wrap64 (-(n.tdiv 60))).tmod 60 = ((k % 3600 / 60 : Nat) : Int) from by rw [f2, wrap64_id (by omega) (by omega), Int.tmod_eq_emod_of_nonneg (by omega)]; omega)
  clear f1 f2
  have K := hide (fun z (n : Nat) W hW hz (hn : n < 100) => rpad_eq z n 2 W hW hz (by omega) (by omega))
  have z1 := Tx.pad2 _ hh
  have z2 := Tx.pad2 _ hm
  have HT := hide (show otx 45 k = ⟨#[45]⟩ ++ Tx.pad (k / 3600) 2 ++ ⟨#[58]⟩ ++ Tx.pad (k % 3600 / 60) 2 from rfl)
  generalize otx 45 k = T at *
  generalize k / 3600 = h at *
  generalize k % 3600 / 60 = m at *
  have q1 : (⟨#[45]⟩ : ByteArray).size = 1 := rfl
  have q2 : (⟨#[58]⟩ : ByteArray).size = 1 := rfl
  clear hn h6 hk e2
  go_enter Tryz.func14, Tryz.ntmps14
  go_wp2_with fail
  refine (K.out _ h _ ht E1.out hh).mono ?_
  rintro e W1 ⟨rfl, b1⟩
  have ht1 := ht.later b1
  go_wp2_with fail
  refine (K.out _ m _ ht1 E2.out hm).mono ?_
  rintro e W2 ⟨rfl, b2⟩
  have hB := b1.trans (b2.mono b1.size)
  go_wp2_with fail
  go_ret2
  refine ⟨by rw [HT.out]; rfl, hB⟩
end Go.Proofs.YtafaacliphdndaaGreatDoor
