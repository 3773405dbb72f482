/- StampText: the reference's. -/
import Derived.Test.YtafaacliphdndaaGreatDoorMClockTexts41
namespace Go.Proofs.YtafaacliphdndaaGreatDoor
open Go.RowKit Go.Shelf
set_option linter.unusedVariables false
set_option linter.unusedSimpArgs false

theorem box3w (w W : World) (T : TypeId) (c0 c1 c2 : Value) (hb : Below (w.alloc (.cells #[c0, c1, c2] T)).heap.size (w.alloc (.cells #[c0, c1, c2] T)) W) :
    W.cell? ⟨w.heap.size, 0, none⟩ = some c0 ∧ W.cell? ⟨w.heap.size, 1, none⟩ = some c1 ∧ W.cell? ⟨w.heap.size, 2, none⟩ = some c2 ∧ w.heap.size < W.heap.size ∧ Below w.heap.size w W := by
  refine ⟨?_, ?_, ?_, by have := hb.size; simp at this; omega, ((Below.refl _ w).alloc (Nat.le_refl _) _).trans (hb.mono (by simp))⟩
  · rw [hb.cell (p := ⟨w.heap.size, 0, none⟩) (by simp)]; simp [go_sem]
  · rw [hb.cell (p := ⟨w.heap.size, 1, none⟩) (by simp)]; simp [go_sem]
  · rw [hb.cell (p := ⟨w.heap.size, 2, none⟩) (by simp)]; simp [go_sem]
/-- a stamp's text, and what is told: of its time's text T (k is told) and its offset's text O (j is told) -/
def stT (z o : Int) (T : ByteArray) (k : Int) (O : ByteArray) (j : Int) : ByteArray :=
  if k ≠ 0 then ⟨#[]⟩ else if z = 2 then (if j = 0 then T ++ O else ⟨#[]⟩) else if o ≠ 0 then ⟨#[]⟩ else if z = 0 then T else if z = 1 then T ++ ⟨#[90]⟩ else ⟨#[]⟩
def stK (z o k j : Int) : Int :=
  if k ≠ 0 then k else if z = 2 then j else if o ≠ 0 then 1 else if z = 0 then 0 else if z = 1 then 0 else 1
/-- one of the ways: the walk from the time's text on -/
theorem app_nil (T : ByteArray) : T ++ ⟨#[]⟩ = T := by
  obtain ⟨d⟩ := T
  rw [Tx.mk_app, Array.append_empty]
set_option maxRecDepth 100000 in
set_option maxHeartbeats 4000000 in
theorem stext_no (t z o : Int) (T : ByteArray) (w : World) (ht : Tab w)
    (kc : ∀ W, Tab W → Calls Tryz.prog 34 #[.int .i64 t] W fun e w' => e = .returned (.tuple #[.string T, ev 4]) ∧ Below W.heap.size W w') :
    Calls Tryz.prog 37 #[.agg #[.int .i64 t, .int .i64 z, .int .i64 o]] w fun e w' => e = .returned (.tuple #[.string ⟨#[]⟩, ev 4]) ∧ Below w.heap.size w w' := by
  have KC := hide kc
  have hd := hide (fun W (h : Below w.heap.size w W) => ht.later h)
  clear kc
  unfold ev at *
  rw [if_neg (by decide)] at *
  go_enter Tryz.func37, Tryz.ntmps37
  go_wp2_with fail
  refine (KC.out _ (hd.out _ ((Below.refl _ w).alloc (Nat.le_refl _) _))).mono ?_
  rintro e W1 ⟨rfl, b1⟩
  obtain ⟨a0, a1, a2, hsz, hB⟩ := box3w w W1 _ _ _ _ b1
  clear b1
  go_wp2_with fail
  go_ret2
  exact ⟨rfl, hB⟩
set_option maxRecDepth 100000 in
set_option maxHeartbeats 4000000 in
theorem stext_off (t o j : Int) (T O : ByteArray) (w : World) (ht : Tab w) (hj : j = 0 ∨ j = 4) (hT : T.size ≤ 100) (hO : O.size ≤ 100)
    (kc : ∀ W, Tab W → Calls Tryz.prog 34 #[.int .i64 t] W fun e w' => e = .returned (.tuple #[.string T, .nilIface]) ∧ Below W.heap.size W w')
    (ko : ∀ W, Tab W → Calls Tryz.prog 36 #[.int .i64 o] W fun e w' => e = .returned (.tuple #[.string O, ev j]) ∧ Below W.heap.size W w') :
    Calls Tryz.prog 37 #[.agg #[.int .i64 t, .int .i64 2, .int .i64 o]] w fun e w' => e = .returned (.tuple #[.string (if j = 0 then T ++ O else ⟨#[]⟩), ev j]) ∧ Below w.heap.size w w' := by
  have KC := hide kc
  have KO := hide ko
  have hd := hide (fun W (h : Below w.heap.size w W) => ht.later h)
  have hs : T.size + O.size ≤ 1000 := by omega
  clear kc ko
  rcases hj with rfl | rfl
  · rw [if_pos rfl]
    unfold ev at *
    rw [if_pos rfl] at *
    go_enter Tryz.func37, Tryz.ntmps37
    go_wp2_with fail
    refine (KC.out _ (hd.out _ ((Below.refl _ w).alloc (Nat.le_refl _) _))).mono ?_
    rintro e W1 ⟨rfl, b1⟩
    obtain ⟨a0, a1, a2, hsz, hB⟩ := box3w w W1 _ _ _ _ b1
    clear b1
    go_wp2_with fail
    refine (KO.out _ (hd.out _ hB)).mono ?_
    rintro e W2 ⟨rfl, b2⟩
    have hB2 := hB.trans (b2.mono hB.size)
    clear b2
    go_wp2_with fail
    go_ret2
    exact ⟨rfl, hB2⟩
  · rw [if_neg (by decide)]
    unfold ev at *
    rw [if_neg (by decide)] at *
    go_enter Tryz.func37, Tryz.ntmps37
    go_wp2_with fail
    refine (KC.out _ (hd.out _ ((Below.refl _ w).alloc (Nat.le_refl _) _))).mono ?_
    rintro e W1 ⟨rfl, b1⟩
    obtain ⟨a0, a1, a2, hsz, hB⟩ := box3w w W1 _ _ _ _ b1
    clear b1
    go_wp2_with fail
    refine (KO.out _ (hd.out _ hB)).mono ?_
    rintro e W2 ⟨rfl, b2⟩
    have hB2 := hB.trans (b2.mono hB.size)
    clear b2
    go_wp2_with fail
    go_ret2
    exact ⟨rfl, hB2⟩
set_option maxRecDepth 100000 in
set_option maxHeartbeats 4000000 in
theorem stext_plain (t z o : Int) (T R : ByteArray) (k : Int) (w : World) (ht : Tab w) (hT : T.size ≤ 100)
    (hz : (z != 2) = true ∧ ((o != 0) = true ∧ R = ⟨#[]⟩ ∧ k = 1 ∨ o = 0 ∧ (z = 0 ∧ R = T ∧ k = 0 ∨ z = 1 ∧ R = T ++ ⟨#[90]⟩ ∧ k = 0 ∨ (z != 0) = true ∧ (z != 1) = true ∧ R = ⟨#[]⟩ ∧ k = 1)))
    (kc : ∀ W, Tab W → Calls Tryz.prog 34 #[.int .i64 t] W fun e w' => e = .returned (.tuple #[.string T, .nilIface]) ∧ Below W.heap.size W w') :
    Calls Tryz.prog 37 #[.agg #[.int .i64 t, .int .i64 z, .int .i64 o]] w fun e w' => e = .returned (.tuple #[.string R, ev k]) ∧ Below w.heap.size w w' := by
  have KC := hide kc
  have hd := hide (fun W (h : Below w.heap.size w W) => ht.later h)
  have hn := hide (app_nil T)
  have hs : T.size + (⟨#[90]⟩ : ByteArray).size ≤ 1000 := by have : (⟨#[90]⟩ : ByteArray).size = 1 := rfl; omega
  clear kc
  obtain ⟨z2, ⟨o1, rfl, rfl⟩ | ⟨rfl, ⟨rfl, rfl, rfl⟩ | ⟨rfl, rfl, rfl⟩ | ⟨z0, z1, rfl, rfl⟩⟩⟩ := hz
  all_goals
    unfold ev
    first | rw [if_pos rfl] | rw [if_neg (by decide)]
    go_enter Tryz.func37, Tryz.ntmps37
    go_wp2_with fail
    refine (KC.out _ (hd.out _ ((Below.refl _ w).alloc (Nat.le_refl _) _))).mono ?_
    rintro e W1 ⟨rfl, b1⟩
    obtain ⟨a0, a1, a2, hsz, hB⟩ := box3w w W1 _ _ _ _ b1
    clear b1
    go_wp2_with fail
    go_ret2
    first | exact ⟨rfl, hB⟩ | exact ⟨by rw [hn.out]; rfl, hB⟩
end Go.Proofs.YtafaacliphdndaaGreatDoor
namespace Go.Proofs.YtafaacliphdndaaGreatDoor
open Go.RowKit Go.Shelf
set_option linter.unusedVariables false
set_option linter.unusedSimpArgs false

set_option maxRecDepth 100000 in
set_option maxHeartbeats 4000000 in
theorem rstext_no (t z o : Int) (T : ByteArray) (w : World) (ht : Tab w)
    (kc : ∀ W, Tab W → Calls Tryz.prog 12 #[.int .i64 t] W fun e w' => e = .returned (.tuple #[.string T, (.int .i64 4)]) ∧ Below W.heap.size W w') :
    Calls Tryz.prog 16 #[.agg #[.int .i64 t, .int .i64 z, .int .i64 o]] w fun e w' => e = .returned (.tuple #[.string ⟨#[]⟩, (.int .i64 4)]) ∧ Below w.heap.size w w' := by
  have KC := hide kc
  have hd := hide (fun W (h : Below w.heap.size w W) => ht.later h)
  clear kc
  go_enter Tryz.func16, Tryz.ntmps16
  go_wp2_with fail
  refine (KC.out _ (hd.out _ ((Below.refl _ w).alloc (Nat.le_refl _) _))).mono ?_
  rintro e W1 ⟨rfl, b1⟩
  obtain ⟨a0, a1, a2, hsz, hB⟩ := box3w w W1 _ _ _ _ b1
  clear b1
  go_wp2_with fail
  go_ret2
  exact ⟨rfl, hB⟩
set_option maxRecDepth 100000 in
set_option maxHeartbeats 4000000 in
theorem rstext_off (t o j : Int) (T O : ByteArray) (w : World) (ht : Tab w) (hj : j = 0 ∨ j = 4) (hT : T.size ≤ 100) (hO : O.size ≤ 100)
    (kc : ∀ W, Tab W → Calls Tryz.prog 12 #[.int .i64 t] W fun e w' => e = .returned (.tuple #[.string T, .int .i64 0]) ∧ Below W.heap.size W w')
    (ko : ∀ W, Tab W → Calls Tryz.prog 14 #[.int .i64 o] W fun e w' => e = .returned (.tuple #[.string O, (.int .i64 j)]) ∧ Below W.heap.size W w') :
    Calls Tryz.prog 16 #[.agg #[.int .i64 t, .int .i64 2, .int .i64 o]] w fun e w' => e = .returned (.tuple #[.string (if j = 0 then T ++ O else ⟨#[]⟩), (.int .i64 j)]) ∧ Below w.heap.size w w' := by
  have KC := hide kc
  have KO := hide ko
  have hd := hide (fun W (h : Below w.heap.size w W) => ht.later h)
  have hs : T.size + O.size ≤ 1000 := by omega
  clear kc ko
  rcases hj with rfl | rfl
  · rw [if_pos rfl]
    go_enter Tryz.func16, Tryz.ntmps16
    go_wp2_with fail
    refine (KC.out _ (hd.out _ ((Below.refl _ w).alloc (Nat.le_refl _) _))).mono ?_
    rintro e W1 ⟨rfl, b1⟩
    obtain ⟨a0, a1, a2, hsz, hB⟩ := box3w w W1 _ _ _ _ b1
    clear b1
    go_wp2_with fail
    refine (KO.out _ (hd.out _ hB)).mono ?_
    rintro e W2 ⟨rfl, b2⟩
    have hB2 := hB.trans (b2.mono hB.size)
    clear b2
    go_wp2_with fail
    go_ret2
    exact ⟨rfl, hB2⟩
  · rw [if_neg (by decide)]
    go_enter Tryz.func16, Tryz.ntmps16
    go_wp2_with fail
    refine (KC.out _ (hd.out _ ((Below.refl _ w).alloc (Nat.le_refl _) _))).mono ?_
    rintro e W1 ⟨rfl, b1⟩
    obtain ⟨a0, a1, a2, hsz, hB⟩ := box3w w W1 _ _ _ _ b1
    clear b1
    go_wp2_with fail
    refine (KO.out _ (hd.out _ hB)).mono ?_
    rintro e W2 ⟨rfl, b2⟩
    have hB2 := hB.trans (b2.mono hB.size)
    clear b2
    go_wp2_with fail
    go_ret2
    exact ⟨rfl, hB2⟩
set_option maxRecDepth 100000 in
set_option maxHeartbeats 4000000 in
theorem rstext_plain (t z o : Int) (T R : ByteArray) (k : Int) (w : World) (ht : Tab w) (hT : T.size ≤ 100)
    (hz : z < 0 ∧ R = ⟨#[]⟩ ∧ k = 1 ∨ 0 ≤ z ∧ 2 < z ∧ R = ⟨#[]⟩ ∧ k = 1 ∨ 0 ≤ z ∧ z < 2 ∧ (o != 0) = true ∧ R = ⟨#[]⟩ ∧ k = 1 ∨ z = 0 ∧ o = 0 ∧ R = T ∧ k = 0 ∨ z = 1 ∧ o = 0 ∧ R = T ++ ⟨#[90]⟩ ∧ k = 0)
    (kc : ∀ W, Tab W → Calls Tryz.prog 12 #[.int .i64 t] W fun e w' => e = .returned (.tuple #[.string T, .int .i64 0]) ∧ Below W.heap.size W w') :
    Calls Tryz.prog 16 #[.agg #[.int .i64 t, .int .i64 z, .int .i64 o]] w fun e w' => e = .returned (.tuple #[.string R, (.int .i64 k)]) ∧ Below w.heap.size w w' := by
  have KC := hide kc
  have hd := hide (fun W (h : Below w.heap.size w W) => ht.later h)
  have hn := hide (app_nil T)
  have hs : T.size + (⟨#[90]⟩ : ByteArray).size ≤ 1000 := by have : (⟨#[90]⟩ : ByteArray).size = 1 := rfl; omega
  clear kc
  rcases hz with ⟨z1, rfl, rfl⟩ | ⟨z0, z1, rfl, rfl⟩ | ⟨z0, z1, o1, rfl, rfl⟩ | ⟨rfl, rfl, rfl, rfl⟩ | ⟨rfl, rfl, rfl, rfl⟩
  all_goals
    go_enter Tryz.func16, Tryz.ntmps16
    go_wp2_with fail
    refine (KC.out _ (hd.out _ ((Below.refl _ w).alloc (Nat.le_refl _) _))).mono ?_
    rintro e W1 ⟨rfl, b1⟩
    obtain ⟨a0, a1, a2, hsz, hB⟩ := box3w w W1 _ _ _ _ b1
    clear b1
    go_wp2_with fail
    go_ret2
    first | exact ⟨rfl, hB⟩ | exact ⟨by rw [hn.out]; rfl, hB⟩
end Go.Proofs.YtafaacliphdndaaGreatDoor
