/- package cron: what is asked of numbers (has, rise, all); the reference's rising. -/
import Derived.Test.YtgbbplkpepaidaaGreatDoorMCronTimes2
import Derived.RangeFuncBox
namespace Go.Proofs.YtgbbplkpepaidaaGreatDoor
open Go.RowKit
set_option linter.unusedVariables false
set_option linter.unusedSimpArgs false

/-- a kind as a value -/
abbrev kindV (lo hi : Int) (s : ByteArray) (z : Int) : Value := .agg #[.int .i64 lo, .int .i64 hi, .string s, .int .i64 z]
/-- a box that holds one -/
def KBox (W : World) (B : Nat) (lo hi : Int) (s : ByteArray) (z : Int) : Prop := W.heap[B]? = some (.cells #[.int .i64 lo, .int .i64 hi, .string s, .int .i64 z] 68 (0, 0))
theorem KBox.new (W : World) (lo hi : Int) (s : ByteArray) (z : Int) : KBox (W.alloc (.cells #[.int .i64 lo, .int .i64 hi, .string s, .int .i64 z] 68)) W.heap.size lo hi s z := World.alloc_heap_new W _
theorem KBox.lt {W : World} {B : Nat} {lo hi : Int} {s : ByteArray} {z : Int} (h : KBox W B lo hi s z) : B < W.heap.size := (Array.getElem?_eq_some_iff.1 h).1
theorem KBox.cells {W : World} {B : Nat} {lo hi : Int} {s : ByteArray} {z : Int} (h : KBox W B lo hi s z) :
    W.cell? ⟨B, 0, none⟩ = some (.int .i64 lo) ∧ W.cell? ⟨B, 1, none⟩ = some (.int .i64 hi) ∧ W.cell? ⟨B, 2, none⟩ = some (.string s) ∧ W.cell? ⟨B, 3, none⟩ = some (.int .i64 z) :=
  ⟨cell_of_row _ _ _ _ _ (0, 0) h, cell_of_row _ _ _ _ _ (0, 0) h, cell_of_row _ _ _ _ _ (0, 0) h, cell_of_row _ _ _ _ _ (0, 0) h⟩
theorem KBox.frozen {W : World} {B : Nat} {lo hi : Int} {s : ByteArray} {z : Int} (h : KBox W B lo hi s z) : W.frozen? ⟨B, 0, none⟩ = false := by simp [World.frozen?, show W.heap[B]? = _ from h]
theorem KBox.later {W W' : World} {B : Nat} {lo hi : Int} {s : ByteArray} {z : Int} (h : KBox W B lo hi s z) (hb : Below W.heap.size W W') : KBox W' B lo hi s z := (hb.block B h.lt).trans h
theorem KBox.set {W : World} {B : Nat} {lo hi : Int} {s : ByteArray} {z : Int} (h : KBox W B lo hi s z) (m : Int) : KBox (W.setCell ⟨B, 0, none⟩ (.int .i64 m)) B m hi s z := by
  obtain ⟨hlt, hk⟩ := Array.getElem?_eq_some_iff.1 h
  show (W.heap.modify B _)[B]? = _
  rw [Array.getElem?_eq_getElem (by rw [Array.size_modify]; exact hlt), Array.getElem_modify_self, hk]
  rfl
/-- numbers in memory -/
def IL (a : Option Addr) (l : List Int) (W : World) : Prop := ∀ k, k < l.length → ∃ ad, a = some ad ∧ W.cell? (ad.add k) = some (.int .i64 (l.getD k 0))
theorem IL.later {a : Option Addr} {l : List Int} {W W' : World} (h : IL a l W) (hb : Below W.heap.size W W') : IL a l W' := fun k hk => by
  obtain ⟨ad, e, hc⟩ := h k hk
  exact ⟨ad, e, (hb.cell (World.block_lt_of_cell? _ _ hc)).trans hc⟩
set_option maxHeartbeats 1000000 in
theorem has_any (lo hi z n : Int) (s : ByteArray) (w : World) :
    Calls Tryz.prog 47 #[kindV lo hi s z, .int .i64 n] w fun e w' => e = .returned (.bool (decide (lo ≤ n ∧ n ≤ hi))) ∧ Below w.heap.size w w' := by
  obtain ⟨c0, c1, c2, c3⟩ := (KBox.new w lo hi s z).cells
  have hB : Below w.heap.size w (w.alloc (.cells #[.int .i64 lo, .int .i64 hi, .string s, .int .i64 z] 68)) := (Below.refl _ w).alloc (Nat.le_refl _) _
  have HB := hide hB
  clear hB
  by_cases h1 : lo ≤ n
  · by_cases h2 : n ≤ hi
    · rw [decide_eq_true (And.intro h1 h2)]
      go_enter Tryz.func47, Tryz.ntmps47
      go_wp2
      go_ret
      exact ⟨rfl, HB.out⟩
    · rw [decide_eq_false (fun h => h2 h.2)]
      go_enter Tryz.func47, Tryz.ntmps47
      go_wp2
      go_ret
      exact ⟨rfl, HB.out⟩
  · rw [decide_eq_false (fun h => h1 h.1)]
    go_enter Tryz.func47, Tryz.ntmps47
    go_wp2
    go_ret
    exact ⟨rfl, HB.out⟩
set_option maxHeartbeats 2000000 in
theorem rise_any (lo hi z : Int) (s : ByteArray) (a : Option Addr) (c : Nat) (l : List Int) (w : World) (h : IL a l w) (b0 : 0 ≤ lo) (b1 : hi ≤ 1000) :
    Calls Tryz.prog 29 #[kindV lo hi s z, .slice a l.length c] w fun e w' => e = .returned (.bool (Crn.rises lo hi l)) ∧ Below w.heap.size w w' := by
  have KH := hide (fun m n W => has_any m hi z n s W)
  have HL := hide h
  have HR : Hid (Crn.rises lo hi l = Crn.allB (Crn.okR lo hi l) l.length) := rfl
  generalize Crn.rises lo hi l = R at *
  have x0 := hide (KBox.new w lo hi s z)
  have hb0 : Hid (Below w.heap.size w (w.alloc (.cells #[.int .i64 lo, .int .i64 hi, .string s, .int .i64 z] 68))) := (Below.refl _ w).alloc (Nat.le_refl _) _
  clear h
  go_enter Tryz.func29, Tryz.ntmps29
  go_wp2_with fail
  go_loopw [9] (fun i wr => ∃ (k : Nat) (m : Int), k ≤ l.length ∧ i = .int .i64 k ∧ m = (if k = 0 then lo else l.getD (k - 1) 0 + 1) ∧ Crn.allB (Crn.okR lo hi l) k = true ∧ KBox wr w.heap.size m hi s z ∧ Below w.heap.size w wr) (fun i _ => l.length - (intOf i).toNat)
  case atStart => exact ⟨0, lo, by omega, rfl, by simp, rfl, x0.out, hb0.out⟩
  case round =>
    clear x0 hb0
    obtain ⟨k, m, hk, rfl, hm, hall, hx, hb⟩ := hrel
    by_cases hlt : k < l.length
    · have hki : (k : Int) < l.length := by omega
      obtain ⟨ad, rfl, hc⟩ := (HL.out.later hb) k hlt
      obtain ⟨c0, c1, c2, c3⟩ := hx.cells
      have hf := hx.frozen
      have hcode := Crn.okR_code hall
      have hk1 := Crn.all_bd hall b0 b1
      rw [← hm] at hcode
      have hno := fun h : Crn.okR lo hi l k = false => Crn.allB_no h l.length hlt
      have hbd := fun h : Crn.okR lo hi l k = true => Crn.okR_bd h
      have hstep : Crn.allB (Crn.okR lo hi l) (k + 1) = (Crn.allB (Crn.okR lo hi l) k && Crn.okR lo hi l k) := rfl
      have hnext : l.getD k 0 + 1 = (if k + 1 = 0 then lo else l.getD (k + 1 - 1) 0 + 1) := by rw [if_neg (by omega), Nat.add_sub_cancel]
      rw [hall, Bool.true_and] at hstep
      have HH := hide (And.intro hno (And.intro hstep hnext))
      have HX := hide (And.intro hx hb)
      clear hno hstep hm hnext hall hx hb
      generalize l.getD k 0 = n at *
      generalize Crn.okR lo hi l k = o at *
      have HC := hide hcode
      clear hcode
      go_wp2_with fail
      refine (KH.out _ _ _).mono ?_
      rintro e W1 ⟨rfl, b1⟩
      rw [← HC.out]
      have hx1 := HX.out.1.later b1
      have hB1 := HX.out.2.trans (b1.mono HX.out.2.size)
      obtain ⟨c0, c1, c2, c3⟩ := hx1.cells
      have hf := hx1.frozen
      cases o
      · have e1 := HH.out.1 rfl
        go_wp2
        go_ret
        exact ⟨by rw [HR.out, e1]; rfl, hB1⟩
      · have hbd := hbd rfl
        have hx2 := hx1.set (n + 1)
        have hB2 : Below w.heap.size w (W1.setCell ⟨w.heap.size, 0, none⟩ (.int .i64 (n + 1))) := hB1.setCell (p := ⟨w.heap.size, 0, none⟩) (Nat.le_refl _) _
        have hww : wrap64 (n + 1) = n + 1 := wrap64_id (by omega) (by omega)
        clear hx1 hB1 HX
        go_wp2
        go_roundw
        case rel => exact ⟨k + 1, n + 1, by omega, by go_num, HH.out.2.2, HH.out.2.1, hx2, hB2⟩
        case measure => simp [intOf]; omega
    · have hkn : k = l.length := by omega
      have hki : (l.length : Int) ≤ k := by omega
      rw [hkn] at hall
      go_wp2
      go_ret
      exact ⟨by rw [HR.out, hall]; rfl, hb⟩
end Go.Proofs.YtgbbplkpepaidaaGreatDoor
