/- package text: a byte in a text; what may be a param's value. -/
import Derived.Test.YtponocolfjkapaaDoorMTextBackUpto15
import Derived.Test.YtponocolfjkapaaDoorSh
namespace Go.Proofs.YtponocolfjkapaaDoor
open Go.RowKit Go.Shelf
set_option linter.unusedVariables false
set_option linter.unusedSimpArgs false

/-- has a text a byte? -/
def hasB (s : ByteArray) (c : UInt8) : Bool := (Tl.tx s).any (· == c)
theorem idx_lo (c : UInt8) : ∀ l : List UInt8, -1 ≤ Lib.indexByte l c
  | [] => Int.le_refl _
  | b :: l => by
    have ih := idx_lo c l
    rw [Lib.indexByte]
    generalize Lib.indexByte l c = r at *
    split
    · omega
    · split <;> omega
theorem idx_any (c : UInt8) : ∀ l : List UInt8, decide (0 ≤ Lib.indexByte l c) = l.any (· == c)
  | [] => rfl
  | b :: l => by
    have ih := idx_any c l
    have lo := idx_lo c l
    rw [List.any_cons, ← ih, Lib.indexByte]
    generalize Lib.indexByte l c = r at *
    cases h : (b == c)
    · rw [Bool.false_or, if_neg (by simp), decide_eq_decide]
      by_cases e : r = -1
      · subst e; simp
      · rw [if_neg (by simpa using e)]; omega
    · simp
theorem contains_one (s : ByteArray) (c : UInt8) (w : World) : Calls Tryd.prog 70 #[.string s, .string ⟨#[c]⟩] w fun e w' => e = .returned (.bool (hasB s c)) ∧ w' = w := by
  have h := Tryd.strings_Contains_one s c w
  rw [idx_any] at h
  exact h
theorem isParam_any (s : ByteArray) (w : World) (h1 : s.size ≤ 1000000000) :
    Calls Tryd.prog 63 #[.string s] w fun e w' => e = .returned (.bool (!ctS s && !hasB s 34)) ∧ w' = w := by
  have K1 := hide (fun W => hasControl_any s W h1)
  have K2 := hide (fun W => contains_one s 34 W)
  generalize ctS s = R at *
  generalize hasB s 34 = R2 at *
  cases R
  · go_enter Tryd.func63, Tryd.ntmps63
    go_wp2_with (first | (go_at_call 55; refine (K1.out _).mono ?_; rintro e w' ⟨rfl, rfl⟩) | (go_at_call 70; refine (K2.out _).mono ?_; rintro e w' ⟨rfl, rfl⟩))
    go_ret
    exact ⟨by simp, rfl⟩
  · go_enter Tryd.func63, Tryd.ntmps63
    go_wp2_with (first | (go_at_call 55; refine (K1.out _).mono ?_; rintro e w' ⟨rfl, rfl⟩) | (go_at_call 70; refine (K2.out _).mono ?_; rintro e w' ⟨rfl, rfl⟩))
    go_ret
    exact ⟨by simp, rfl⟩
theorem ext_one (s : ByteArray) (k : Nat) (h : k < s.size) : s.extract k (k + 1) = ⟨#[s[k]]⟩ := by
  have e : Tl.tx (s.extract k (k + 1)) = [s[k]] := by
    rw [Tl.tx_extract, Nat.add_sub_cancel_left, List.take_one, List.head?_drop, List.getElem?_eq_getElem (by rw [Tl.tx_len]; exact h)]
    rfl
  have : s.extract k (k + 1) = Tl.str (Tl.tx (s.extract k (k + 1))) := rfl
  rw [this, e]
  rfl
theorem tl_one (a : UInt8) : (⟨#[a]⟩ : ByteArray).toList = [a] := by
  unfold ByteArray.toList
  rw [ByteArray.toList.loop]
  rw [ByteArray.toList.loop]
  rfl
theorem ext_tl (s : ByteArray) (k : Nat) (h : k < s.size) (c : UInt8) : ((s.extract k (k + 1)).toList == [c]) = (s[k] == c) := by
  rw [ext_one s k h, tl_one]
  simp
set_option maxRecDepth 100000 in
set_option maxHeartbeats 2000000 in
theorem has_one (s : ByteArray) (c : UInt8) (w : World) (h1 : s.size ≤ 1000000000) :
    Calls Tryd.prog 26 #[.string s, .string ⟨#[c]⟩] w fun e w' => e = .returned (.bool (hasB s c)) ∧ w' = w := by
  have HY : Hid (∀ k (h : k < s.size), s[k] = c → hasB s c = true) := fun k h e => by
    unfold hasB
    rw [List.any_eq_true]
    exact ⟨s[k], List.mem_iff_getElem.2 ⟨k, by rw [Tl.tx_len]; exact h, rfl⟩, by rw [e]; simp⟩
  have HN : Hid ((∀ k (h : k < s.size), s[k] ≠ c) → hasB s c = false) := fun h => by
    unfold hasB
    rw [List.any_eq_false]
    intro b hb
    obtain ⟨k, hk, rfl⟩ := List.mem_iff_getElem.1 hb
    rw [Tl.tx_len] at hk
    have := h k hk
    exact fun e => this (eq_of_beq e)
  generalize hasB s c = R at *
  have hz : (⟨#[c]⟩ : ByteArray).size = 1 := rfl
  go_enter Tryd.func26, Tryd.ntmps26
  go_wp2_with fail
  go_loopw [5] (fun i wr => ∃ k : Nat, k ≤ s.size ∧ i = .int .i64 k ∧ (∀ k' (h : k' < s.size), k' < k → s[k'] ≠ c) ∧ w = wr) (fun i _ => s.size - (intOf i).toNat)
  case atStart => exact ⟨0, by omega, rfl, fun k' h h' => by omega, rfl⟩
  case round =>
    obtain ⟨k, hk, rfl, hall, rfl⟩ := hrel
    by_cases hlt : k < s.size
    · have hi : (k : Int) + 1 ≤ s.size := by omega
      have HH := hide hall
      have hq := ext_tl s k hlt c
      have hq2 := ext_tl s k hlt c
      rw [← tl_one c] at hq2
      have hsl := fun wx => run_slice_string (P := Tryd.prog) wx 9 s .i64 .i64 (k : Int) ((k : Int) + 1) Tryd.underlying9 (by omega) (by omega) (by omega)
      clear hall
      by_cases hb : s[k] = c
      · have hR := HY.out k hlt hb
        subst hR
        rw [hb, beq_self_eq_true] at hq hq2
        go_wp2
        go_ret
        exact ⟨rfl, rfl⟩
      · rw [beq_eq_false_iff_ne.2 hb] at hq hq2
        go_wp2
        go_roundw
        case rel => exact ⟨k + 1, by omega, by go_num, fun k' h h' => by
          by_cases e : k' = k
          · subst e; exact hb
          · exact HH.out k' h (by omega), by first | trivial | rfl⟩
        case measure => simp [intOf]; omega
    · obtain rfl : k = s.size := by omega
      have hi : ¬ (s.size : Int) + 1 ≤ s.size := by omega
      have hR := HN.out (fun k' h => hall k' h h)
      subst hR
      go_wp2
      go_ret
      exact ⟨rfl, rfl⟩
end Go.Proofs.YtponocolfjkapaaDoor
