/- strings.ContainsAny of what ends a value, at any text (also one that is no ASCII). -/
import Derived.Test.YtponocolfjkapaaDoorMTextBackUpto2
import Derived.Test.YtponocolfjkapaaDoorSh
import Derived.Laws.RangeAny
import Derived.Laws.RangeString
import Derived.Laws.Runes
import Derived.Deep.QuietTactic
import Derived.WalkMore
import Derived.Deep.RegionLawGrows
namespace Go.Proofs.YtponocolfjkapaaDoor
open Go.RowKit Go.Shelf
set_option linter.unusedVariables false
set_option linter.unusedSimpArgs false

/-- a byte that is no ASCII: what is read there -/
theorem dec_hi (s : ByteArray) (i : Nat) (h : i < s.size) (hb : 128 ≤ s[i].toNat) :
    128 ≤ (Utf8.decode s i).1 ∧ ((Utf8.decode s i).1 = 65533 ∨ Utf8.valid ((Utf8.decode s i).1 : Int) = true) ∧ 1 ≤ (Utf8.decode s i).2 ∧ i + (Utf8.decode s i).2 ≤ s.size ∧ ∀ k, k < (Utf8.decode s i).2 → 128 ≤ (s.get! (i + k)).toNat := by
  have g0 : s.get! i = s[i] := by
    cases s with
    | mk data => exact getElem!_pos data i h
  have hb' : ¬ (s.get! (i + 0)).toNat < 128 := by rw [Nat.add_zero, g0]; omega
  have one : ∀ k, k < 1 → 128 ≤ (s.get! (i + k)).toNat := fun k hk => by
    obtain rfl : k = 0 := by omega
    omega
  unfold Utf8.decode
  simp only [hb', if_false]
  split
  · rename_i h1
    simp only [Bool.and_eq_true, decide_eq_true_eq, beq_iff_eq] at h1
    split
    · rename_i h2
      refine ⟨h2, .inr ?_, by simp, by omega, fun k hk => ?_⟩
      · have := (s.get! (i + 1)).toNat_lt
        rw [validRune_eq, validRune, decide_eq_true_iff]
        omega
      · match k, hk with
        | 0, _ => omega
        | 1, _ => omega
        | k + 2, hk => exact absurd hk (by simp)
    · exact ⟨by decide, .inl rfl, by simp, by simp; omega, one⟩
  · split
    · rename_i h1
      simp only [Bool.and_eq_true, decide_eq_true_eq, beq_iff_eq] at h1
      split
      · rename_i h2
        simp only [Bool.and_eq_true, decide_eq_true_eq] at h2
        refine ⟨by omega, .inr h2.2, by simp, by omega, fun k hk => ?_⟩
        match k, hk with
        | 0, _ => omega
        | 1, _ => omega
        | 2, _ => omega
        | k + 3, hk => exact absurd hk (by simp)
      · exact ⟨by decide, .inl rfl, by simp, by simp; omega, one⟩
    · split
      · rename_i h1
        simp only [Bool.and_eq_true, decide_eq_true_eq, beq_iff_eq] at h1
        split
        · rename_i h2
          simp only [Bool.and_eq_true, decide_eq_true_eq] at h2
          refine ⟨by omega, .inr h2.2, by simp, by omega, fun k hk => ?_⟩
          match k, hk with
          | 0, _ => omega
          | 1, _ => omega
          | 2, _ => omega
          | 3, _ => omega
          | k + 4, hk => exact absurd hk (by simp)
        · exact ⟨by decide, .inl rfl, by simp, by simp; omega, one⟩
      · exact ⟨by decide, .inl rfl, by simp, by simp; omega, one⟩
def ends3 : ByteArray := ⟨#[44, 59, 58]⟩
set_option maxRecDepth 100000 in
set_option maxHeartbeats 8000000 in
theorem idxRune_bad (w : World) : Calls Tryd.prog 76 #[.string ends3, .int .i32 65533] w fun e w' => e = .returned (.int .i64 (-1)) ∧ Below w.heap.size w w' := by
  have n3 := fun ty => run_next_end (P := Tryd.prog) w ends3 3 ty (by decide)
  go_enter Tryd.func76, Tryd.ntmps76
  go_wp2_with fail
  go_loopw [5, 6] (fun _ _ wx => ∃ i : Nat, i ≤ 3 ∧ wx = w.iter ends3 i) (fun _ _ wx => 3 - wx.iterPos w.heap.size)
  case atStart => exact ⟨0, by omega, rfl⟩
  case round =>
    obtain ⟨i, hi, rfl⟩ := hrel
    by_cases h3 : i = 3
    · subst h3
      go_wp2
      go_ret
      exact ⟨rfl, (Below.refl _ w).alloc (Nat.le_refl _) _⟩
    · have hlt : i < ends3.size := by show i < 3; omega
      have h128 : ends3[i].toNat < 128 := by
        match i, hlt with
        | 0, _ => exact (show (44 : UInt8).toNat < 128 by decide)
        | 1, _ => exact (show (59 : UInt8).toNat < 128 by decide)
        | 2, _ => exact (show (58 : UInt8).toNat < 128 by decide)
      have hn := fun ty => run_next_ascii (P := Tryd.prog) w ends3 i ty hlt h128
      have hne : ((ends3[i].toNat : Int) == 65533) = false := by rw [beq_eq_false_iff_ne]; omega
      generalize ends3[i].toNat = x at *
      go_wp2
      go_roundw
      case rel => exact ⟨i + 1, by omega, rfl⟩
      case measure => simp; omega
theorem no_hi (c : UInt8) (h : 128 ≤ c.toNat) : ∀ l : List UInt8, (∀ b ∈ l, b.toNat < 128) → Lib.indexByte l c = -1
  | [], _ => rfl
  | b :: l, hl => by
    have ih := no_hi c h l fun x hx => hl x (List.mem_cons_of_mem _ hx)
    have hb := hl b List.mem_cons_self
    have : (b == c) = false := by rw [beq_eq_false_iff_ne]; intro e; subst e; omega
    unfold Lib.indexByte
    rw [this, ih]; rfl
set_option maxRecDepth 100000 in
set_option maxHeartbeats 8000000 in
theorem idxRune_hi (s : ByteArray) (hz : s.size = 3) (hs : ∀ b ∈ Tl.tx s, b.toNat < 128) (r : Nat) (hr : 128 ≤ r) (hr2 : r ≠ 65533) (hv : Utf8.valid (r : Int) = true) (w : World) : Calls Tryd.prog 76 #[.string s, .int .i32 r] w fun e w' => e = .returned (.int .i64 (-1)) ∧ Below w.heap.size w w' := by
  have h1 : (0 : Int) ≤ r := by omega
  have h2 : ¬ ((r : Int) < 128) := by omega
  have h3 : ((r : Int) == 65533) = false := by rw [beq_eq_false_iff_ne]; omega
  have KV := hide (Tryd.utf8_ValidRune (r : Int) w)
  have hvr : Lib.validRune (r : Int) = true := by
    rw [validRune_eq] at hv
    unfold validRune at hv
    unfold Lib.validRune
    simpa using hv
  rw [hvr] at KV
  obtain ⟨e1, e2, e3⟩ := encode_facts (r : Int) hv (by omega)
  have hr3 : (r : Int) ≤ 1114111 := by
    rw [validRune_eq, validRune, decide_eq_true_iff] at hv; omega
  go_enter Tryd.func76, Tryd.ntmps76
  go_wp2_with fail
  refine KV.out.mono ?_
  rintro e W ⟨rfl, rfl⟩
  obtain ⟨m, hm, hlt, e4⟩ : ∃ m : Nat, (Utf8.encode (r : Int)).size = m + 1 ∧ ∃ h : m < (Utf8.encode (r : Int)).size, 128 ≤ (Utf8.encode (r : Int))[m].toNat := by
    refine ⟨(Utf8.encode (r : Int)).size - 1, by omega, by omega, e3 _⟩
  clear e3 hv hvr KV
  generalize hE : Utf8.encode (r : Int) = E at *
  have HS := hide hs
  clear hs
  have hm2 : (E.size : Int) = (m : Int) + 1 := by omega
  go_wp2_with fail
  refine wp_scope_straight ?_
  go_wp2_with fail
  go_loopw [9, 10] (fun v9 v10 wx => v9 = .int .i64 (m : Int) ∧ v10 = .int .i64 0 ∧ W = wx) (fun _ _ _ => 0)
  case atStart => exact ⟨rfl, rfl, rfl⟩
  case round =>
    obtain ⟨rfl, rfl, rfl⟩ := hrel
    by_cases h4 : m = 3
    · have hi : ¬ (m : Int) < 3 := by omega
      have hi2 : (3 : Int) ≤ m := by omega
      go_wp2
      go_ret
      exact ⟨rfl, Below.refl _ _⟩
    · have h12 : m = 1 ∨ m = 2 := by omega
      clear h1 h2 h3 hr3 hE e1 e2 h4
      rcases h12 with rfl | rfl
      · have hb : s[1].toNat < 128 := HS.out s[1] (List.mem_iff_getElem.2 ⟨1, by rw [Tl.tx_len]; omega, rfl⟩)
        have hne : ((s[1].toNat : Int) == (E[1].toNat : Int)) = false := by rw [beq_eq_false_iff_ne]; omega
        have KB : Hid (∀ W, Calls Tryd.prog 84 #[.string (s.extract 2 3), .int .u8 E[1].toNat] W fun e w' => e = .returned (.int .i64 (-1)) ∧ w' = W) := fun W => by
          refine (Tryd.strings_IndexByte (s.extract 2 3) E[1].toNat W).mono ?_
          rintro e w' ⟨rfl, rfl⟩
          refine ⟨?_, rfl⟩
          have e : ((E[1].toNat : Int)).toNat.toUInt8 = E[1] := by simp
          rw [e, no_hi _ e4]
          intro b hb
          refine HS.out b ?_
          rw [show (s.extract 2 3).data.toList = Tl.tx (s.extract 2 3) from rfl, Tl.tx_extract] at hb
          exact List.mem_of_mem_drop (List.mem_of_mem_take hb)
        have hne2 : ((s[1].toNat : Int) != (E[1].toNat : Int)) = true := by rw [bne, hne]; rfl
        clear hne hm2 e4 hb
        go_wp2_with fail
        refine wp_scope_straight ?_
        go_wp2_with fail
        go_region
        clear hne2
        go_wp2_with fail
        go_region_with (go_at_call 84; refine (KB.out _).mono ?_; rintro e w' ⟨rfl, rfl⟩)
        go_wp2_with fail
        all_goals
          show bodyPost Tryd.prog Tryd.f76 (fun e w' => e = .returned (.int .i64 (-1)) ∧ Below W.heap.size W w') Exit.ret _ _
          go_ret
          exact ⟨rfl, ((Below.refl _ _).drew).drew⟩
      · have hb : s[2].toNat < 128 := HS.out s[2] (List.mem_iff_getElem.2 ⟨2, by rw [Tl.tx_len]; omega, rfl⟩)
        have hne : ((s[2].toNat : Int) == (E[2].toNat : Int)) = false := by rw [beq_eq_false_iff_ne]; omega
        have KB : Hid (∀ W, Calls Tryd.prog 84 #[.string ByteArray.empty, .int .u8 E[2].toNat] W fun e w' => e = .returned (.int .i64 (-1)) ∧ w' = W) := fun W => by
          refine (Tryd.strings_IndexByte ByteArray.empty E[2].toNat W).mono ?_
          rintro e w' ⟨rfl, rfl⟩
          exact ⟨rfl, rfl⟩
        have hne2 : ((s[2].toNat : Int) != (E[2].toNat : Int)) = true := by rw [bne, hne]; rfl
        clear hne hm2 e4 hb
        go_wp2_with fail
        refine wp_scope_straight ?_
        go_wp2_with fail
        go_region
        clear hne2
        go_wp2_with fail
        go_region_with (go_at_call 84; refine (KB.out _).mono ?_; rintro e w' ⟨rfl, rfl⟩)
        go_wp2_with fail
        all_goals
          show bodyPost Tryd.prog Tryd.f76 (fun e w' => e = .returned (.int .i64 (-1)) ∧ Below W.heap.size W w') Exit.ret _ _
          go_ret
          exact ⟨rfl, ((Below.refl _ _).drew).drew⟩
end Go.Proofs.YtponocolfjkapaaDoor
