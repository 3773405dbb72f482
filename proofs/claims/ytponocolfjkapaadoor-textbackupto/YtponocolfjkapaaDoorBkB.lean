/- package text: readName at a name; the reader's value. -/
import Derived.Test.YtponocolfjkapaaDoorBkA
import Derived.Test.YtponocolfjkapaaDoorUnfD
namespace Go.Proofs.YtponocolfjkapaaDoor
open Go.RowKit Go.Shelf
set_option linter.unusedVariables false
set_option linter.unusedSimpArgs false

theorem allB_all {b : Nat → Bool} : ∀ {n : Nat}, Crn.allB b n = true → ∀ k, k < n → b k = true
  | 0, _, k, h => absurd h (Nat.not_lt_zero _)
  | n + 1, h, k, hk => by
    unfold Crn.allB at h
    rw [Bool.and_eq_true] at h
    by_cases c : k = n
    · subst c; exact h.2
    · exact allB_all h.1 k (by omega)
theorem bt_mem (s : ByteArray) {P : Int → Prop} (h : ∀ k, k < s.size → P (bt s k)) : ∀ b ∈ Tl.tx s, P (b.toNat : Int) := fun b hb => by
  obtain ⟨k, hk, rfl⟩ := List.mem_iff_getElem.1 hb
  have hk' : k < s.size := by rwa [Tl.tx_len] at hk
  have := h k hk'
  rw [← bt_at s k hk'] at this
  exact this
/-- what a name's bytes are -/
theorem nm_facts {s : ByteArray} (h : nmS s = true) : 1 ≤ s.size ∧ s.size ≤ 40 ∧ ∀ b ∈ Tl.tx s, (65 ≤ b.toNat ∧ b.toNat ≤ 90 ∨ 48 ≤ b.toNat ∧ b.toNat ≤ 57 ∨ b.toNat = 45) := by
  unfold nmS at h
  rw [Bool.and_eq_true, decide_eq_true_eq] at h
  refine ⟨h.2.1, h.2.2, fun b hb => ?_⟩
  have := bt_mem s (P := fun x => nmB x = true) (fun k hk => allB_all h.1 k hk) b hb
  simp only [nmB, decide_eq_true_eq] at this
  omega
/-- a text without controls -/
theorem ct_facts {s : ByteArray} (h : ctS s = false) : ∀ b ∈ Tl.tx s, (32 ≤ b.toNat ∨ b.toNat = 9) ∧ b.toNat ≠ 127 := fun b hb => by
  unfold ctS at h
  rw [Bool.not_eq_false'] at h
  have := bt_mem s (P := fun x => (!ctB x) = true) (fun k hk => allB_all h k hk) b hb
  simp only [ctB, Bool.not_eq_true', decide_eq_false_iff_not] at this
  omega
/-- a text without a byte -/
theorem hasB_facts {s : ByteArray} {c : UInt8} (h : hasB s c = false) : ∀ b ∈ Tl.tx s, b ≠ c := fun b hb e => by
  unfold hasB at h
  rw [List.any_eq_false] at h
  exact h b hb (by rw [e]; simp)
set_option maxRecDepth 100000 in
set_option maxHeartbeats 8000000 in
theorem readName_any (s : ByteArray) (h : nmS s = true) (w : World) :
    Calls Tryd.prog 67 #[.string s] w fun e w' => e = .returned (.tuple #[.string s, .nilIface]) ∧ Below w.heap.size w w' := by
  obtain ⟨h1, h2, hb⟩ := nm_facts h
  have KN := hide (fun W => isName_any s W (by omega))
  rw [h] at KN
  have hcv := Lib.run_convert_string_bytes (P := Tryd.prog) w 9 59 5 s Tryd.underlying9 Tryd.underlying59 Tryd.underlying5
  have hbw : Below w.heap.size w (Lib.bytesWorld w 5 s) := ⟨rfl, rfl, rfl, by rw [Lib.bytesWorld_size]; omega, fun k hk => Lib.bytesWorld_at_old _ _ _ k hk⟩
  have hcb := CB.new w s (by omega)
  have hback := hcb.conv
  rw [Tl.tx_len, Tl.str_tx] at hback
  have HCB := hide hcb
  have HBW := hide hbw
  have HB : Hid (∀ k (hk : k < s.size), ¬ (97 : Int) ≤ (s[k].toNat : Int)) := fun k hk => by
    have := hb s[k] (List.mem_iff_getElem.2 ⟨k, by rw [Tl.tx_len]; exact hk, rfl⟩)
    omega
  clear h hb hbw hcb
  go_enter Tryd.func67, Tryd.ntmps67
  generalize Lib.bytesWorld w 5 s = W5 at *
  go_wp2_with fail
  go_loopw [11] (fun i wr => ∃ k : Nat, k ≤ s.size ∧ i = .int .i64 k ∧ W5 = wr) (fun i _ => s.size - (intOf i).toNat)
  case atStart => exact ⟨0, by omega, rfl, rfl⟩
  case round =>
    obtain ⟨k, hk, rfl, rfl⟩ := hrel
    by_cases hlt : k < s.size
    · have hi : (k : Int) < s.size := by omega
      have hc := HCB.out.cell k (by rw [Tl.tx_len]; exact hlt)
      rw [Tl.tx_getElem s k hlt] at hc
      have hno := HB.out k hlt
      clear hcv hback
      generalize s[k].toNat = x at *
      go_wp2
      go_roundw
      case rel => exact ⟨k + 1, by omega, by go_num, by trivial⟩
      case measure => simp [intOf]; omega
    · obtain rfl : k = s.size := by omega
      have hi : ¬ (s.size : Int) < s.size := by omega
      clear hcv
      go_wp2_with fail
      refine (KN.out _).mono ?_
      rintro e W6 ⟨rfl, rfl⟩
      go_wp2
      go_ret2
      exact ⟨rfl, HBW.out⟩
end Go.Proofs.YtponocolfjkapaaDoor
