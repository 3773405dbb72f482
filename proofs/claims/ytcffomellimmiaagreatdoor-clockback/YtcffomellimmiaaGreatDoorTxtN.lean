/- Plain mathematics of texts that are read: what digits tell. -/
import Derived.Test.YtcffomellimmiaaGreatDoorTxtM
namespace Go.Proofs.YtcffomellimmiaaGreatDoor.Tx
open Go

def isDig (c : UInt8) : Prop := 48 ≤ c.toNat ∧ c.toNat ≤ 57
/-- the number that digits tell, behind a number already read -/
def valF (a : Nat) (l : List UInt8) : Nat := l.foldl (fun n c => 10 * n + (c.toNat - 48)) a
theorem valF_nil (a : Nat) : valF a [] = a := rfl
theorem valF_cons (a : Nat) (c : UInt8) (l : List UInt8) : valF a (c :: l) = valF (10 * a + (c.toNat - 48)) l := by unfold valF; rw [List.foldl_cons]
theorem valF_snoc (a : Nat) (l : List UInt8) (c : UInt8) : valF a (l ++ [c]) = 10 * valF a l + (c.toNat - 48) := by unfold valF; simp
theorem valF_app (a : Nat) (l m : List UInt8) : valF a (l ++ m) = valF (valF a l) m := by unfold valF; simp
theorem valF_noughts (k : Nat) : valF 0 (List.replicate k 48) = 0 := by
  induction k with
  | zero => rfl
  | succ k ih => rw [List.replicate_succ, valF_cons]; simpa using ih
theorem dig_toNat (d : Nat) (h : d < 10) : (UInt8.ofNat (48 + d)).toNat = 48 + d := by
  rw [UInt8.toNat_ofNat']; omega
theorem val_dec (n : Nat) : valF 0 (Lib.decDigits n) = n := by
  induction n using Nat.strongRecOn with
  | _ n ih =>
    by_cases h : n < 10
    · rw [Lib.decDigits_one h, valF_cons, valF_nil, dig_toNat n h]; omega
    · rw [Lib.decDigits, dif_neg h, valF_snoc, ih (n / 10) (by omega), dig_toNat _ (by omega)]; omega
theorem dig_dec (n : Nat) : ∀ c ∈ Lib.decDigits n, isDig c := by
  induction n using Nat.strongRecOn with
  | _ n ih =>
    by_cases h : n < 10
    · rw [Lib.decDigits_one h]
      intro c hc
      rw [List.mem_singleton] at hc
      subst hc
      unfold isDig; rw [dig_toNat n h]; omega
    · rw [Lib.decDigits, dif_neg h]
      intro c hc
      rcases List.mem_append.1 hc with hc | hc
      · exact ih (n / 10) (by omega) c hc
      · rw [List.mem_singleton] at hc
        subst hc
        unfold isDig; rw [dig_toNat _ (by omega)]; omega
theorem val_pad (n w : Nat) : valF 0 (padL n w) = n := by
  unfold padL; rw [valF_app, valF_noughts, val_dec]
theorem dig_pad (n w : Nat) : ∀ c ∈ padL n w, isDig c := by
  intro c hc
  unfold padL at hc
  rcases List.mem_append.1 hc with hc | hc
  · rw [(List.mem_replicate.1 hc).2]; unfold isDig; decide
  · exact dig_dec n c hc
theorem padL_exact (n w : Nat) (h : n < 10 ^ w) (hw : 1 ≤ w) : (padL n w).length = w := by
  rw [padL_length]; have := ndig_le n w h hw; omega
end Go.Proofs.YtcffomellimmiaaGreatDoor.Tx
