/- Plain mathematics of texts that are read: what digits tell. -/
import Derived.Lib.ItoaNum
import Derived.Lib.Repeat
namespace Go.Proofs.YtafaacliphdndaaGreatDoor.Tx
open Go

theorem ndig_ge : ∀ (j n : Nat), Lib.nDigits n = j + 2 → 10 ^ (j + 1) ≤ n
  | 0, n, h => by
    by_cases hb : n < 10
    · rw [Lib.nDigits_small hb] at h; omega
    · omega
  | j + 1, n, h => by
    by_cases hb : n < 10
    · rw [Lib.nDigits_small hb] at h; omega
    · rw [Lib.nDigits_big hb] at h
      have := ndig_ge j (n / 10) (by omega)
      have e : 10 ^ (j + 1 + 1) = 10 * 10 ^ (j + 1) := by rw [Nat.pow_succ]; omega
      omega
theorem ndig_le (n k : Nat) (h : n < 10 ^ k) (hk : 1 ≤ k) : Lib.nDigits n ≤ k := by
  rcases Nat.lt_or_ge k (Lib.nDigits n) with hl | hl
  · exfalso
    have g := ndig_ge (Lib.nDigits n - 2) n (by omega)
    have := Nat.pow_le_pow_right (show 0 < 10 by omega) (show k ≤ Lib.nDigits n - 2 + 1 by omega)
    omega
  · exact hl

/-- a number with at least so many digits -/
def padL (n w : Nat) : List UInt8 := List.replicate (w - Lib.nDigits n) 48 ++ Lib.decDigits n
def pad (n w : Nat) : ByteArray := ⟨(padL n w).toArray⟩
theorem padL_length (n w : Nat) : (padL n w).length = max w (Lib.nDigits n) := by
  unfold padL; rw [List.length_append, List.length_replicate, Lib.decDigits_length]; omega
theorem pad_size (n w : Nat) : (pad n w).size = max w (Lib.nDigits n) := by
  rw [← padL_length]; unfold pad; simp [ByteArray.size]
theorem pad_exact (n w : Nat) (h : n < 10 ^ w) (hw : 1 ≤ w) : (pad n w).size = w := by
  rw [pad_size]; have := ndig_le n w h hw; omega
theorem digits_size (n : Nat) : (⟨(Lib.decDigits n).toArray⟩ : ByteArray).size = Lib.nDigits n := by
  rw [← Lib.decDigits_length]; simp [ByteArray.size]
theorem mk_app (a b : Array UInt8) : (⟨a⟩ : ByteArray) ++ ⟨b⟩ = ⟨a ++ b⟩ := by
  apply ByteArray.ext
  simp
/-- Repeat("0", c) + Itoa(n) -/
theorem pad_of (n w c : Nat) (s : ByteArray) (hs : s.data.toList = [48]) (hc : c = w - Lib.nDigits n) : (⟨(Lib.repeatL s.data.toList c).toArray⟩ : ByteArray) ++ ⟨(Lib.decDigits n).toArray⟩ = pad n w := by
  rw [hs, show ([48] : List UInt8) = List.replicate 1 48 from rfl, Lib.repeatL_replicate, mk_app]
  subst hc
  unfold pad padL
  simp
/-- what has i noughts ahead -/
def lead (L : List UInt8) (i : Nat) : ByteArray := ⟨(List.replicate i 48 ++ L).toArray⟩
theorem lead_zero (L : List UInt8) : lead L 0 = ⟨L.toArray⟩ := by unfold lead; simp
theorem lead_size (L : List UInt8) (i : Nat) : (lead L i).size = i + L.length := by
  unfold lead; simp [ByteArray.size]
theorem lead_more (L : List UInt8) (i : Nat) : (⟨#[48]⟩ : ByteArray) ++ lead L i = lead L (i + 1) := by
  unfold lead
  rw [mk_app]
  congr 1
  apply Array.ext'
  simp [List.replicate_succ]
theorem lead_pad (n w : Nat) : lead (Lib.decDigits n) (w - (Lib.decDigits n).length) = pad n w := by unfold lead pad padL; rw [Lib.decDigits_length]
/-- a year: four digits, or its sign and five -/
def ytx (y : Int) : ByteArray := if y < 0 then ⟨#[45]⟩ ++ pad (-y).toNat 5 else if 9999 < y then ⟨#[43]⟩ ++ pad y.toNat 5 else pad y.toNat 4
def txt (y : Int) (M D h m s : Nat) : ByteArray :=
  ytx y ++ ⟨#[45]⟩ ++ pad M 2 ++ ⟨#[45]⟩ ++ pad D 2 ++ ⟨#[84]⟩ ++ pad h 2 ++ ⟨#[58]⟩ ++ pad m 2 ++ ⟨#[58]⟩ ++ pad s 2
theorem ytx_size (y : Int) (h1 : -20000 ≤ y) (h2 : y ≤ 20000) : (ytx y).size ≤ 6 := by
  unfold ytx
  split
  · rw [ByteArray.size_append, pad_exact _ _ (by omega) (by omega)]; show 1 + 5 ≤ 6; omega
  · split
    · rw [ByteArray.size_append, pad_exact _ _ (by omega) (by omega)]; show 1 + 5 ≤ 6; omega
    · rw [pad_exact _ _ (by omega) (by omega)]; omega
theorem ytx_sizes (y : Int) (h1 : -20000 ≤ y) (h2 : y ≤ 20000) : (ytx y).size = 4 ∨ (ytx y).size = 6 := by
  unfold ytx
  split
  · rw [ByteArray.size_append, pad_exact _ _ (by omega) (by omega)]; right; rfl
  · split
    · rw [ByteArray.size_append, pad_exact _ _ (by omega) (by omega)]; right; rfl
    · rw [pad_exact _ _ (by omega) (by omega)]; left; rfl
theorem pad2 (n : Nat) (h : n < 100) : (pad n 2).size = 2 := pad_exact n 2 (by omega) (by omega)
theorem txt_size (y : Int) (M D h m s : Nat) (h1 : -20000 ≤ y) (h2 : y ≤ 20000) (hM : M < 100) (hD : D < 100) (hh : h < 100) (hm : m < 100) (hs : s < 100) : (txt y M D h m s).size ≤ 21 := by
  unfold txt
  simp only [ByteArray.size_append, pad2 _ hM, pad2 _ hD, pad2 _ hh, pad2 _ hm, pad2 _ hs]
  have := ytx_size y h1 h2
  show (ytx y).size + 1 + 2 + 1 + 2 + 1 + 2 + 1 + 2 + 1 + 2 ≤ 21
  omega
end Go.Proofs.YtafaacliphdndaaGreatDoor.Tx
namespace Go.Proofs.YtafaacliphdndaaGreatDoor.Tx
open Go

def isDig (c : UInt8) : Prop := 48 ≤ c.toNat ∧ c.toNat ≤ 57
/-- the number that digits tell, behind a number already read -/
def valF (a : Nat) (l : List UInt8) : Nat := l.foldl (fun n c => 10 * n + (c.toNat - 48)) a
theorem valF_nil (a : Nat) : valF a [] = a := rfl
theorem valF_cons (a : Nat) (c : UInt8) (l : List UInt8) : valF a (c :: l) = valF (10 * a + (c.toNat - 48)) l := by unfold valF; rw [List.foldl_cons]
theorem valF_snoc (a : Nat) (l : List UInt8) (c : UInt8) : valF a (l ++ [c]) = 10 * valF a l + (c.toNat - 48) := by unfold valF; simp
theorem valF_app (a : Nat) (l m : List UInt8) : valF a (l ++ m) = valF (valF a l) m := by unfold valF; simp
theorem valF_noughts (k : Nat) : valF 0 (List.replicate k 48) = 0 := by
  induction k with
  | zero => rfl
  | succ k ih => rw [List.replicate_succ, valF_cons]; simpa using ih
theorem dig_toNat (d : Nat) (h : d < 10) : (UInt8.ofNat (48 + d)).toNat = 48 + d := by
  rw [UInt8.toNat_ofNat']; omega
theorem val_dec (n : Nat) : valF 0 (Lib.decDigits n) = n := by
  induction n using Nat.strongRecOn with
  | _ n ih =>
    by_cases h : n < 10
    · rw [Lib.decDigits_one h, valF_cons, valF_nil, dig_toNat n h]; omega
    · rw [Lib.decDigits, dif_neg h, valF_snoc, ih (n / 10) (by omega), dig_toNat _ (by omega)]; omega
theorem dig_dec (n : Nat) : ∀ c ∈ Lib.decDigits n, isDig c := by
  induction n using Nat.strongRecOn with
  | _ n ih =>
    by_cases h : n < 10
    · rw [Lib.decDigits_one h]
      intro c hc
      rw [List.mem_singleton] at hc
      subst hc
      unfold isDig; rw [dig_toNat n h]; omega
    · rw [Lib.decDigits, dif_neg h]
      intro c hc
      rcases List.mem_append.1 hc with hc | hc
      · exact ih (n / 10) (by omega) c hc
      · rw [List.mem_singleton] at hc
        subst hc
        unfold isDig; rw [dig_toNat _ (by omega)]; omega
theorem val_pad (n w : Nat) : valF 0 (padL n w) = n := by
  unfold padL; rw [valF_app, valF_noughts, val_dec]
theorem dig_pad (n w : Nat) : ∀ c ∈ padL n w, isDig c := by
  intro c hc
  unfold padL at hc
  rcases List.mem_append.1 hc with hc | hc
  · rw [(List.mem_replicate.1 hc).2]; unfold isDig; decide
  · exact dig_dec n c hc
theorem padL_exact (n w : Nat) (h : n < 10 ^ w) (hw : 1 ≤ w) : (padL n w).length = w := by
  rw [padL_length]; have := ndig_le n w h hw; omega
end Go.Proofs.YtafaacliphdndaaGreatDoor.Tx
