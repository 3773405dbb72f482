/- How many bits a number of 64 bits has: plain mathematics. -/
import Derived.Test.YtnaggcadmfmibaaDoorSpnG
namespace Go.Proofs.YtnaggcadmfmibaaDoor
open Go.RowKit
set_option linter.unusedVariables false
set_option linter.unusedSimpArgs false

/-- byte by byte -/
def by8 (f : Nat → Nat) : Nat → Nat → Nat
  | 0, _ => 0
  | k + 1, x => f (x % 256) + 256 * by8 f k (x / 256)
theorem by8_lt {f : Nat → Nat} (hf : ∀ b, b < 256 → f b < 256) : ∀ k x, by8 f k x < 256 ^ k
  | 0, x => by unfold by8; simp
  | k + 1, x => by
    have h1 := by8_lt hf k (x / 256)
    have h2 := hf (x % 256) (Nat.mod_lt _ (by omega))
    unfold by8
    rw [Nat.pow_succ]
    omega
theorem by8_comp {f g : Nat → Nat} (hg : ∀ b, b < 256 → g b < 256) : ∀ k x, by8 f k (by8 g k x) = by8 (fun b => f (g b)) k x
  | 0, x => rfl
  | k + 1, x => by
    have h2 := hg (x % 256) (Nat.mod_lt _ (by omega))
    have h3 : by8 g (k + 1) x = g (x % 256) + 256 * by8 g k (x / 256) := rfl
    have h4 : by8 g (k + 1) x % 256 = g (x % 256) := by rw [h3]; omega
    have h5 : by8 g (k + 1) x / 256 = by8 g k (x / 256) := by rw [h3]; omega
    show f (by8 g (k + 1) x % 256) + 256 * by8 f k (by8 g (k + 1) x / 256) = f (g (x % 256)) + 256 * by8 (fun b => f (g b)) k (x / 256)
    rw [h4, h5, by8_comp hg k]
theorem by8_congr {f g : Nat → Nat} (h : ∀ b, b < 256 → f b = g b) : ∀ k x, by8 f k x = by8 g k x
  | 0, x => rfl
  | k + 1, x => by
    unfold by8
    rw [h _ (Nat.mod_lt _ (by omega)), by8_congr h k]
theorem and_byte (a b c d : Nat) (hb : b < 256) (hd : d < 256) : (256 * a + b) &&& (256 * c + d) = 256 * (a &&& c) + (b &&& d) := by
  have hbd : b &&& d < 2 ^ 8 := Nat.lt_of_le_of_lt Nat.and_le_left (by omega)
  apply Nat.eq_of_testBit_eq
  intro i
  rw [Nat.testBit_and, show (256 : Nat) = 2 ^ 8 from rfl, Nat.testBit_two_pow_mul_add a (by omega), Nat.testBit_two_pow_mul_add c (by omega), Nat.testBit_two_pow_mul_add (a &&& c) hbd]
  split
  · rw [Nat.testBit_and]
  · rw [Nat.testBit_and]
/-- a mask of one byte, k times -/
def msk (d k : Nat) : Nat := by8 (fun _ => d) k 0
theorem msk_succ (d k : Nat) : msk d (k + 1) = 256 * msk d k + d := by
  unfold msk
  show d + 256 * by8 (fun _ => d) k (0 / 256) = _
  rw [Nat.zero_div]; omega
theorem all256 {P : Nat → Bool} (h : (List.range 256).all P = true) (b : Nat) (hb : b < 256) : P b = true := by
  rw [List.all_eq_true] at h
  exact h b (by simpa using hb)
def p1 (b : Nat) : Nat := (b / 2 &&& 85) + (b &&& 85)
def p2 (b : Nat) : Nat := (b / 4 &&& 51) + (b &&& 51)
def p3 (b : Nat) : Nat := (b / 16 + b) % 16
theorem s1_by : ∀ k x, (x / 2 &&& msk 85 k) + (x &&& msk 85 k) = by8 p1 k x
  | 0, x => by simp [msk, by8]
  | k + 1, x => by
    have ih := s1_by k (x / 256)
    have hb : x % 256 < 256 := Nat.mod_lt _ (by omega)
    have e1 : x = 256 * (x / 256) + x % 256 := by omega
    have e2 : x / 2 = 256 * (x / 256 / 2) + (128 * (x / 256 % 2) + x % 256 / 2) := by omega
    have h1 := and_byte (x / 256) (x % 256) (msk 85 k) 85 hb (by omega)
    have h2 := and_byte (x / 256 / 2) (128 * (x / 256 % 2) + x % 256 / 2) (msk 85 k) 85 (by omega) (by omega)
    have h3 : (128 * (x / 256 % 2) + x % 256 / 2) &&& 85 = x % 256 / 2 &&& 85 := by
      rcases Nat.mod_two_eq_zero_or_one (x / 256) with h | h
      · rw [h, Nat.mul_zero, Nat.zero_add]
      · rw [h]
        have := all256 (P := fun b => (128 * 1 + b / 2) &&& 85 == b / 2 &&& 85) (by decide +kernel) (x % 256) hb
        simpa using this
    rw [← e1] at h1
    rw [← e2, h3] at h2
    rw [msk_succ, h1, h2]
    show _ = p1 (x % 256) + 256 * by8 p1 k (x / 256)
    rw [← ih]
    unfold p1
    omega
theorem s2_by : ∀ k x, (x / 4 &&& msk 51 k) + (x &&& msk 51 k) = by8 p2 k x
  | 0, x => by simp [msk, by8]
  | k + 1, x => by
    have ih := s2_by k (x / 256)
    have hb : x % 256 < 256 := Nat.mod_lt _ (by omega)
    have e1 : x = 256 * (x / 256) + x % 256 := by omega
    have e2 : x / 4 = 256 * (x / 256 / 4) + (64 * (x / 256 % 4) + x % 256 / 4) := by omega
    have h1 := and_byte (x / 256) (x % 256) (msk 51 k) 51 hb (by omega)
    have h2 := and_byte (x / 256 / 4) (64 * (x / 256 % 4) + x % 256 / 4) (msk 51 k) 51 (by omega) (by omega)
    have h3 : (64 * (x / 256 % 4) + x % 256 / 4) &&& 51 = x % 256 / 4 &&& 51 := by
      have h4 : x / 256 % 4 < 4 := Nat.mod_lt _ (by omega)
      generalize x / 256 % 4 = r at h4
      have := all256 (P := fun b => [0, 1, 2, 3].all fun r => (64 * r + b / 4) &&& 51 == b / 4 &&& 51) (by decide +kernel) (x % 256) hb
      rw [List.all_eq_true] at this
      have := this r (by
        have : r = 0 ∨ r = 1 ∨ r = 2 ∨ r = 3 := by omega
        simpa using this)
      simpa using this
    rw [← e1] at h1
    rw [← e2, h3] at h2
    rw [msk_succ, h1, h2]
    show _ = p2 (x % 256) + 256 * by8 p2 k (x / 256)
    rw [← ih]
    unfold p2
    omega
/-- no nibble is greater than 4 -/
def low4 (g : Nat → Nat) : Prop := ∀ b, b < 256 → g b % 16 ≤ 4 ∧ g b / 16 ≤ 4
theorem s3_by {g : Nat → Nat} (hg : low4 g) : ∀ k x, (by8 g k x / 16 + by8 g k x) &&& msk 15 k = by8 (fun b => p3 (g b)) k x
  | 0, x => by simp [msk, by8]
  | k + 1, x => by
    have ih := s3_by hg k (x / 256)
    have hb : x % 256 < 256 := Nat.mod_lt _ (by omega)
    obtain ⟨g1, g2⟩ := hg _ hb
    have hq : by8 g k (x / 256) % 16 ≤ 4 := by
      cases k with
      | zero => simp [by8]
      | succ k =>
        have := hg (x / 256 % 256) (Nat.mod_lt _ (by omega))
        show (g (x / 256 % 256) + 256 * by8 g k (x / 256 / 256)) % 16 ≤ 4
        omega
    have e0 : by8 g (k + 1) x = 256 * by8 g k (x / 256) + g (x % 256) := by
      show g (x % 256) + 256 * by8 g k (x / 256) = _
      omega
    generalize by8 g k (x / 256) = q at *
    generalize hz : g (x % 256) = z at *
    have e1 : by8 g (k + 1) x / 16 + by8 g (k + 1) x = 256 * (q / 16 + q) + (16 * (q % 16) + z / 16 + z) := by rw [e0]; omega
    have h1 := and_byte (q / 16 + q) (16 * (q % 16) + z / 16 + z) (msk 15 k) 15 (by omega) (by omega)
    rw [e1, msk_succ, h1, ih]
    show _ = p3 (g (x % 256)) + 256 * by8 (fun b => p3 (g b)) k (x / 256)
    rw [hz]
    have : (16 * (q % 16) + z / 16 + z) &&& 15 = p3 z := by
      rw [show (15 : Nat) = 2 ^ 4 - 1 from rfl, Nat.and_two_pow_sub_one_eq_mod]
      unfold p3
      omega
    rw [this]; omega
/-- how many of the first n -/
def cntB (p : Nat → Bool) : Nat → Nat
  | 0 => 0
  | n + 1 => cntB p n + if p n then 1 else 0
theorem cntB_congr {p q : Nat → Bool} : ∀ n, (∀ k, k < n → p k = q k) → cntB p n = cntB q n
  | 0, _ => rfl
  | n + 1, h => by
    unfold cntB
    rw [cntB_congr n (fun k hk => h k (by omega)), h n (by omega)]
theorem cntB_add (p : Nat → Bool) (m : Nat) : ∀ n, cntB p (m + n) = cntB p m + cntB (fun k => p (m + k)) n
  | 0 => rfl
  | n + 1 => by
    rw [show m + (n + 1) = (m + n) + 1 by omega, cntB, cntB, cntB_add p m n]
    omega
theorem cntB_le (p : Nat → Bool) : ∀ n, cntB p n ≤ n
  | 0 => Nat.le_refl 0
  | n + 1 => by have := cntB_le p n; unfold cntB; split <;> omega
theorem cntB_no {p : Nat → Bool} {m : Nat} (h : ∀ k, m ≤ k → p k = false) : ∀ n, cntB p n ≤ m
  | 0 => by unfold cntB; omega
  | n + 1 => by
    have h1 := cntB_no h n
    have h2 := cntB_le p n
    unfold cntB
    rcases Nat.lt_or_ge n m with hl | hl
    · split <;> omega
    · rw [h n hl]; simpa using h1
theorem cntB_zero {p : Nat → Bool} : ∀ n, cntB p n = 0 ↔ ∀ k, k < n → p k = false
  | 0 => by unfold cntB; simp
  | n + 1 => by
    have := cntB_zero (p := p) n
    unfold cntB
    refine ⟨fun h k hk => ?_, fun h => ?_⟩
    · have h1 : cntB p n = 0 := by omega
      rcases Nat.lt_or_ge k n with hl | hl
      · exact this.1 h1 k hl
      · have : k = n := by omega
        subst this
        cases hp : p k
        · rfl
        · rw [hp] at h; simp at h
    · rw [this.2 (fun k hk => h k (by omega)), h n (by omega)]; rfl
def pop8 (b : Nat) : Nat := p3 (p2 (p1 b))
theorem pop8_eq (b : Nat) (hb : b < 256) : pop8 b = cntB (fun k => b.testBit k) 8 := by
  have := all256 (P := fun b => pop8 b == cntB (fun k => b.testBit k) 8) (by decide +kernel) b hb
  simpa using this
theorem pop8_le (b : Nat) (hb : b < 256) : pop8 b ≤ 8 := by rw [pop8_eq b hb]; exact cntB_le _ _
/-- the bytes' counts together -/
def sum8 (f : Nat → Nat) : Nat → Nat → Nat
  | 0, _ => 0
  | k + 1, x => f (x % 256) + sum8 f k (x / 256)
theorem sum8_cnt : ∀ k x, sum8 pop8 k x = cntB (fun j => x.testBit j) (8 * k)
  | 0, x => rfl
  | k + 1, x => by
    rw [show 8 * (k + 1) = 8 + 8 * k by omega, cntB_add]
    show pop8 (x % 256) + sum8 pop8 k (x / 256) = _
    rw [sum8_cnt k, pop8_eq _ (Nat.mod_lt _ (by omega))]
    congr 1
    · exact cntB_congr 8 fun j hj => by rw [show (256 : Nat) = 2 ^ 8 from rfl, Nat.testBit_mod_two_pow]; simp [hj]
    · exact cntB_congr _ fun j hj => by rw [show (256 : Nat) = 2 ^ 8 from rfl, Nat.testBit_div_two_pow, Nat.add_comm]
theorem msk_lits : msk 85 8 = 6148914691236517205 ∧ msk 51 8 = 3689348814741910323 ∧ msk 15 8 = 1085102592571150095 := by decide +kernel
theorem p1_lt (b : Nat) (hb : b < 256) : p1 b < 256 := by
  have := all256 (P := fun b => decide (p1 b < 256)) (by decide +kernel) b hb
  simpa using this
theorem p21_lt (b : Nat) (hb : b < 256) : p2 (p1 b) < 256 := by
  have := all256 (P := fun b => decide (p2 (p1 b) < 256)) (by decide +kernel) b hb
  simpa using this
theorem p21_low : low4 fun b => p2 (p1 b) := fun b hb => by
  have := all256 (P := fun b => decide (p2 (p1 b) % 16 ≤ 4 ∧ p2 (p1 b) / 16 ≤ 4)) (by decide +kernel) b hb
  simpa using this
theorem by8_le {f : Nat → Nat} (hf : ∀ b, b < 256 → f b ≤ 68) : ∀ k x, 255 * by8 f k x + 68 ≤ 68 * 256 ^ k
  | 0, x => by simp [by8]
  | k + 1, x => by
    have h1 := by8_le hf k (x / 256)
    have h2 := hf (x % 256) (Nat.mod_lt _ (by omega))
    unfold by8
    rw [Nat.pow_succ]
    omega
theorem p21_le (b : Nat) (hb : b < 256) : p2 (p1 b) ≤ 68 := by
  have := all256 (P := fun b => decide (p2 (p1 b) ≤ 68)) (by decide +kernel) b hb
  simpa using this
theorem s1_eq (x : Nat) : s1 x = by8 p1 8 x := by unfold s1; rw [← msk_lits.1]; exact s1_by 8 x
theorem s2_eq (x : Nat) : s2 (s1 x) = by8 (fun b => p2 (p1 b)) 8 x := by
  unfold s2
  rw [← msk_lits.2.1, s2_by 8, s1_eq, by8_comp p1_lt]
theorem s1_lt (x : Nat) : s1 x < 18446744073709551616 := by rw [s1_eq]; exact by8_lt p1_lt 8 x
theorem s2_lt (x : Nat) : s2 (s1 x) < 18446744073709551616 ∧ s2 (s1 x) / 16 + s2 (s1 x) < 18446744073709551616 := by
  have h := by8_le p21_le 8 x
  rw [← s2_eq] at h
  rw [show (256 : Nat) ^ 8 = 18446744073709551616 from rfl] at h
  omega
theorem s3_eq (x : Nat) : s3 (s2 (s1 x)) = by8 pop8 8 x := by
  unfold s3
  rw [s2_eq, ← msk_lits.2.2]
  exact s3_by p21_low 8 x
theorem add256 (c q d r : Nat) : (c + 256 * q) + (d + 256 * r) = (c + d) + 256 * (q + r) := by omega
theorem add256' (c q d : Nat) : (c + 256 * q) + d = (c + d) + 256 * q := by omega
theorem b256 {c q K : Nat} (hc : c < 256) (hq : q < K) : c + 256 * q < 256 * K := by omega
theorem div256 (c q : Nat) (h : c < 256) : (c + 256 * q) / 256 = q := by omega
theorem fold8 {c0 c1 c2 c3 c4 c5 c6 c7 y a b : Nat} (h0 : c0 ≤ 8) (h1 : c1 ≤ 8) (h2 : c2 ≤ 8) (h3 : c3 ≤ 8) (h4 : c4 ≤ 8) (h5 : c5 ≤ 8) (h6 : c6 ≤ 8) (h7 : c7 ≤ 8)
    (hy : y = c0 + 256 * (c1 + 256 * (c2 + 256 * (c3 + 256 * (c4 + 256 * (c5 + 256 * (c6 + 256 * c7))))))) (ha : a = y + y / 256) (hb : b = a + a / 65536) :
    y < 18446744073709551616 ∧ a < 18446744073709551616 ∧ b < 18446744073709551616 ∧ b + b / 4294967296 < 4611686018427387904 ∧ (b + b / 4294967296) &&& 127 = c0 + (c1 + (c2 + (c3 + (c4 + (c5 + (c6 + c7)))))) := by
  have ey : y / 256 = c1 + 256 * (c2 + 256 * (c3 + 256 * (c4 + 256 * (c5 + 256 * (c6 + 256 * c7))))) := by rw [hy, div256 _ _ (Nat.lt_of_le_of_lt h0 (by decide))]
  have ea : a = (c0 + c1) + 256 * ((c1 + c2) + 256 * ((c2 + c3) + 256 * ((c3 + c4) + 256 * ((c4 + c5) + 256 * ((c5 + c6) + 256 * ((c6 + c7) + 256 * c7)))))) := by
    rw [ha, ey, hy, add256, add256, add256, add256, add256, add256, add256']
  have k0 : c0 + c1 < 256 := by clear hy ha hb ea ey; omega
  have k1 : c1 + c2 < 256 := by clear hy ha hb ea ey; omega
  have k2 : c2 + c3 < 256 := by clear hy ha hb ea ey; omega
  have k3 : c3 + c4 < 256 := by clear hy ha hb ea ey; omega
  have k4 : c4 + c5 < 256 := by clear hy ha hb ea ey; omega
  have k5 : c5 + c6 < 256 := by clear hy ha hb ea ey; omega
  have k6 : c6 + c7 < 256 := by clear hy ha hb ea ey; omega
  have k7 : c7 < 256 := by clear hy ha hb ea ey; omega
  have m0 : c0 < 256 := by clear hy ha hb ea ey; omega
  have m1 : c1 < 256 := by clear hy ha hb ea ey; omega
  have m2 : c2 < 256 := by clear hy ha hb ea ey; omega
  have m3 : c3 < 256 := by clear hy ha hb ea ey; omega
  have m4 : c4 < 256 := by clear hy ha hb ea ey; omega
  have m5 : c5 < 256 := by clear hy ha hb ea ey; omega
  have m6 : c6 < 256 := by clear hy ha hb ea ey; omega
  have hyl : y < 18446744073709551616 := by rw [hy]; exact b256 m0 (b256 m1 (b256 m2 (b256 m3 (b256 m4 (b256 m5 (b256 m6 k7))))))
  have hal : a < 18446744073709551616 := by rw [ea]; exact b256 k0 (b256 k1 (b256 k2 (b256 k3 (b256 k4 (b256 k5 (b256 k6 k7))))))
  have ea2 : a / 65536 = (c2 + c3) + 256 * ((c3 + c4) + 256 * ((c4 + c5) + 256 * ((c5 + c6) + 256 * ((c6 + c7) + 256 * c7)))) := by
    rw [show (65536 : Nat) = 256 * 256 from rfl, ← Nat.div_div_eq_div_mul, ea, div256 _ _ k0, div256 _ _ k1]
  have eb : b = (c0 + c1 + (c2 + c3)) + 256 * ((c1 + c2 + (c3 + c4)) + 256 * ((c2 + c3 + (c4 + c5)) + 256 * ((c3 + c4 + (c5 + c6)) + 256 * ((c4 + c5 + (c6 + c7)) + 256 * ((c5 + c6 + c7) + 256 * ((c6 + c7) + 256 * c7)))))) := by
    rw [hb, ea2, ea, add256, add256, add256, add256, add256, add256']
  have n0 : c0 + c1 + (c2 + c3) < 256 := by clear hy ha hb ea ey ea2 eb hyl hal; omega
  have n1 : c1 + c2 + (c3 + c4) < 256 := by clear hy ha hb ea ey ea2 eb hyl hal; omega
  have n2 : c2 + c3 + (c4 + c5) < 256 := by clear hy ha hb ea ey ea2 eb hyl hal; omega
  have n3 : c3 + c4 + (c5 + c6) < 256 := by clear hy ha hb ea ey ea2 eb hyl hal; omega
  have n4 : c4 + c5 + (c6 + c7) < 256 := by clear hy ha hb ea ey ea2 eb hyl hal; omega
  have n5 : c5 + c6 + c7 < 256 := by clear hy ha hb ea ey ea2 eb hyl hal; omega
  have hbl : b < 18446744073709551616 := by rw [eb]; exact b256 n0 (b256 n1 (b256 n2 (b256 n3 (b256 n4 (b256 n5 (b256 k6 k7))))))
  have eb4 : b / 4294967296 = (c4 + c5 + (c6 + c7)) + 256 * ((c5 + c6 + c7) + 256 * ((c6 + c7) + 256 * c7)) := by
    rw [show (4294967296 : Nat) = 256 * 256 * 256 * 256 from rfl, ← Nat.div_div_eq_div_mul, ← Nat.div_div_eq_div_mul, ← Nat.div_div_eq_div_mul, eb, div256 _ _ n0, div256 _ _ n1, div256 _ _ n2, div256 _ _ n3]
  have ec : b + b / 4294967296 = (c0 + c1 + (c2 + c3) + (c4 + c5 + (c6 + c7))) + 256 * ((c1 + c2 + (c3 + c4) + (c5 + c6 + c7)) + 256 * ((c2 + c3 + (c4 + c5) + (c6 + c7)) + 256 * ((c3 + c4 + (c5 + c6) + c7) + 256 * ((c4 + c5 + (c6 + c7)) + 256 * ((c5 + c6 + c7) + 256 * ((c6 + c7) + 256 * c7)))))) := by
    rw [eb4, eb, add256, add256, add256, add256']
  have l0 : c0 + c1 + (c2 + c3) + (c4 + c5 + (c6 + c7)) < 128 := by clear hy ha hb ea ey ea2 eb hyl hal ec eb4 hbl; omega
  have l1 : c1 + c2 + (c3 + c4) + (c5 + c6 + c7) < 256 := by clear hy ha hb ea ey ea2 eb hyl hal ec eb4 hbl; omega
  have l2 : c2 + c3 + (c4 + c5) + (c6 + c7) < 256 := by clear hy ha hb ea ey ea2 eb hyl hal ec eb4 hbl; omega
  have k7' : c7 < 64 := by clear hy ha hb ea ey ea2 eb hyl hal ec eb4 hbl; omega
  have l3 : c3 + c4 + (c5 + c6) + c7 < 256 := by clear hy ha hb ea ey ea2 eb hyl hal ec eb4 hbl; omega
  refine ⟨hyl, hal, hbl, ?_, ?_⟩
  · rw [ec]; exact b256 (Nat.lt_trans l0 (by decide)) (b256 l1 (b256 l2 (b256 l3 (b256 n4 (b256 n5 (b256 k6 k7'))))))
  · rw [show (127 : Nat) = 2 ^ 7 - 1 from rfl, Nat.and_two_pow_sub_one_eq_mod, ec]
    generalize (c1 + c2 + (c3 + c4) + (c5 + c6 + c7)) + 256 * _ = Q
    clear hy ha hb ea ey ea2 eb hyl hal ec eb4 hbl
    omega
theorem by8_8 (f : Nat → Nat) (x : Nat) : by8 f 8 x = f (x % 256) + 256 * (f (x / 256 % 256) + 256 * (f (x / 256 / 256 % 256) + 256 * (f (x / 256 / 256 / 256 % 256) + 256 * (f (x / 256 / 256 / 256 / 256 % 256) + 256 * (f (x / 256 / 256 / 256 / 256 / 256 % 256) + 256 * (f (x / 256 / 256 / 256 / 256 / 256 / 256 % 256) + 256 * (f (x / 256 / 256 / 256 / 256 / 256 / 256 / 256 % 256)))))))) := by
  simp only [by8, Nat.mul_zero, Nat.add_zero]
theorem sum8_8 (f : Nat → Nat) (x : Nat) : sum8 f 8 x = f (x % 256) + (f (x / 256 % 256) + (f (x / 256 / 256 % 256) + (f (x / 256 / 256 / 256 % 256) + (f (x / 256 / 256 / 256 / 256 % 256) + (f (x / 256 / 256 / 256 / 256 / 256 % 256) + (f (x / 256 / 256 / 256 / 256 / 256 / 256 % 256) + (f (x / 256 / 256 / 256 / 256 / 256 / 256 / 256 % 256)))))))) := by
  simp only [sum8, Nat.add_zero]
theorem pop_all {x y a b : Nat} (hy : y = s3 (s2 (s1 x))) (ha : a = y + y / 256) (hb : b = a + a / 65536) :
    y < 18446744073709551616 ∧ a < 18446744073709551616 ∧ b < 18446744073709551616 ∧ b + b / 4294967296 < 4611686018427387904 ∧ (b + b / 4294967296) &&& 127 = cntB (fun j => x.testBit j) 64 := by
  have hp : ∀ y : Nat, pop8 (y % 256) ≤ 8 := fun y => pop8_le _ (Nat.mod_lt _ (by omega))
  have h := sum8_cnt 8 x
  rw [s3_eq, by8_8] at hy
  rw [← h, sum8_8]
  exact fold8 (hp _) (hp _) (hp _) (hp _) (hp _) (hp _) (hp _) (hp _) hy ha hb
end Go.Proofs.YtnaggcadmfmibaaDoor
