/- Months counted through all years, of the Gregorian calendar: plain mathematics. -/
import Derived.Test.YtafaacliphdndaaGreatDoorPlain
namespace Go.Proofs.YtafaacliphdndaaGreatDoor.Alm
set_option linter.unusedVariables false

/-- the first day of a month, counted through all years -/
def gst (i : Int) : Int := start 1 (i / 12) + cum 1 (i / 12) (i % 12).toNat
/-- how long it is -/
def glen (i : Int) : Int := mlen 1 (i / 12) (i % 12 + 1)
theorem months_g (y : Int) : months 1 y = 12 := by simp [months, lens]
theorem glen_bd (i : Int) : 5 ≤ glen i ∧ glen i ≤ 31 := by
  have := months_g (i / 12)
  exact mlen_bd 1 (i / 12) (i % 12 + 1) (by omega) (by omega)
theorem gst_succ (i : Int) : gst (i + 1) = gst i + glen i := by
  have hm := months_g (i / 12)
  have hc := cum_succ 1 (i / 12) (i % 12).toNat (by omega)
  have e : (((i % 12).toNat : Nat) : Int) + 1 = i % 12 + 1 := by omega
  rw [e] at hc
  unfold gst glen
  by_cases h : i % 12 = 11
  · have e1 : (i + 1) / 12 = i / 12 + 1 := by omega
    have e2 : (i + 1) % 12 = 0 := by omega
    have ha := cum_all 1 (i / 12)
    rw [hm] at ha
    have e3 : (i % 12).toNat + 1 = 12 := by omega
    rw [e3, ha] at hc
    have s := start_succ 1 (i / 12) (by omega) (by omega)
    rw [e1, e2, s, show (0 : Int).toNat = 0 from rfl]
    simp only [cum, List.take_zero, List.sum_nil] at *
    omega
  · have e1 : (i + 1) / 12 = i / 12 := by omega
    have e2 : ((i + 1) % 12).toNat = (i % 12).toNat + 1 := by omega
    rw [e1, e2, hc]; omega
theorem gst_le (a b : Int) (h : a ≤ b) : gst a + 5 * (b - a) ≤ gst b := by
  have key : ∀ k : Nat, gst a + 5 * k ≤ gst (a + k) := by
    intro k
    induction k with
    | zero => simp
    | succ k ih =>
      have s := gst_succ (a + k)
      have l := glen_bd (a + k)
      have e : a + ((k + 1 : Nat) : Int) = a + k + 1 := by omega
      rw [e, s]; omega
  have := key (b - a).toNat
  have e : a + ((b - a).toNat : Int) = b := by omega
  rw [e] at this; omega
/-- a date, its month counted through all years -/
theorem IsDate.idx {day y m d : Int} (h : IsDate 1 day y m d) : day = gst (12 * y + (m - 1)) + d - 1 ∧ 1 ≤ d ∧ d ≤ glen (12 * y + (m - 1)) ∧ (12 * y + (m - 1)) / 12 = y ∧ (12 * y + (m - 1)) % 12 = m - 1 := by
  obtain ⟨m1, m2, d1, d2, e⟩ := h
  have hm := months_g y
  have e1 : (12 * y + (m - 1)) / 12 = y := by omega
  have e2 : (12 * y + (m - 1)) % 12 = m - 1 := by omega
  have e3 : m - 1 + 1 = m := by omega
  unfold gst glen
  rw [e1, e2, e3]
  exact ⟨by omega, d1, d2, rfl, rfl⟩
/-- the day that comes so many months behind the d-th of month i -/
def amon (i d n : Int) : Int := gst (i + n) + min d (glen (i + n)) - 1
theorem amon_zero (i d : Int) (h1 : 1 ≤ d) (h2 : d ≤ glen i) : amon i d 0 = gst i + d - 1 := by
  unfold amon
  rw [show i + 0 = i from by omega, Int.min_eq_left h2]
theorem amon_bd (i d n : Int) (h1 : 1 ≤ d) : gst (i + n) ≤ amon i d n ∧ amon i d n < gst (i + n + 1) := by
  have s := gst_succ (i + n)
  have l := glen_bd (i + n)
  unfold amon
  rw [s]; omega
/-- a month of a day that is there -/
theorem idx_of_day (day i d : Int) (h : day = gst i + d - 1) (d1 : 1 ≤ d) (d2 : d ≤ glen i) : ∀ j, (gst j ≤ day ↔ j ≤ i) := by
  intro j
  have s := gst_succ i
  constructor
  · intro hj
    rcases Int.lt_or_le i j with hl | hl
    · have := gst_le (i + 1) j (by omega); omega
    · exact hl
  · intro hj
    have := gst_le j i hj; omega
/-- the months between two times: m is the greatest number of months that come no later -/
structure Between (i d s j f u m : Int) : Prop where
  m0 : 0 ≤ m
  le : 86400 * amon i d m + s ≤ 86400 * (gst j + f - 1) + u
  days : 86400 * (gst j + f - 1) + u - (86400 * amon i d m + s) < 31 * 86400
  next : 86400 * (gst j + f - 1) + u < 86400 * amon i d (m + 1) + s
  mj : i + m ≤ j
/-- so many months as the months' numbers say, if that is not too late -/
theorem between_same (i d s j f u : Int) (d1 : 1 ≤ d) (d2 : d ≤ glen i) (s1 : 0 ≤ s) (s2 : s < 86400) (f1 : 1 ≤ f) (f2 : f ≤ glen j) (u1 : 0 ≤ u) (u2 : u < 86400)
    (hle : 86400 * (gst i + d - 1) + s ≤ 86400 * (gst j + f - 1) + u) (h : 86400 * amon i d (j - i) + s ≤ 86400 * (gst j + f - 1) + u) : Between i d s j f u (j - i) := by
  have hij : i ≤ j := (idx_of_day (gst j + f - 1) j f rfl f1 f2 i).1 (by omega)
  have b := amon_bd i d (j - i) d1
  have b2 := amon_bd i d (j - i + 1) d1
  have e : i + (j - i) = j := by omega
  have e2 : i + (j - i + 1) = j + 1 := by omega
  rw [e] at b; rw [e2] at b2
  have sj := gst_succ j
  have lj := glen_bd j
  refine ⟨by omega, h, ?_, by omega, by omega⟩
  have : amon i d (j - i) = gst j + min d (glen j) - 1 := by unfold amon; rw [e]
  omega
/-- one month less, if it is -/
theorem between_less (i d s j f u : Int) (d1 : 1 ≤ d) (d2 : d ≤ glen i) (s1 : 0 ≤ s) (s2 : s < 86400) (f1 : 1 ≤ f) (f2 : f ≤ glen j) (u1 : 0 ≤ u) (u2 : u < 86400)
    (hle : 86400 * (gst i + d - 1) + s ≤ 86400 * (gst j + f - 1) + u) (h : 86400 * (gst j + f - 1) + u < 86400 * amon i d (j - i) + s) : Between i d s j f u (j - i - 1) := by
  have hij : i ≤ j := (idx_of_day (gst j + f - 1) j f rfl f1 f2 i).1 (by omega)
  have hlt : i < j := by
    rcases Int.lt_or_le i j with hl | hl
    · exact hl
    · have : j = i := by omega
      subst this
      have e := amon_zero j d d1 d2
      rw [show j - j = 0 from by omega, e] at h
      omega
  have b := amon_bd i d (j - i - 1) d1
  have e : i + (j - i - 1) = j - 1 := by omega
  have e1 : i + (j - i) = j := by omega
  rw [e, show j - 1 + 1 = j from by omega] at b
  have sj := gst_succ (j - 1)
  rw [show j - 1 + 1 = j from by omega] at sj
  have lj := glen_bd (j - 1)
  have a1 : amon i d (j - i - 1) = gst (j - 1) + min d (glen (j - 1)) - 1 := by unfold amon; rw [e]
  have a2 : amon i d (j - i) = gst j + min d (glen j) - 1 := by unfold amon; rw [e1]
  have lj2 := glen_bd j
  refine ⟨by omega, by omega, ?_, ?_, by omega⟩
  · have m1 := Int.min_le_left d (glen j)
    rcases Int.le_total d (glen (j - 1)) with hd | hd
    · rw [Int.min_eq_left hd] at a1; omega
    · rw [Int.min_eq_right hd] at a1
      have m2 := Int.min_le_right d (glen j)
      omega
  · rw [show j - i - 1 + 1 = j - i from by omega]; exact h
end Go.Proofs.YtafaacliphdndaaGreatDoor.Alm
