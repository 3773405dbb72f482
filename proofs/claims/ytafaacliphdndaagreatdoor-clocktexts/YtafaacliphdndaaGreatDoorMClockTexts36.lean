/- package clock: Since, at the dates of two times. -/
import Derived.Test.YtafaacliphdndaaGreatDoorMClockTexts35
namespace Go.Proofs.YtafaacliphdndaaGreatDoor
open Go.RowKit Go.Shelf
set_option linter.unusedVariables false
set_option linter.unusedSimpArgs false

theorem ctell_ok (t y m d : Int) (w : World) (t1 : -345600000000 ≤ t) (t2 : t ≤ 345600086399) (hD : Alm.IsDate 1 (t / 86400) y m d) :
    Calls Tryz.prog 54 #[.int .i64 t] w fun e w' => e = .returned (.tuple #[.agg #[.int .i64 1, .int .i64 y, .int .i64 m, .int .i64 d], clk (t % 86400), .nilIface]) ∧ Below w.heap.size w w' :=
  tell_steps t 1 y m d w t1 t2 (fun W => of_ok' 1 (t / 86400) y m d W (by omega) (by omega) (by omega) (by omega) hD)
theorem small0 (M : Int) (h1 : -1000000000000 ≤ M) (h2 : M ≤ 1000000000000) : Small 0 M 0 0 0 := ⟨by omega, ⟨h1, h2⟩, by omega, by omega, by omega⟩
/-- Add of months alone -/
theorem add_months (t y m d n : Int) (w : World) (t1 : -345600000000 ≤ t) (t2 : t ≤ 345600086399) (y1 : -20000 ≤ y) (y2 : y ≤ 20000) (hD : Alm.IsDate 1 (t / 86400) y m d) (n1 : -1000000000000 ≤ n) (n2 : n ≤ 1000000000000) :
    (Leads (12 * y + (m - 1)) d n → Calls Tryz.prog 20 #[.int .i64 t, .agg #[.int .i64 0, .int .i64 n, .int .i64 0, .int .i64 0, .int .i64 0]] w fun e w' => e = .returned (.tuple #[.int .i64 (86400 * Alm.amon (12 * y + (m - 1)) d n + t % 86400), .nilIface]) ∧ Below w.heap.size w w') ∧
    (¬ Leads (12 * y + (m - 1)) d n → Calls Tryz.prog 20 #[.int .i64 t, .agg #[.int .i64 0, .int .i64 n, .int .i64 0, .int .i64 0, .int .i64 0]] w fun e w' => e = .returned (.tuple #[.int .i64 0, .iface 25 (.int .i64 4)]) ∧ Below w.heap.size w w') := by
  have k := add_val t y m d 0 n 0 0 0 w t1 t2 y1 y2 hD (small0 n n1 n2) n (by omega)
  constructor
  · intro hL
    have hl := hL.2
    have k1 := k.1 ⟨hL, by omega⟩
    rw [tval_ok _ (by omega) (by omega)] at k1
    have e : (Alm.amon (12 * y + (m - 1)) d n + 7 * 0 + 0) * 86400 + (t % 86400 + 0) = 86400 * Alm.amon (12 * y + (m - 1)) d n + t % 86400 := by omega
    rw [e] at k1
    exact k1
  · intro hL
    exact k.2 (fun h => hL h.1)
/-- what Since finds -/
structure Found (a b i d F v : Int) : Prop where
  f0 : 0 ≤ F
  f1 : F ≤ 1000000
  leads : Leads i d F
  eq : v = 86400 * Alm.amon i d F + a % 86400
  le : v ≤ b
  days : b - v < 31 * 86400
  next : b < 86400 * Alm.amon i d (F + 1) + a % 86400
set_option maxRecDepth 100000 in
theorem since_ok (a b y m d : Int) (W0 : World) (a1 : -345600000000 ≤ a) (a2 : a ≤ 345600086399) (b1 : -345600000000 ≤ b) (b2 : b ≤ 345600086399) (hab : a ≤ b) (y1 : -20000 ≤ y) (y2 : y ≤ 20000) (hD : Alm.IsDate 1 (a / 86400) y m d) :
    ∃ F v, Found a b (12 * y + (m - 1)) d F v ∧ ∀ w, Calls Tryz.prog 32 #[.int .i64 a, .int .i64 b] w fun e w' => e = .returned (.tuple #[.agg #[.int .i64 (F / 12), .int .i64 (F % 12), .int .i64 0, .int .i64 ((b - v) / 86400), .int .i64 ((b - v) % 86400)], .nilIface]) ∧ Below w.heap.size w w' := by
  obtain ⟨y', m', f, hE, z1, z2⟩ := date_ex1 (b / 86400) W0 (by omega) (by omega)
  obtain ⟨i1, i2, i3, i4, i5⟩ := hD.idx
  obtain ⟨j1, j2, j3, j4, j5⟩ := hE.idx
  have m1 := hD.m1
  have m2 : m ≤ 12 := by have := hD.m2; have := Alm.months_g y; omega
  have p1 := hE.m1
  have p2 : m' ≤ 12 := by have := hE.m2; have := Alm.months_g y'; omega
  have kA := fun n w h1 h2 => add_months a y m d n w a1 a2 y1 y2 hD h1 h2
  have ka := fun W => ctell_ok a y m d W a1 a2 hD
  have kb := fun W => ctell_ok b y' m' f W b1 b2 hE
  have eM : 12 * y' + (m' - 1) - (12 * y + (m - 1)) = 12 * y' + m' - 1 - (12 * y + m - 1) := by omega
  generalize hi : 12 * y + (m - 1) = i at *
  generalize hj : 12 * y' + (m' - 1) = j at *
  have sa1 : 0 ≤ a % 86400 := by omega
  have sa2 : a % 86400 < 86400 := by omega
  have ub1 : 0 ≤ b % 86400 := by omega
  have ub2 : b % 86400 < 86400 := by omega
  have hle : 86400 * (Alm.gst i + d - 1) + a % 86400 ≤ 86400 * (Alm.gst j + f - 1) + b % 86400 := by omega
  have hbe : 86400 * (Alm.gst j + f - 1) + b % 86400 = b := by omega
  have hij : i ≤ j := (Alm.idx_of_day (Alm.gst j + f - 1) j f rfl j2 j3 i).1 (by omega)
  have lead : ∀ n, 0 ≤ n → i + n ≤ j → 86400 * Alm.amon i d n + a % 86400 ≤ b → Leads i d n := by
    intro n h0 h1 h2
    have bd := Alm.amon_bd i d n i2
    refine ⟨⟨by omega, by omega⟩, ?_, by omega⟩
    by_cases hn : n = 0
    · subst hn; rw [Alm.amon_zero i d i2 i3]; omega
    · have g := Alm.gst_le (i + 1) (i + n) (by omega)
      have s := Alm.gst_succ i
      omega
  by_cases hc : 86400 * Alm.amon i d (j - i) + a % 86400 ≤ b
  · have bt := Alm.between_same i d (a % 86400) j f (b % 86400) i2 i3 sa1 sa2 j2 j3 ub1 ub2 hle (by omega)
    have hL := lead (j - i) (by omega) (by omega) hc
    refine ⟨j - i, 86400 * Alm.amon i d (j - i) + a % 86400, ⟨bt.m0, by omega, hL, rfl, hc, by have := bt.days; omega, by have := bt.next; omega⟩, fun w => ?_⟩
    exact since_steps a b y m d y' m' f (j - i) _ w a1 a2 b1 b2 hab ⟨y1, y2⟩ ⟨m1, m2⟩ ⟨z1, z2⟩ ⟨p1, p2⟩ eM (_, _, _) (_, _, _) ka kb (j - i) (by have := hL.2; omega) hc bt.m0 (by omega)
      (.inl ⟨rfl, fun W => (kA (j - i) W (by omega) (by omega)).1 hL⟩)
  · have bt := Alm.between_less i d (a % 86400) j f (b % 86400) i2 i3 sa1 sa2 j2 j3 ub1 ub2 hle (by omega)
    have hc2 : 86400 * Alm.amon i d (j - i - 1) + a % 86400 ≤ b := by have := bt.le; omega
    have hL := lead (j - i - 1) bt.m0 (by omega) hc2
    have hM0 : 0 ≤ j - i - 1 := bt.m0
    refine ⟨j - i - 1, 86400 * Alm.amon i d (j - i - 1) + a % 86400, ⟨bt.m0, by omega, hL, rfl, hc2, by have := bt.days; omega, by have := bt.next; omega⟩, fun w => ?_⟩
    refine since_steps a b y m d y' m' f (j - i) _ w a1 a2 b1 b2 hab ⟨y1, y2⟩ ⟨m1, m2⟩ ⟨z1, z2⟩ ⟨p1, p2⟩ eM (_, _, _) (_, _, _) ka kb (j - i - 1) (by have := hL.2; omega) hc2 bt.m0 (by omega)
      (.inr ⟨rfl, fun W => (kA (j - i - 1) W (by omega) (by omega)).1 hL, ?_⟩)
    by_cases hL2 : Leads i d (j - i)
    · exact .inr ⟨_, by omega, by have := hL2.2; omega, fun W => (kA (j - i) W (by omega) (by omega)).1 hL2⟩
    · exact .inl (fun W => (kA (j - i) W (by omega) (by omega)).2 hL2)
end Go.Proofs.YtafaacliphdndaaGreatDoor
