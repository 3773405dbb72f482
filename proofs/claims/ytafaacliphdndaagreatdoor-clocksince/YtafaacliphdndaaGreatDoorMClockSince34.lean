/- The reference: Since; ClockSince. -/
import Derived.Test.YtafaacliphdndaaGreatDoorMClockSince33
namespace Go.Proofs.YtafaacliphdndaaGreatDoor
open Go.RowKit Go.Shelf
set_option linter.unusedVariables false
set_option linter.unusedSimpArgs false

/-- what the reference's Add of so many months answers -/
def Res (i d s m V E : Int) : Prop := (¬ Leads i d m ∧ V = 0 ∧ E = 4) ∨ (Leads i d m ∧ V = 86400 * Alm.amon i d m + s ∧ E = 0)
theorem res_ex (i d s m : Int) : ∃ V E, Res i d s m V E := by
  by_cases hL : Leads i d m
  · exact ⟨_, 0, .inr ⟨hL, rfl, rfl⟩⟩
  · exact ⟨0, 4, .inl ⟨hL, rfl, rfl⟩⟩
/-- behind F no months are not too many -/
theorem res_late (i d s b F m V E : Int) (d1 : 1 ≤ d) (hn : b < 86400 * Alm.amon i d (F + 1) + s) (hm : F < m) (h : Res i d s m V E) : E ≠ 0 ∨ (E = 0 ∧ b < V) := by
  rcases h with ⟨_, _, rfl⟩ | ⟨_, rfl, rfl⟩
  · left; omega
  · right
    refine ⟨rfl, ?_⟩
    by_cases e : m = F + 1
    · subst e; exact hn
    · have b1 := Alm.amon_bd i d (F + 1) d1
      have b2 := Alm.amon_bd i d m d1
      have g := Alm.gst_le (i + (F + 1) + 1) (i + m) (by omega)
      omega
theorem add_res (t y mo d m V E : Int) (w : World) (t1 : -345600000000 ≤ t) (t2 : t ≤ 345600086399) (y1 : -20000 ≤ y) (y2 : y ≤ 20000) (hD : Alm.IsDate 1 (t / 86400) y mo d) (n1 : -1000000000000 ≤ m) (n2 : m ≤ 1000000000000) (h : Res (12 * y + (mo - 1)) d (t % 86400) m V E) :
    Calls Tryz.prog 8 #[.int .i64 t, .agg #[.int .i64 0, .int .i64 m, .int .i64 0, .int .i64 0, .int .i64 0]] w fun e w' => e = .returned (.tuple #[.int .i64 V, .int .i64 E]) ∧ Below w.heap.size w w' := by
  refine radd_val t y mo d 0 m 0 0 0 V E w t1 t2 (small0 m n1 n2) y1 y2 hD m (by omega) ?_
  rcases h with ⟨hL, hv, he⟩ | ⟨hL, hv, he⟩
  · exact .inl ⟨hL, hv, he⟩
  · have hl := hL.2
    exact .inr ⟨hL, .inr ⟨by omega, .inr ⟨by omega, by omega, he⟩⟩⟩
set_option maxRecDepth 100000 in
set_option maxHeartbeats 8000000 in
theorem rsince_steps (a b y m d y' m' d' F v : Int) (ca0 ca1 ca2 cb0 cb1 cb2 : Int) (w : World) (a1 : -345600000000 ≤ a) (a2 : a ≤ 345600086399) (b1 : -345600000000 ≤ b) (b2 : b ≤ 345600086399) (hab : a ≤ b)
    (y1 : -20000 ≤ y) (y2 : y ≤ 20000) (m1 : 1 ≤ m) (m2 : m ≤ 12) (z1 : -20000 ≤ y') (z2 : y' ≤ 20000) (p1 : 1 ≤ m') (p2 : m' ≤ 12) (dd : 1 ≤ d) (hD : Alm.IsDate 1 (a / 86400) y m d)
    (hF : Found a b (12 * y + (m - 1)) d F v) (hFM : F ≤ 12 * (y' - y) + m' - m)
    (ka : ∀ W, Calls Tryz.prog 33 #[.int .i64 a] W fun e w' => e = .returned (.tuple #[.agg #[.int .i64 1, .int .i64 y, .int .i64 m, .int .i64 d], .agg #[.int .i64 ca0, .int .i64 ca1, .int .i64 ca2], .int .i64 0]) ∧ Below W.heap.size W w')
    (kb : ∀ W, Calls Tryz.prog 33 #[.int .i64 b] W fun e w' => e = .returned (.tuple #[.agg #[.int .i64 1, .int .i64 y', .int .i64 m', .int .i64 d'], .agg #[.int .i64 cb0, .int .i64 cb1, .int .i64 cb2], .int .i64 0]) ∧ Below W.heap.size W w') :
    Calls Tryz.prog 10 #[.int .i64 a, .int .i64 b] w fun e w' => e = .returned (.tuple #[.agg #[.int .i64 (F / 12), .int .i64 (F % 12), .int .i64 0, .int .i64 ((b - v) / 86400), .int .i64 ((b - v) % 86400)], .int .i64 0]) ∧ Below w.heap.size w w' := by
  obtain ⟨f0, f1, fl, fv, fle, fd, fn⟩ := hF
  have KA := hide ka
  have KB := hide kb
  have KR := hide (fun n V E W (n1 : -1000000000000 ≤ n) (n2 : n ≤ 1000000000000) h => add_res a y m d n V E W a1 a2 y1 y2 hD n1 n2 h)
  have FL := hide fl
  have FV := hide fv
  have FN := hide fn
  have fl2 := fl.2
  have v0 : -345600000000 ≤ v := by omega
  clear ka kb hD fl fv fn fl2
  generalize hi : 12 * y + (m - 1) = i at *
  have HI := hide hi
  clear hi
  obtain ⟨V0, E0, hr0⟩ := res_ex i d (a % 86400) (12 * (y' - y) + m' - m + 1)
  have HR0 := hide hr0
  clear hr0
  go_enter Tryz.func10, Tryz.ntmps10
  go_wp2_with fail
  refine (KA.out _).mono ?_
  rintro e W1 ⟨rfl, hb1⟩
  have z1' : w.heap.size < W1.heap.size := by have := hb1.size; simp at this; omega
  go_wp2_with fail
  refine (KB.out _).mono ?_
  rintro e W2 ⟨rfl, hb2⟩
  obtain ⟨⟨e0, e1, e2, e3⟩, z2'⟩ := two_boxes W1 W2 _ _ _ _ _ _ _ hb2
  have z3 : W1.heap.size < W2.heap.size := by omega
  have hB2 : Below (w.alloc (.cells #[.int .i64 0, .int .i64 0, .int .i64 0, .int .i64 0, .int .i64 0] 24)).heap.size (w.alloc (.cells #[.int .i64 0, .int .i64 0, .int .i64 0, .int .i64 0, .int .i64 0] 24)) W2 := ((hb1.alloc hb1.size _).alloc (by have := hb1.size; simp at this ⊢; omega) _).trans (hb2.mono (by simp; omega))
  have hB3 := (hB2.alloc hB2.size (.cells #[.int .i64 1, .int .i64 y', .int .i64 m', .int .i64 d'] 55)).alloc (by have := hB2.size; simp at this ⊢; omega) (.cells #[.int .i64 cb0, .int .i64 cb1, .int .i64 cb2] 68)
  clear hb1 hb2 KA KB hB2
  go_wp2_with fail
  refine (KR.out _ V0 E0 _ (by omega) (by omega) HR0.out).mono ?_
  rintro e W3 ⟨rfl, hx⟩
  have hB4 := hB3.trans (hx.mono hB3.size)
  clear hx hB3 e0 e1 e2 e3
  go_wp2_with fail
  go_loopw [8, 12, 13] (fun ev mv av wr => ∃ n V E : Int, F ≤ n ∧ n ≤ 12 * (y' - y) + m' - m + 1 ∧ mv = .int .i64 n ∧ av = .int .i64 V ∧ ev = .int .i64 E ∧ Hid (Res i d (a % 86400) n V E) ∧ Hid (Below (w.alloc (.cells #[.int .i64 0, .int .i64 0, .int .i64 0, .int .i64 0, .int .i64 0] 24)).heap.size (w.alloc (.cells #[.int .i64 0, .int .i64 0, .int .i64 0, .int .i64 0, .int .i64 0] 24)) wr)) (fun _ mv _ _ => (intOf mv + 10).toNat)
  case atStart => exact ⟨_, V0, E0, by omega, by omega, rfl, rfl, rfl, HR0, hide hB4⟩
  case round =>
    obtain ⟨n, V, E, n1, n2, rfl, rfl, rfl, hr, hbb⟩ := hrel
    by_cases hlt : F < n
    · have hl := res_late i d (a % 86400) b F n V E dd FN.out hlt hr.out
      obtain ⟨V2, E2, hr2⟩ := res_ex i d (a % 86400) (n - 1)
      have K := hide (fun W => KR.out (n - 1) V2 E2 W (by omega) (by omega) hr2)
      have HR2 := hide hr2
      clear hr2 hr
      rcases hl with hl | ⟨rfl, hl⟩
      · have q1 : (E != 0) = true := by simpa using hl
        clear hl
        go_wp2_with fail
        refine (K.out _).mono ?_
        rintro e W5 ⟨rfl, hx⟩
        have hBx := hide (hbb.out.trans (hx.mono hbb.out.size))
        clear hx hbb K
        go_wp2
        go_roundw
        case rel => exact ⟨n - 1, V2, E2, by omega, by omega, rfl, rfl, rfl, HR2, hBx⟩
        case measure => simp [intOf]; omega
      · go_wp2_with fail
        refine (K.out _).mono ?_
        rintro e W5 ⟨rfl, hx⟩
        have hBx := hide (hbb.out.trans (hx.mono hbb.out.size))
        clear hx hbb K
        go_wp2
        go_roundw
        case rel => exact ⟨n - 1, V2, E2, by omega, by omega, rfl, rfl, rfl, HR2, hBx⟩
        case measure => simp [intOf]; omega
    · obtain rfl : n = F := by omega
      rcases hr.out with ⟨hL, _, _⟩ | ⟨_, hv, rfl⟩
      · exact absurd FL.out hL
      · obtain rfl : V = v := by rw [hv, FV.out]
        clear hr hv
        have hBY := hbb.out
        obtain ⟨⟨p0, p1', p2', p3, p4⟩, fz, zz⟩ := box5 w wr _ _ _ _ _ _ hBY
        have hBw : Below w.heap.size w wr := ((Below.refl _ w).alloc (Nat.le_refl _) _).trans (hBY.mono (by simp))
        have r0 : 0 ≤ b - V := by omega
        have r1 : b - V ≤ 700000000000 := by omega
        clear hBY hbb
        go_wp2
        refine bodyPost_ret (v := .tuple #[.agg #[.int .i64 (n / 12), .int .i64 (n % 12), .int .i64 0, .int .i64 ((b - V) / 86400), .int .i64 ((b - V) % 86400)], .int .i64 0]) (by simp [results, Tryz.results10, go_sem, p0, p1', p2', p3, p4]) rfl ⟨rfl, ?_⟩
        exact ((((hBw.setCell (Nat.le_refl _) _).setCell (Nat.le_refl _) _).setCell (Nat.le_refl _) _).setCell (Nat.le_refl _) _).setCell (Nat.le_refl _) _
end Go.Proofs.YtafaacliphdndaaGreatDoor
