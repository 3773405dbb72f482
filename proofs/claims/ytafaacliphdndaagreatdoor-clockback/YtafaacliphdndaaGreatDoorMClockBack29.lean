/- package clock: Since, at the dates of two times. -/
import Derived.Test.YtafaacliphdndaaGreatDoorMClockBack22
import Derived.Test.YtafaacliphdndaaGreatDoorClockM
import Derived.Test.YtafaacliphdndaaGreatDoorMClockBack27
namespace Go.Proofs.YtafaacliphdndaaGreatDoor
open Go.RowKit Go.Shelf
set_option linter.unusedVariables false
set_option linter.unusedSimpArgs false

theorem amon_dnum (j d : Int) : dnum 1 (j / 12) (j % 12 + 1) d = Alm.gst j + d - 1 := by
  unfold dnum Alm.gst
  rw [show j % 12 + 1 - 1 = j % 12 from by omega]; omega
theorem date_ex1 (day : Int) (w : World) (d1 : -4000000 ≤ day) (d2 : day ≤ 4000000) : ∃ y m d, Alm.IsDate 1 day y m d ∧ -20000 ≤ y ∧ y ≤ 20000 := by
  obtain ⟨e, w', fr, ⟨y, m, d, _, hd, y1, y2, _⟩, _⟩ := of_ok 1 day w (by omega) (by omega) d1 d2 []
  exact ⟨y, m, d, hd, y1, y2⟩
/-- do so many months lead to a day that is there? -/
def Leads (i d n : Int) : Prop := (-20000 ≤ (i + n) / 12 ∧ (i + n) / 12 ≤ 20000) ∧ (-4000000 ≤ Alm.amon i d n ∧ Alm.amon i d n ≤ 4000000)
theorem addMonths_val (day y m d n : Int) (w : World) (d1 : -4000000 ≤ day) (d2 : day ≤ 4000000) (y1 : -20000 ≤ y) (y2 : y ≤ 20000) (hD : Alm.IsDate 1 day y m d) (n1 : -20000000000000 ≤ n) (n2 : n ≤ 20000000000000) :
    (Leads (12 * y + (m - 1)) d n → Calls Tryz.prog 44 #[.int .i64 day, .int .i64 n] w fun e w' => e = .returned (.tuple #[.int .i64 (Alm.amon (12 * y + (m - 1)) d n), .nilIface]) ∧ Below w.heap.size w w') ∧
    (¬ Leads (12 * y + (m - 1)) d n → Calls Tryz.prog 44 #[.int .i64 day, .int .i64 n] w fun e w' => e = .returned (.tuple #[.int .i64 0, .iface 25 (.int .i64 4)]) ∧ Below w.heap.size w w') := by
  have hm := Alm.months_g y
  have m1 := hD.m1
  have m2 : m ≤ 12 := by have := hD.m2; omega
  have dd := hD.d1
  have dl : d ≤ 31 := by have := hD.d2; have := Alm.mlen_bd 1 y m hD.m1 hD.m2; omega
  have ko := fun W => of_ok' 1 day y m d W (by omega) (by omega) d1 d2 hD
  have ej : 12 * y + m - 1 + n = 12 * y + (m - 1) + n := by omega
  generalize hi : 12 * y + (m - 1) = i at *
  have gb := Alm.glen_bd (i + n)
  have hmj := Alm.months_g ((i + n) / 12)
  by_cases hy : -20000 ≤ (i + n) / 12 ∧ (i + n) / 12 ≤ 20000
  · have kl := fun W => length_ok 1 ((i + n) / 12) ((i + n) % 12 + 1) W (by omega) (by omega) hy.1 hy.2 (by omega) (by omega)
    have eg : Alm.mlen 1 ((i + n) / 12) ((i + n) % 12 + 1) = Alm.glen (i + n) := rfl
    rw [eg] at kl
    have hdn := amon_dnum (i + n) (min d (Alm.glen (i + n)))
    have ha : Alm.gst (i + n) + min d (Alm.glen (i + n)) - 1 = Alm.amon i d n := rfl
    rw [ha] at hdn
    constructor
    · intro hL
      have he : derr 1 ((i + n) / 12) ((i + n) % 12 + 1) (min d (Alm.glen (i + n))) = 0 := by
        unfold derr
        rw [hdn, if_neg (by omega), if_neg (by omega), if_neg (by omega), if_neg (by rw [eg]; omega), if_neg (by have := hL.2; omega)]
      have kd := fun W => day_ok 1 ((i + n) / 12) ((i + n) % 12 + 1) (min d (Alm.glen (i + n))) W he
      rw [hdn] at kd
      exact addMonths_steps day y m d n _ _ w d1 d2 y1 y2 m1 m2 n1 n2 (Alm.glen (i + n)) ⟨by omega, gb.2⟩ ⟨dd, dl⟩ ko (by rw [ej]; exact kl) (by rw [ej]; exact kd)
    · intro hL
      have hL2 : Alm.amon i d n < -4000000 ∨ 4000000 < Alm.amon i d n := by
        unfold Leads at hL; omega
      have he : derr 1 ((i + n) / 12) ((i + n) % 12 + 1) (min d (Alm.glen (i + n))) = 4 := by
        unfold derr
        rw [hdn, if_neg (by omega), if_neg (by omega), if_neg (by omega), if_neg (by rw [eg]; omega), if_pos (by omega)]
      have kd := fun W => day_no 1 ((i + n) / 12) ((i + n) % 12 + 1) (min d (Alm.glen (i + n))) W (by omega)
      rw [he] at kd
      exact addMonths_steps day y m d n _ _ w d1 d2 y1 y2 m1 m2 n1 n2 (Alm.glen (i + n)) ⟨by omega, gb.2⟩ ⟨dd, dl⟩ ko (by rw [ej]; exact kl) (by rw [ej]; exact kd)
  · have kl := fun W => length_no 1 ((i + n) / 12) ((i + n) % 12 + 1) W (by omega)
    have he : merr 1 ((i + n) / 12) ((i + n) % 12 + 1) = 4 := by unfold merr; rw [if_neg (by omega), if_pos (by omega)]
    rw [he] at kl
    constructor
    · intro hL; exact absurd hL.1 hy
    · intro _
      exact addMonths_far day y m d n 4 w d1 d2 y1 y2 m1 m2 n1 n2 ko (by rw [ej]; exact kl)
/-- what Add answers, at a time whose date is known -/
theorem add_val (t y m d Y M N D S : Int) (w : World) (t1 : -345600000000 ≤ t) (t2 : t ≤ 345600086399) (y1 : -20000 ≤ y) (y2 : y ≤ 20000) (hD : Alm.IsDate 1 (t / 86400) y m d) (hp : Small Y M N D S) (n : Int) (hn : n = 12 * Y + M) :
    (Leads (12 * y + (m - 1)) d n ∧ (-4000000 ≤ Alm.amon (12 * y + (m - 1)) d n + 7 * N + D ∧ Alm.amon (12 * y + (m - 1)) d n + 7 * N + D ≤ 4000000) → Calls Tryz.prog 20 #[.int .i64 t, .agg #[.int .i64 Y, .int .i64 M, .int .i64 N, .int .i64 D, .int .i64 S]] w fun e w' => e = .returned (tval ((Alm.amon (12 * y + (m - 1)) d n + 7 * N + D) * 86400 + (t % 86400 + S))) ∧ Below w.heap.size w w') ∧
    (¬ (Leads (12 * y + (m - 1)) d n ∧ (-4000000 ≤ Alm.amon (12 * y + (m - 1)) d n + 7 * N + D ∧ Alm.amon (12 * y + (m - 1)) d n + 7 * N + D ≤ 4000000)) → Calls Tryz.prog 20 #[.int .i64 t, .agg #[.int .i64 Y, .int .i64 M, .int .i64 N, .int .i64 D, .int .i64 S]] w fun e w' => e = .returned (.tuple #[.int .i64 0, .iface 25 (.int .i64 4)]) ∧ Below w.heap.size w w') := by
  have hb : (-1000000000000 ≤ Y ∧ Y ≤ 1000000000000) ∧ (-1000000000000 ≤ M ∧ M ≤ 1000000000000) := ⟨hp.1, hp.2.1⟩
  subst hn
  have ka := fun W => addMonths_val (t / 86400) y m d (12 * Y + M) W (by omega) (by omega) y1 y2 hD (by omega) (by omega)
  constructor
  · rintro ⟨hL, hr⟩
    have hl := hL.2
    exact add_day t Y M N D S _ _ _ w t1 t2 hp hl.1 hl.2 (fun W => (ka W).1 hL) (.inr ⟨hr, fun W => cthere_any _ W⟩)
  · intro h
    by_cases hL : Leads (12 * y + (m - 1)) d (12 * Y + M)
    · have hl := hL.2
      exact add_day t Y M N D S _ _ _ w t1 t2 hp hl.1 hl.2 (fun W => (ka W).1 hL) (.inl ⟨by have := not_and.1 h hL; omega, rfl, rfl⟩)
    · exact add_none t Y M N D S 4 w t1 t2 hp (fun W => (ka W).2 hL)

/-! ### package plain -/
theorem padd_ok (t y m n d s T : Int) (w : World)
    (ka : ∀ W, Calls Tryz.prog 20 #[.int .i64 t, .agg #[.int .i64 y, .int .i64 m, .int .i64 n, .int .i64 d, .int .i64 s]] W fun e w' => e = .returned (.tuple #[.int .i64 T, .nilIface]) ∧ Below W.heap.size W w') :
    Calls Tryz.prog 7 #[.int .i64 t, .agg #[.int .i64 y, .int .i64 m, .int .i64 n, .int .i64 d, .int .i64 s]] w fun e w' => e = .returned (.tuple #[.int .i64 T, .int .i64 0]) ∧ Below w.heap.size w w' := by
  have hb0 : Below w.heap.size w (w.alloc (.cells #[.int .i64 y, .int .i64 m, .int .i64 n, .int .i64 d, .int .i64 s] 24)) := (Below.refl _ w).alloc (Nat.le_refl _) _
  go_enter Tryz.func7, Tryz.ntmps7
  go_wp2_with fail
  refine (ka _).mono ?_
  rintro e W ⟨rfl, hb⟩
  have hB := hb0.trans (hb.mono (by simp))
  clear hb hb0 ka
  go_wp2_with fail
  refine (tell_nil _).mono ?_
  rintro e W2 ⟨rfl, hb2⟩
  go_wp2
  go_ret2
  exact ⟨rfl, hB.trans (hb2.mono hB.size)⟩
theorem padd_no (t y m n d s q : Int) (w : World) (hd : Hd w)
    (ka : ∀ W, Calls Tryz.prog 20 #[.int .i64 t, .agg #[.int .i64 y, .int .i64 m, .int .i64 n, .int .i64 d, .int .i64 s]] W fun e w' => e = .returned (.tuple #[.int .i64 0, .iface 25 (.int .i64 q)]) ∧ Below W.heap.size W w') :
    Calls Tryz.prog 7 #[.int .i64 t, .agg #[.int .i64 y, .int .i64 m, .int .i64 n, .int .i64 d, .int .i64 s]] w fun e w' => e = .returned (.tuple #[.int .i64 0, .int .i64 q]) ∧ Below w.heap.size w w' := by
  have hb0 : Below w.heap.size w (w.alloc (.cells #[.int .i64 y, .int .i64 m, .int .i64 n, .int .i64 d, .int .i64 s] 24)) := (Below.refl _ w).alloc (Nat.le_refl _) _
  go_enter Tryz.func7, Tryz.ntmps7
  go_wp2_with fail
  refine (ka _).mono ?_
  rintro e W ⟨rfl, hb⟩
  have hB := hb0.trans (hb.mono (by simp))
  have hd2 := hd.later hB
  clear hb hb0 ka
  go_wp2_with fail
  refine (tell_err _ _ hd2).mono ?_
  rintro e W2 ⟨rfl, hb2⟩
  go_wp2
  go_ret2
  exact ⟨rfl, hB.trans (hb2.mono hB.size)⟩
theorem after_tell5 (w W X w' : World) (v0 v1 v2 v3 v4 : Value) (n : Nat) (hX : X = (W.alloc (.cells #[v0, v1, v2, v3, v4] 24)).drewN n) (hw : Below (w.alloc (.cells #[.int .i64 0, .int .i64 0, .int .i64 0, .int .i64 0, .int .i64 0] 24)).heap.size (w.alloc (.cells #[.int .i64 0, .int .i64 0, .int .i64 0, .int .i64 0, .int .i64 0] 24)) W) (h : Below X.heap.size X w') :
    (w'.cell? ⟨w.heap.size, 0, none⟩ = some (.int .i64 0) ∧ w'.cell? ⟨w.heap.size, 1, none⟩ = some (.int .i64 0) ∧ w'.cell? ⟨w.heap.size, 2, none⟩ = some (.int .i64 0) ∧ w'.cell? ⟨w.heap.size, 3, none⟩ = some (.int .i64 0) ∧ w'.cell? ⟨w.heap.size, 4, none⟩ = some (.int .i64 0)) ∧ (∀ j, w'.frozen? ⟨w.heap.size, j, none⟩ = false) ∧
    (w'.cell? ⟨W.heap.size, 0, none⟩ = some v0 ∧ w'.cell? ⟨W.heap.size, 1, none⟩ = some v1 ∧ w'.cell? ⟨W.heap.size, 2, none⟩ = some v2 ∧ w'.cell? ⟨W.heap.size, 3, none⟩ = some v3 ∧ w'.cell? ⟨W.heap.size, 4, none⟩ = some v4) ∧ Hid (Below w.heap.size w w') := by
  subst hX
  obtain ⟨⟨z0, z1, z2, z3, z4⟩, fz, hs⟩ := box5 w W _ _ _ _ _ _ hw
  have h2 : Below (W.alloc (.cells #[v0, v1, v2, v3, v4] 24)).heap.size (W.alloc (.cells #[v0, v1, v2, v3, v4] 24)) w' := (below_drewN (Below.refl _ _) n).trans h
  obtain ⟨c5, _, _⟩ := box5 W w' _ _ _ _ _ _ h2
  have cc : ∀ k o, k < W.heap.size → w'.cell? ⟨k, o, none⟩ = W.cell? ⟨k, o, none⟩ := fun k o hk => by rw [h2.cell (p := ⟨k, o, none⟩) (by simp; omega), World.cell?_alloc_past _ _ _ hk]
  have ff : ∀ k o, k < W.heap.size → w'.frozen? ⟨k, o, none⟩ = W.frozen? ⟨k, o, none⟩ := fun k o hk => by rw [h2.frozen (p := ⟨k, o, none⟩) (by simp; omega), World.frozen?_alloc_old _ _ ⟨k, o, none⟩ (Nat.ne_of_lt hk)]
  refine ⟨⟨?_, ?_, ?_, ?_, ?_⟩, fun j => ?_, c5, ?_⟩
  · rw [cc _ _ hs]; exact z0
  · rw [cc _ _ hs]; exact z1
  · rw [cc _ _ hs]; exact z2
  · rw [cc _ _ hs]; exact z3
  · rw [cc _ _ hs]; exact z4
  · rw [ff _ _ hs]; exact fz j
  · exact ((((Below.refl _ w).alloc (Nat.le_refl _) _).trans (hw.mono (by simp))).alloc (Nat.le_of_lt hs) _).trans (h2.mono (by simp; omega))
set_option maxRecDepth 100000 in
set_option maxHeartbeats 8000000 in
theorem psince_steps (a b : Int) (w : World) (v0 v1 v2 v3 v4 k : Int) (ev : Value)
    (ks : ∀ W, Calls Tryz.prog 32 #[.int .i64 a, .int .i64 b] W fun e w' => e = .returned (.tuple #[.agg #[.int .i64 v0, .int .i64 v1, .int .i64 v2, .int .i64 v3, .int .i64 v4], ev]) ∧ Below W.heap.size W w')
    (htl : ∀ W, Below w.heap.size w W → Calls Tryz.prog 21 #[ev] W fun e w' => e = .returned (.int .i64 k) ∧ Below W.heap.size W w') :
    Calls Tryz.prog 9 #[.int .i64 a, .int .i64 b] w fun e w' => e = .returned (.tuple #[.agg #[.int .i64 v0, .int .i64 v1, .int .i64 v2, .int .i64 v3, .int .i64 v4], .int .i64 k]) ∧ Below w.heap.size w w' := by
  have KS := hide ks
  have ht := hide htl
  clear ks htl
  go_enter Tryz.func9, Tryz.ntmps9
  go_wp2_with fail
  refine (KS.out _).mono ?_
  rintro e W ⟨rfl, hw⟩
  have hs : w.heap.size < W.heap.size := by have := hw.size; simp at this; omega
  have hb0 : Below w.heap.size w W := ((Below.refl _ w).alloc (Nat.le_refl _) _).trans (hw.mono (by simp))
  clear KS
  go_wp2_with fail
  go_region_with (go_at_call 21; refine (ht.out _ (by repeat (first | exact hb0.alloc (by omega) _ | refine below_drewN ?_ _))).mono ?_; rintro e X ⟨rfl, hx⟩; obtain ⟨⟨a0, a1, a2, a3, a4⟩, fa, ⟨b0, b1, b2, b3, b4⟩, hbf⟩ := after_tell5 w W _ X _ _ _ _ _ _ rfl hw hx; clear hx)
  all_goals
    have hbf := (show Hid (Below w.heap.size w _) by assumption)
    clear ht hw
    go_wp2
    refine bodyPost_ret (v := .tuple #[.agg #[.int .i64 v0, .int .i64 v1, .int .i64 v2, .int .i64 v3, .int .i64 v4], .int .i64 k]) (by simp [results, Tryz.results9, go_sem, *]) rfl ⟨rfl, ?_⟩
    exact ((((hbf.out.setCell (Nat.le_refl _) _).setCell (Nat.le_refl _) _).setCell (Nat.le_refl _) _).setCell (Nat.le_refl _) _).setCell (Nat.le_refl _) _
end Go.Proofs.YtafaacliphdndaaGreatDoor
namespace Go.Proofs.YtafaacliphdndaaGreatDoor
open Go.RowKit Go.Shelf
set_option linter.unusedVariables false
set_option linter.unusedSimpArgs false

theorem ctell_ok (t y m d : Int) (w : World) (t1 : -345600000000 ≤ t) (t2 : t ≤ 345600086399) (hD : Alm.IsDate 1 (t / 86400) y m d) :
    Calls Tryz.prog 54 #[.int .i64 t] w fun e w' => e = .returned (.tuple #[.agg #[.int .i64 1, .int .i64 y, .int .i64 m, .int .i64 d], clk (t % 86400), .nilIface]) ∧ Below w.heap.size w w' :=
  tell_steps t 1 y m d w t1 t2 (fun W => of_ok' 1 (t / 86400) y m d W (by omega) (by omega) (by omega) (by omega) hD)
theorem small0 (M : Int) (h1 : -1000000000000 ≤ M) (h2 : M ≤ 1000000000000) : Small 0 M 0 0 0 := ⟨by omega, ⟨h1, h2⟩, by omega, by omega, by omega⟩
/-- Add of months alone -/
theorem add_months (t y m d n : Int) (w : World) (t1 : -345600000000 ≤ t) (t2 : t ≤ 345600086399) (y1 : -20000 ≤ y) (y2 : y ≤ 20000) (hD : Alm.IsDate 1 (t / 86400) y m d) (n1 : -1000000000000 ≤ n) (n2 : n ≤ 1000000000000) :
    (Leads (12 * y + (m - 1)) d n → Calls Tryz.prog 20 #[.int .i64 t, .agg #[.int .i64 0, .int .i64 n, .int .i64 0, .int .i64 0, .int .i64 0]] w fun e w' => e = .returned (.tuple #[.int .i64 (86400 * Alm.amon (12 * y + (m - 1)) d n + t % 86400), .nilIface]) ∧ Below w.heap.size w w') ∧
    (¬ Leads (12 * y + (m - 1)) d n → Calls Tryz.prog 20 #[.int .i64 t, .agg #[.int .i64 0, .int .i64 n, .int .i64 0, .int .i64 0, .int .i64 0]] w fun e w' => e = .returned (.tuple #[.int .i64 0, .iface 25 (.int .i64 4)]) ∧ Below w.heap.size w w') := by
  have k := add_val t y m d 0 n 0 0 0 w t1 t2 y1 y2 hD (small0 n n1 n2) n (by omega)
  constructor
  · intro hL
    have hl := hL.2
    have k1 := k.1 ⟨hL, by omega⟩
    rw [tval_ok _ (by omega) (by omega)] at k1
    have e : (Alm.amon (12 * y + (m - 1)) d n + 7 * 0 + 0) * 86400 + (t % 86400 + 0) = 86400 * Alm.amon (12 * y + (m - 1)) d n + t % 86400 := by omega
    rw [e] at k1
    exact k1
  · intro hL
    exact k.2 (fun h => hL h.1)
/-- what Since finds -/
structure Found (a b i d F v : Int) : Prop where
  f0 : 0 ≤ F
  f1 : F ≤ 1000000
  leads : Leads i d F
  eq : v = 86400 * Alm.amon i d F + a % 86400
  le : v ≤ b
  days : b - v < 31 * 86400
  next : b < 86400 * Alm.amon i d (F + 1) + a % 86400
set_option maxRecDepth 100000 in
theorem since_ok (a b y m d : Int) (W0 : World) (a1 : -345600000000 ≤ a) (a2 : a ≤ 345600086399) (b1 : -345600000000 ≤ b) (b2 : b ≤ 345600086399) (hab : a ≤ b) (y1 : -20000 ≤ y) (y2 : y ≤ 20000) (hD : Alm.IsDate 1 (a / 86400) y m d) :
    ∃ F v, Found a b (12 * y + (m - 1)) d F v ∧ ∀ w, Calls Tryz.prog 32 #[.int .i64 a, .int .i64 b] w fun e w' => e = .returned (.tuple #[.agg #[.int .i64 (F / 12), .int .i64 (F % 12), .int .i64 0, .int .i64 ((b - v) / 86400), .int .i64 ((b - v) % 86400)], .nilIface]) ∧ Below w.heap.size w w' := by
  obtain ⟨y', m', f, hE, z1, z2⟩ := date_ex1 (b / 86400) W0 (by omega) (by omega)
  obtain ⟨i1, i2, i3, i4, i5⟩ := hD.idx
  obtain ⟨j1, j2, j3, j4, j5⟩ := hE.idx
  have m1 := hD.m1
  have m2 : m ≤ 12 := by have := hD.m2; have := Alm.months_g y; omega
  have p1 := hE.m1
  have p2 : m' ≤ 12 := by have := hE.m2; have := Alm.months_g y'; omega
  have kA := fun n w h1 h2 => add_months a y m d n w a1 a2 y1 y2 hD h1 h2
  have ka := fun W => ctell_ok a y m d W a1 a2 hD
  have kb := fun W => ctell_ok b y' m' f W b1 b2 hE
  have eM : 12 * y' + (m' - 1) - (12 * y + (m - 1)) = 12 * y' + m' - 1 - (12 * y + m - 1) := by omega
  generalize hi : 12 * y + (m - 1) = i at *
  generalize hj : 12 * y' + (m' - 1) = j at *
  have sa1 : 0 ≤ a % 86400 := by omega
  have sa2 : a % 86400 < 86400 := by omega
  have ub1 : 0 ≤ b % 86400 := by omega
  have ub2 : b % 86400 < 86400 := by omega
  have hle : 86400 * (Alm.gst i + d - 1) + a % 86400 ≤ 86400 * (Alm.gst j + f - 1) + b % 86400 := by omega
  have hbe : 86400 * (Alm.gst j + f - 1) + b % 86400 = b := by omega
  have hij : i ≤ j := (Alm.idx_of_day (Alm.gst j + f - 1) j f rfl j2 j3 i).1 (by omega)
  have lead : ∀ n, 0 ≤ n → i + n ≤ j → 86400 * Alm.amon i d n + a % 86400 ≤ b → Leads i d n := by
    intro n h0 h1 h2
    have bd := Alm.amon_bd i d n i2
    refine ⟨⟨by omega, by omega⟩, ?_, by omega⟩
    by_cases hn : n = 0
    · subst hn; rw [Alm.amon_zero i d i2 i3]; omega
    · have g := Alm.gst_le (i + 1) (i + n) (by omega)
      have s := Alm.gst_succ i
      omega
  by_cases hc : 86400 * Alm.amon i d (j - i) + a % 86400 ≤ b
  · have bt := Alm.between_same i d (a % 86400) j f (b % 86400) i2 i3 sa1 sa2 j2 j3 ub1 ub2 hle (by omega)
    have hL := lead (j - i) (by omega) (by omega) hc
    refine ⟨j - i, 86400 * Alm.amon i d (j - i) + a % 86400, ⟨bt.m0, by omega, hL, rfl, hc, by have := bt.days; omega, by have := bt.next; omega⟩, fun w => ?_⟩
    exact since_steps a b y m d y' m' f (j - i) _ w a1 a2 b1 b2 hab ⟨y1, y2⟩ ⟨m1, m2⟩ ⟨z1, z2⟩ ⟨p1, p2⟩ eM (_, _, _) (_, _, _) ka kb (j - i) (by have := hL.2; omega) hc bt.m0 (by omega)
      (.inl ⟨rfl, fun W => (kA (j - i) W (by omega) (by omega)).1 hL⟩)
  · have bt := Alm.between_less i d (a % 86400) j f (b % 86400) i2 i3 sa1 sa2 j2 j3 ub1 ub2 hle (by omega)
    have hc2 : 86400 * Alm.amon i d (j - i - 1) + a % 86400 ≤ b := by have := bt.le; omega
    have hL := lead (j - i - 1) bt.m0 (by omega) hc2
    have hM0 : 0 ≤ j - i - 1 := bt.m0
    refine ⟨j - i - 1, 86400 * Alm.amon i d (j - i - 1) + a % 86400, ⟨bt.m0, by omega, hL, rfl, hc2, by have := bt.days; omega, by have := bt.next; omega⟩, fun w => ?_⟩
    refine since_steps a b y m d y' m' f (j - i) _ w a1 a2 b1 b2 hab ⟨y1, y2⟩ ⟨m1, m2⟩ ⟨z1, z2⟩ ⟨p1, p2⟩ eM (_, _, _) (_, _, _) ka kb (j - i - 1) (by have := hL.2; omega) hc2 bt.m0 (by omega)
      (.inr ⟨rfl, fun W => (kA (j - i - 1) W (by omega) (by omega)).1 hL, ?_⟩)
    by_cases hL2 : Leads i d (j - i)
    · exact .inr ⟨_, by omega, by have := hL2.2; omega, fun W => (kA (j - i) W (by omega) (by omega)).1 hL2⟩
    · exact .inl (fun W => (kA (j - i) W (by omega) (by omega)).2 hL2)
end Go.Proofs.YtafaacliphdndaaGreatDoor
