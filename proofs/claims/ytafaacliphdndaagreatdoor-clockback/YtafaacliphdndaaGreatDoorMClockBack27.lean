/- Weeks: package plain. -/
import Derived.Test.YtafaacliphdndaaGreatDoorMClockBack24
namespace Go.Proofs.YtafaacliphdndaaGreatDoor
open Go.RowKit Go.Shelf

/-- what is wrong with a calendar and a day -/
def oerr (c day : Int) : Int := if c < 1 ∨ 10 < c then 2 else if day < -4000000 ∨ 4000000 < day then 4 else 0
theorem of_no (c day : Int) (w : World) (h : c < 1 ∨ 10 < c ∨ day < -4000000 ∨ 4000000 < day) :
    Calls Tryz.prog 69 #[.int .i64 c, .int .i64 day] w fun e w' => e = .returned (.tuple #[.agg #[.int .i64 0, .int .i64 0, .int .i64 0, .int .i64 0], .iface 25 (.int .i64 (oerr c day))]) ∧ Below w.heap.size w w' := by
  by_cases hc : c < 1 ∨ 10 < c
  · have e : oerr c day = 2 := by unfold oerr; rw [if_pos hc]
    rw [e]; clear e h
    go_enter Tryz.func69, Tryz.ntmps69
    go_wp2_with fail
    refine (calOf_no c _ hc).mono ?_
    rintro e W ⟨rfl, hb⟩
    obtain ⟨⟨z0, n0⟩, ⟨z1, n1⟩, ⟨z2, n2⟩, ⟨z3, n3⟩⟩ := slotD w W hb
    have hs : w.heap.size < W.heap.size := by have := hb.size; simp at this; omega
    have hb0 : Below w.heap.size w W := ((Below.refl _ w).alloc (Nat.le_refl _) _).trans (hb.mono (by simp))
    clear hc
    go_wp2
    exact bodyPost_ret (v := .tuple #[.agg #[.int .i64 0, .int .i64 0, .int .i64 0, .int .i64 0], .iface 25 (.int .i64 2)]) (by simp [results, Tryz.results69, go_sem, z0, z1, z2, z3, hs]) rfl ⟨rfl, ((((hb0.setCell (Nat.le_refl _) _).setCell (Nat.le_refl _) _).setCell (Nat.le_refl _) _).setCell (Nat.le_refl _) _).alloc (by simp [World.setCell]; omega) _⟩
  · have hd : day < -4000000 ∨ 4000000 < day := by omega
    have e : oerr c day = 4 := by unfold oerr; rw [if_neg hc, if_pos hd]
    rw [e]; clear e h
    go_enter Tryz.func69, Tryz.ntmps69
    go_wp2_with fail
    refine (calOf_yes c _ (by omega) (by omega)).mono ?_
    rintro e W ⟨g0, l0, g1, l1, g2, l2, g3, l3, rfl, hcal, hb⟩
    obtain ⟨⟨z0, n0⟩, ⟨z1, n1⟩, ⟨z2, n2⟩, ⟨z3, n3⟩⟩ := slotD w W hb
    have hs : w.heap.size < W.heap.size := by have := hb.size; simp at this; omega
    have hb0 : Below w.heap.size w W := ((Below.refl _ w).alloc (Nat.le_refl _) _).trans (hb.mono (by simp))
    clear hcal hc
    go_wp2_with (go_at_call 94; refine (checkDay_no day _ hd).mono ?_; rintro e w' ⟨rfl, rfl⟩)
    exact bodyPost_ret (v := .tuple #[.agg #[.int .i64 0, .int .i64 0, .int .i64 0, .int .i64 0], .iface 25 (.int .i64 4)]) (by simp [results, Tryz.results69, go_sem, z0, z1, z2, z3, hs]) rfl ⟨rfl, ((((hb0.setCell (Nat.le_refl _) _).setCell (Nat.le_refl _) _).setCell (Nat.le_refl _) _).setCell (Nat.le_refl _) _).alloc (by simp [World.setCell]; omega) _⟩

theorem after_tell (w W X w' : World) (v0 v1 v2 v3 : Int) (n : Nat) (hX : X = (W.alloc (.cells #[.int .i64 v0, .int .i64 v1, .int .i64 v2, .int .i64 v3] 55)).drewN n) (hs : w.heap.size < W.heap.size) (hb0 : Below w.heap.size w W) (h : Below X.heap.size X w')
    (z0 : W.cell? ⟨w.heap.size, 0, none⟩ = some (.int .i64 0)) (n0 : W.frozen? ⟨w.heap.size, 0, none⟩ = false) (z1 : W.cell? ⟨w.heap.size, 1, none⟩ = some (.int .i64 0)) (n1 : W.frozen? ⟨w.heap.size, 1, none⟩ = false)
    (z2 : W.cell? ⟨w.heap.size, 2, none⟩ = some (.int .i64 0)) (n2 : W.frozen? ⟨w.heap.size, 2, none⟩ = false) (z3 : W.cell? ⟨w.heap.size, 3, none⟩ = some (.int .i64 0)) (n3 : W.frozen? ⟨w.heap.size, 3, none⟩ = false) :
    (w'.cell? ⟨w.heap.size, 0, none⟩ = some (.int .i64 0) ∧ w'.frozen? ⟨w.heap.size, 0, none⟩ = false ∧ w'.cell? ⟨w.heap.size, 1, none⟩ = some (.int .i64 0) ∧ w'.frozen? ⟨w.heap.size, 1, none⟩ = false ∧
      w'.cell? ⟨w.heap.size, 2, none⟩ = some (.int .i64 0) ∧ w'.frozen? ⟨w.heap.size, 2, none⟩ = false ∧ w'.cell? ⟨w.heap.size, 3, none⟩ = some (.int .i64 0) ∧ w'.frozen? ⟨w.heap.size, 3, none⟩ = false) ∧
    (w'.cell? ⟨W.heap.size, 0, none⟩ = some (.int .i64 v0) ∧ w'.cell? ⟨W.heap.size, 1, none⟩ = some (.int .i64 v1) ∧ w'.cell? ⟨W.heap.size, 2, none⟩ = some (.int .i64 v2) ∧ w'.cell? ⟨W.heap.size, 3, none⟩ = some (.int .i64 v3)) ∧ Hid (Below w.heap.size w w') := by
  subst hX
  have h2 : Below (W.alloc (.cells #[.int .i64 v0, .int .i64 v1, .int .i64 v2, .int .i64 v3] 55)).heap.size (W.alloc (.cells #[.int .i64 v0, .int .i64 v1, .int .i64 v2, .int .i64 v3] 55)) w' := (below_drewN (Below.refl _ _) n).trans h
  have cc : ∀ k o, k < W.heap.size + 1 → w'.cell? ⟨k, o, none⟩ = (W.alloc (.cells #[.int .i64 v0, .int .i64 v1, .int .i64 v2, .int .i64 v3] 55)).cell? ⟨k, o, none⟩ := fun k o hk => h2.cell (p := ⟨k, o, none⟩) (by simpa using hk)
  have ff : ∀ k o, k < W.heap.size + 1 → w'.frozen? ⟨k, o, none⟩ = (W.alloc (.cells #[.int .i64 v0, .int .i64 v1, .int .i64 v2, .int .i64 v3] 55)).frozen? ⟨k, o, none⟩ := fun k o hk => h2.frozen (p := ⟨k, o, none⟩) (by simpa using hk)
  refine ⟨⟨?_, ?_, ?_, ?_, ?_, ?_, ?_, ?_⟩, ⟨?_, ?_, ?_, ?_⟩, (hb0.alloc (by omega) _).trans (h2.mono (by simp; omega))⟩
  · rw [cc _ _ (by omega), World.cell?_alloc_past _ _ _ hs]; exact z0
  · rw [ff _ _ (by omega), World.frozen?_alloc_old _ _ ⟨w.heap.size, 0, none⟩ (Nat.ne_of_lt hs)]; exact n0
  · rw [cc _ _ (by omega), World.cell?_alloc_past _ _ _ hs]; exact z1
  · rw [ff _ _ (by omega), World.frozen?_alloc_old _ _ ⟨w.heap.size, 1, none⟩ (Nat.ne_of_lt hs)]; exact n1
  · rw [cc _ _ (by omega), World.cell?_alloc_past _ _ _ hs]; exact z2
  · rw [ff _ _ (by omega), World.frozen?_alloc_old _ _ ⟨w.heap.size, 2, none⟩ (Nat.ne_of_lt hs)]; exact n2
  · rw [cc _ _ (by omega), World.cell?_alloc_past _ _ _ hs]; exact z3
  · rw [ff _ _ (by omega), World.frozen?_alloc_old _ _ ⟨w.heap.size, 3, none⟩ (Nat.ne_of_lt hs)]; exact n3
  · rw [cc _ _ (by omega)]; simp
  · rw [cc _ _ (by omega)]; simp
  · rw [cc _ _ (by omega)]; simp
  · rw [cc _ _ (by omega)]; simp

end Go.Proofs.YtafaacliphdndaaGreatDoor
namespace Go.Proofs.YtafaacliphdndaaGreatDoor
open Go.RowKit Go.Shelf

/-- days.Of at a date that is known -/
theorem of_ok' (c day y m d : Int) (w : World) (h1 : 1 ≤ c) (h2 : c ≤ 10) (d1 : -4000000 ≤ day) (d2 : day ≤ 4000000) (hd : Alm.IsDate c day y m d) :
    Calls Tryz.prog 69 #[.int .i64 c, .int .i64 day] w fun e w' => e = .returned (.tuple #[.agg #[.int .i64 c, .int .i64 y, .int .i64 m, .int .i64 d], .nilIface]) ∧ Below w.heap.size w w' := by
  refine (of_ok c day w h1 h2 d1 d2).mono ?_
  rintro e w' ⟨y', m', d', rfl, hd', _, _, hb⟩
  obtain ⟨rfl, rfl, rfl⟩ := hd.unique h1 h2 hd'
  exact ⟨rfl, hb⟩
theorem dnum_date (c y m d : Int) (h : derr c y m d = 0) : Alm.IsDate c (dnum c y m d) y m d := by
  obtain ⟨⟨h1, h2⟩, ⟨y1, y2⟩, ⟨m1, m2⟩, ⟨d1, d2⟩, ⟨n1, n2⟩⟩ := derr_zero c y m d h
  exact ⟨m1, m2, d1, d2, by unfold dnum; omega⟩

end Go.Proofs.YtafaacliphdndaaGreatDoor
namespace Go.Proofs.YtafaacliphdndaaGreatDoor
open Go.RowKit Go.Shelf
set_option linter.unusedVariables false

end Go.Proofs.YtafaacliphdndaaGreatDoor
namespace Go.Proofs.YtafaacliphdndaaGreatDoor
open Go.RowKit Go.Shelf
set_option linter.unusedVariables false

/-- each day that is there has a date -/
theorem date_ex (c day : Int) (w : World) (h1 : 1 ≤ c) (h2 : c ≤ 10) (d1 : -4000000 ≤ day) (d2 : day ≤ 4000000) : ∃ y m d, Alm.IsDate c day y m d ∧ -20000 ≤ y ∧ y ≤ 20000 := by
  obtain ⟨e, w', fr, ⟨y, m, d, _, hd, y1, y2, _⟩, _⟩ := of_ok c day w h1 h2 d1 d2 []
  exact ⟨y, m, d, hd, y1, y2⟩
theorem derr_of_date (c day y m d : Int) (h1 : 1 ≤ c) (h2 : c ≤ 10) (d1 : -4000000 ≤ day) (d2 : day ≤ 4000000) (y1 : -20000 ≤ y) (y2 : y ≤ 20000) (hd : Alm.IsDate c day y m d) : derr c y m d = 0 ∧ dnum c y m d = day := by
  obtain ⟨a1, a2, a3, a4, a5⟩ := hd
  have e : dnum c y m d = day := by unfold dnum; omega
  refine ⟨?_, e⟩
  unfold derr
  rw [e, if_neg (by omega), if_neg (by omega), if_neg (by omega), if_neg (by omega), if_neg (by omega)]
theorem next_same (c day y m d : Int) (hd : Alm.IsDate c day y m d) (h : d < Alm.mlen c y m) : Alm.IsDate c (day + 1) y m (d + 1) := by
  obtain ⟨a1, a2, a3, a4, a5⟩ := hd
  exact ⟨a1, a2, by omega, by omega, by omega⟩
theorem next_month (c day y m d : Int) (hd : Alm.IsDate c day y m d) (h : d = Alm.mlen c y m) (hm : m < Alm.months c y) : Alm.IsDate c (day + 1) y (m + 1) 1 := by
  obtain ⟨a1, a2, a3, a4, a5⟩ := hd
  have b := Alm.mlen_bd c y (m + 1) (by omega) (by omega)
  have e := Alm.cum_succ c y (m - 1).toNat (by omega)
  have e1 : (((m - 1).toNat : Nat) : Int) + 1 = m := by omega
  have e2 : (m + 1 - 1).toNat = (m - 1).toNat + 1 := by omega
  rw [e1] at e
  exact ⟨by omega, by omega, by omega, by omega, by rw [e2, e]; omega⟩
theorem next_year (c day y m d : Int) (h1 : 1 ≤ c) (h2 : c ≤ 10) (hd : Alm.IsDate c day y m d) (h : d = Alm.mlen c y m) (hm : m = Alm.months c y) : Alm.IsDate c (day + 1) (y + 1) 1 1 := by
  obtain ⟨a1, a2, a3, a4, a5⟩ := hd
  have mb := Alm.months_bd c (y + 1)
  have mb' := Alm.months_bd c y
  have b := Alm.mlen_bd c (y + 1) 1 (by omega) (by omega)
  have e := Alm.cum_succ c y (m - 1).toNat (by omega)
  have e1 : (((m - 1).toNat : Nat) : Int) + 1 = m := by omega
  have e2 : (m - 1).toNat + 1 = Alm.months c y := by omega
  rw [e1, e2, Alm.cum_all] at e
  have s := Alm.start_succ c y h1 h2
  refine ⟨by omega, by omega, by omega, by omega, ?_⟩
  simp [Alm.cum]; omega

end Go.Proofs.YtafaacliphdndaaGreatDoor
namespace Go.Proofs.YtafaacliphdndaaGreatDoor
open Go.RowKit Go.Shelf
set_option linter.unusedVariables false

theorem field3 (g0 : Nat) (l0 : Array Value) (g1 : Nat) (l1 : Array Value) (g2 : Nat) (l2 : Array Value) (g3 : Nat) (l3 : Array Value) (W : World) :
    Sem.run Tryz.prog (Instr.field 148 (.agg #[fv g0 l0, fv g1 l1, fv g2 l2, fv g3 l3]) 3) W = .ok (fv g3 l3) W := by
  kernel_rfl

/-- the day with which the weeks of a year begin -/
def fmon (y : Int) : Int := Alm.start 1 y + 3 - (Alm.start 1 y + 3 + 3) % 7
theorem fmon_bd (y : Int) (y1 : -20001 ≤ y) (y2 : y ≤ 20001) : -10000000 ≤ fmon y ∧ fmon y ≤ 10000000 := by
  unfold fmon; simp [Alm.start, Alm.gahead]; omega
set_option maxRecDepth 100000 in
theorem fmon_any (y : Int) (w : World) (y1 : -20001 ≤ y) (y2 : y ≤ 20001) :
    Calls Tryz.prog 178 #[.int .i64 y] w fun e w' => e = .returned (.int .i64 (fmon y)) ∧ Below w.heap.size w w' := by
  have sb := Alm.start_bd 1 y (by omega) (by omega) (by omega) (by omega)
  go_enter Tryz.func178, Tryz.ntmps178
  go_wp2_with fail
  refine (gregorian_any _).mono ?_
  rintro e W ⟨g0, l0, g1, l1, g2, l2, g3, l3, rfl, hc, hb⟩
  have en := hc.start.enters
  have k1 := hc.start.calls _ y (Since.refl _ _) (by omega) (by omega)
  clear hc
  have E := hide (show Alm.start 1 y + 3 - ((Alm.start 1 y + 3 + 3) % 7 + 1) + 1 = fmon y by unfold fmon; omega)
  generalize Alm.start 1 y = st at *
  go_wp2_with (first | (go_at_call 183; refine (weekday_any _ _).mono ?_; rintro e w' ⟨rfl, rfl⟩) | (go_at_fn g3; refine k1.mono ?_; rintro e w' ⟨rfl, q, rfl⟩))
  rw [field3]
  go_wp2_with (first | (go_at_call 183; refine (weekday_any _ _).mono ?_; rintro e w' ⟨rfl, rfl⟩) | (go_at_fn g3; refine k1.mono ?_; rintro e w' ⟨rfl, q, rfl⟩))
  go_ret
  exact ⟨ret_int E.out, below_drewN hb _⟩
end Go.Proofs.YtafaacliphdndaaGreatDoor
namespace Go.Proofs.YtafaacliphdndaaGreatDoor
open Go.RowKit Go.Shelf
set_option linter.unusedVariables false

theorem weeks_ok (y : Int) (w : World) (y1 : -20000 ≤ y) (y2 : y ≤ 20000) :
    Calls Tryz.prog 177 #[.int .i64 y] w fun e w' => e = .returned (.tuple #[.int .i64 ((fmon (y + 1) - fmon y) / 7), .nilIface]) ∧ Below w.heap.size w w' := by
  have fb := fmon_bd y (by omega) (by omega)
  have fb1 := fmon_bd (y + 1) (by omega) (by omega)
  have KF := hide (fun W => fmon_any y W (by omega) (by omega))
  have KG := hide (fun W => fmon_any (y + 1) W (by omega) (by omega))
  generalize fmon (y + 1) = fm1 at *
  generalize fmon y = fm at *
  go_enter Tryz.func177, Tryz.ntmps177
  go_wp2_with (go_at_call 134; refine (checkYear_ok y _ y1 y2).mono ?_; rintro e w' ⟨rfl, rfl⟩)
  refine (KG.out _).mono ?_
  rintro e W ⟨rfl, hb⟩
  go_wp2_with fail
  refine (KF.out _).mono ?_
  rintro e W2 ⟨rfl, hb2⟩
  go_wp2_with (go_at_call 153; refine (floor_any _ _ _ (by omega) (by omega) (by omega) (by omega)).mono ?_; rintro e w' ⟨rfl, rfl⟩)
  go_ret2
  exact ⟨rfl, hb.trans (hb2.mono hb.size)⟩
theorem weeks_no (y : Int) (w : World) (h : y < -20000 ∨ 20000 < y) :
    Calls Tryz.prog 177 #[.int .i64 y] w fun e w' => e = .returned (.tuple #[.int .i64 0, .iface 25 (.int .i64 4)]) ∧ Below w.heap.size w w' := by
  go_enter Tryz.func177, Tryz.ntmps177
  go_wp2_with (go_at_call 134; refine (checkYear_no y _ h).mono ?_; rintro e w' ⟨rfl, rfl⟩)
  go_ret2
  exact ⟨rfl, Below.refl _ _⟩
/-- what is wrong with a week and a weekday -/
def werr (y n d : Int) : Int := if y < -20000 ∨ 20000 < y then 4 else if n < 1 ∨ (fmon (y + 1) - fmon y) / 7 < n ∨ d < 1 ∨ 7 < d then 3 else if fmon y + 7 * (n - 1) + d - 1 < -4000000 ∨ 4000000 < fmon y + 7 * (n - 1) + d - 1 then 4 else 0
set_option maxHeartbeats 1000000 in
theorem ofWeek_ok (y n d : Int) (w : World) (h : werr y n d = 0) :
    Calls Tryz.prog 145 #[.int .i64 y, .int .i64 n, .int .i64 d] w fun e w' => e = .returned (.tuple #[.int .i64 (fmon y + 7 * (n - 1) + d - 1), .nilIface]) ∧ Below w.heap.size w w' := by
  unfold werr at h
  split at h <;> try omega
  split at h <;> try omega
  split at h <;> try omega
  rename_i h1 h2 h3
  clear h
  have y1 : -20000 ≤ y := by omega
  have y2 : y ≤ 20000 := by omega
  have fb := fmon_bd y (by omega) (by omega)
  have fb1 := fmon_bd (y + 1) (by omega) (by omega)
  have KW := hide (fun W => weeks_ok y W (by omega) (by omega))
  have KF := hide (fun W => fmon_any y W (by omega) (by omega))
  generalize (fmon (y + 1) - fmon y) / 7 = k at *
  generalize fmon y = fm at *
  have n1 : 1 ≤ n := by omega
  have n2 : n ≤ k := by omega
  have e1 : 1 ≤ d := by omega
  have e2 : d ≤ 7 := by omega
  have t1 : -4000000 ≤ fm + 7 * (n - 1) + d - 1 := by omega
  have t2 : fm + 7 * (n - 1) + d - 1 ≤ 4000000 := by omega
  clear h1 h2 h3
  go_enter Tryz.func145, Tryz.ntmps145
  go_wp2_with fail
  refine (KW.out _).mono ?_
  rintro e W ⟨rfl, hb⟩
  go_wp2_with fail
  refine (KF.out _).mono ?_
  rintro e W2 ⟨rfl, hb2⟩
  go_wp2_with (go_at_call 99; refine (ifThere_ok _ _ t1 t2).mono ?_; rintro e w' ⟨rfl, rfl⟩)
  go_ret2
  exact ⟨rfl, hb.trans (hb2.mono hb.size)⟩
end Go.Proofs.YtafaacliphdndaaGreatDoor
namespace Go.Proofs.YtafaacliphdndaaGreatDoor
open Go.RowKit Go.Shelf
set_option linter.unusedVariables false

/-! ### the mathematics of weeks -/
theorem start1_succ (Y : Int) : Alm.start 1 (Y + 1) = Alm.start 1 Y + 365 ∨ Alm.start 1 (Y + 1) = Alm.start 1 Y + 366 := by
  have h := Alm.start_succ 1 Y (by omega) (by omega)
  have l := Alm.l01_bd 1 Y
  rw [h]; unfold Alm.ylen Alm.base; simp; omega
theorem week_math (day Y : Int) (hy : yr 1 (day - ((day + 3) % 7 + 1) + 4) Y) :
    fmon Y + 7 * ((day - fmon Y) / 7 + 1 - 1) + ((day + 3) % 7 + 1) - 1 = day ∧ 1 ≤ (day - fmon Y) / 7 + 1 ∧ (day - fmon Y) / 7 + 1 ≤ (fmon (Y + 1) - fmon Y) / 7 ∧ ((fmon (Y + 1) - fmon Y) / 7 = 52 ∨ (fmon (Y + 1) - fmon Y) / 7 = 53) := by
  obtain ⟨a, b⟩ := hy
  have s := start1_succ Y
  unfold fmon
  generalize Alm.start 1 (Y + 1) = s1 at *
  generalize Alm.start 1 Y = s0 at *
  refine ⟨?_, ?_, ?_, ?_⟩ <;> omega
theorem week_next (day Y Z : Int) (hy : yr 1 (day - ((day + 3) % 7 + 1) + 4) Y) (hz : yr 1 (day + 7 - ((day + 7 + 3) % 7 + 1) + 4) Z) :
    (Z = Y ∧ (day + 7 - fmon Z) / 7 + 1 = (day - fmon Y) / 7 + 1 + 1) ∨ (Z = Y + 1 ∧ (day + 7 - fmon Z) / 7 + 1 = 1 ∧ (day - fmon Y) / 7 + 1 = (fmon (Y + 1) - fmon Y) / 7) := by
  have s := start1_succ Y
  have e : (day + 7 + 3) % 7 = (day + 3) % 7 := by omega
  rw [e] at hz
  by_cases h : day + 7 - ((day + 3) % 7 + 1) + 4 < Alm.start 1 (Y + 1)
  · have : Z = Y := Alm.year_unique 1 _ _ _ (by omega) (by omega) hz.1 hz.2 (by have := hy.1; omega) h
    subst this
    left; exact ⟨rfl, by omega⟩
  · have s2 := start1_succ (Y + 1)
    have : Z = Y + 1 := Alm.year_unique 1 _ _ _ (by omega) (by omega) hz.1 hz.2 (by omega) (by have := hy.2; omega)
    subst this
    right
    refine ⟨rfl, ?_⟩
    obtain ⟨a, b⟩ := hy
    clear hz e s2
    unfold fmon
    generalize Alm.start 1 (Y + 1) = s1 at *
    generalize Alm.start 1 Y = s0 at *
    constructor <;> omega
end Go.Proofs.YtafaacliphdndaaGreatDoor
