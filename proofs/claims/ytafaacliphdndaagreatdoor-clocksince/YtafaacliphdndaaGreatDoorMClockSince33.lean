/- ClockAdds: what comes a period behind. -/
import Derived.Test.YtafaacliphdndaaGreatDoorMClockSince29
import Derived.Test.YtafaacliphdndaaGreatDoorMClockSince30
import Derived.Test.YtafaacliphdndaaGreatDoorMClockSince31
import Derived.Test.YtafaacliphdndaaGreatDoorMClockSince32
namespace Go.Proofs.YtafaacliphdndaaGreatDoor
open Go.RowKit Go.Shelf
set_option linter.unusedVariables false
set_option linter.unusedSimpArgs false

/-- what a day, so many months on, leads to -/
def Ends (t v N D S V E : Int) : Prop := ((v + 7 * N + D < -4000000 ∨ 4000000 < v + 7 * N + D) ∧ V = 0 ∧ E = 4) ∨ ((-4000000 ≤ v + 7 * N + D ∧ v + 7 * N + D ≤ 4000000) ∧ ((((v + 7 * N + D) * 86400 + t % 86400 + S < -345600000000 ∨ 345600086399 < (v + 7 * N + D) * 86400 + t % 86400 + S) ∧ V = 0 ∧ E = 4) ∨ ((-345600000000 ≤ (v + 7 * N + D) * 86400 + t % 86400 + S ∧ (v + 7 * N + D) * 86400 + t % 86400 + S ≤ 345600086399) ∧ V = (v + 7 * N + D) * 86400 + t % 86400 + S ∧ E = 0)))
theorem ends_ex (t v N D S : Int) : ∃ V E, Ends t v N D S V E := by
  by_cases h1 : v + 7 * N + D < -4000000 ∨ 4000000 < v + 7 * N + D
  · exact ⟨0, 4, .inl ⟨h1, rfl, rfl⟩⟩
  · by_cases h2 : (v + 7 * N + D) * 86400 + t % 86400 + S < -345600000000 ∨ 345600086399 < (v + 7 * N + D) * 86400 + t % 86400 + S
    · exact ⟨0, 4, .inr ⟨by omega, .inl ⟨h2, rfl, rfl⟩⟩⟩
    · exact ⟨_, 0, .inr ⟨by omega, .inr ⟨by omega, rfl, rfl⟩⟩⟩
theorem radd_val (t y mo d Y M N D S V E : Int) (w : World) (t1 : -345600000000 ≤ t) (t2 : t ≤ 345600086399) (hp : Small Y M N D S) (y1 : -20000 ≤ y) (y2 : y ≤ 20000) (hD : Alm.IsDate 1 (t / 86400) y mo d) (n : Int) (hn : n = 12 * Y + M)
    (h : (¬ Leads (12 * y + (mo - 1)) d n ∧ V = 0 ∧ E = 4) ∨ (Leads (12 * y + (mo - 1)) d n ∧ Ends t (Alm.amon (12 * y + (mo - 1)) d n) N D S V E)) :
    Calls Tryz.prog 8 #[.int .i64 t, .agg #[.int .i64 Y, .int .i64 M, .int .i64 N, .int .i64 D, .int .i64 S]] w fun e w' => e = .returned (.tuple #[.int .i64 V, .int .i64 E]) ∧ Below w.heap.size w w' := by
  obtain ⟨i1, i2, i3, i4, i5⟩ := hD.idx
  have m1 := hD.m1
  have m2 : mo ≤ 12 := by have := hD.m2; have := Alm.months_g y; omega
  have kg := fun W => rgreg_any (t / 86400) y mo d W (by omega) (by omega) y1 y2 hD
  generalize hi : 12 * y + (mo - 1) = i at *
  by_cases h0 : Y = 0 ∧ M = 0
  · obtain ⟨rfl, rfl⟩ := h0
    have e0 : n = 0 := by omega
    subst e0
    have ea := Alm.amon_zero i d i2 i3
    have hL : Leads i d 0 := ⟨by rw [Int.add_zero, i4]; omega, by rw [ea]; omega⟩
    rcases h with ⟨hn, _⟩ | ⟨_, he⟩
    · exact absurd hL hn
    · exact radd_same t N D S _ V E w t1 t2 hp (by rw [ea]; omega) he
  · have hYM : Y ≠ 0 ∨ M ≠ 0 := by omega
    have hJ : i + n = y * 12 + mo - 1 + 12 * Y + M := by omega
    by_cases hy : -20000 ≤ (i + n) / 12 ∧ (i + n) / 12 ≤ 20000
    · have ky := fun W => year_any 1 ((i + n) / 12) W
      rw [yerr_zero 1 _ (by omega) (by omega) hy.1 hy.2] at ky
      obtain ⟨m', hm'⟩ : ∃ m' : Nat, (i + n) % 12 = (m' : Int) := ⟨((i + n) % 12).toNat, by omega⟩
      have hl : Alm.mlen 1 ((i + n) / 12) (m' + 1) = Alm.glen (i + n) := by unfold Alm.glen; rw [hm']
      have gb := Alm.glen_bd (i + n)
      have hdn := amon_dnum (i + n) (min d (Alm.glen (i + n)))
      have ha : Alm.gst (i + n) + min d (Alm.glen (i + n)) - 1 = Alm.amon i d n := rfl
      rw [ha, hm'] at hdn
      have hmj := Alm.months_g ((i + n) / 12)
      have key : ∃ v k : Int, (∀ W, Calls Tryz.prog 29 #[.agg #[.int .i64 1, .int .i64 ((i + n) / 12), .int .i64 (m' + 1), .int .i64 (min d (Alm.glen (i + n)))]] W fun r w' => r = .returned (.tuple #[.int .i64 v, .int .i64 k]) ∧ Below W.heap.size W w') ∧ (k ≠ 0 ∧ V = 0 ∧ E = k ∨ k = 0 ∧ -4000000 ≤ v ∧ v ≤ 4000000 ∧ Ends t v N D S V E) := by
        rcases h with ⟨hL, rfl, rfl⟩ | ⟨hL, he⟩
        · have hL2 : Alm.amon i d n < -4000000 ∨ 4000000 < Alm.amon i d n := by unfold Leads at hL; omega
          have hd4 : derr 1 ((i + n) / 12) (m' + 1) (min d (Alm.glen (i + n))) = 4 := by
            unfold derr
            rw [hdn, if_neg (by omega), if_neg (by omega), if_neg (by omega), if_neg (by rw [hl]; omega), if_pos (by omega)]
          have k := fun W => rday_no 1 ((i + n) / 12) (m' + 1) (min d (Alm.glen (i + n))) W (by omega)
          rw [hd4] at k
          exact ⟨0, 4, k, .inl ⟨by omega, rfl, rfl⟩⟩
        · have hl2 := hL.2
          have hd0 : derr 1 ((i + n) / 12) (m' + 1) (min d (Alm.glen (i + n))) = 0 := by
            unfold derr
            rw [hdn, if_neg (by omega), if_neg (by omega), if_neg (by omega), if_neg (by rw [hl]; omega), if_neg (by omega)]
          have k := fun W => rday_ok 1 ((i + n) / 12) (m' + 1) (min d (Alm.glen (i + n))) W hd0
          rw [hdn] at k
          exact ⟨_, 0, k, .inr ⟨rfl, hl2.1, hl2.2, he⟩⟩
      obtain ⟨v, k, kd, hk⟩ := key
      by_cases hY : Y = 0
      · have hM : M ≠ 0 := by omega
        by_cases hdl : d ≤ Alm.glen (i + n)
        · exact radd_moved3 t y mo d Y M N D S v V E _ k m' w t1 t2 hp (by simp [hY]) (by simpa using hM) hdl y1 y2 m1 m2 (i + n) hJ kg ky hm' hy.1 hy.2 hl kd hk
        · exact radd_moved4 t y mo d Y M N D S v V E _ k m' w t1 t2 hp (by simp [hY]) (by simpa using hM) hdl y1 y2 m1 m2 (i + n) hJ kg ky hm' hy.1 hy.2 hl kd hk
      · by_cases hdl : d ≤ Alm.glen (i + n)
        · exact radd_moved1 t y mo d Y M N D S v V E _ k m' w t1 t2 hp (by simpa using hY) hdl y1 y2 m1 m2 (i + n) hJ kg ky hm' hy.1 hy.2 hl kd hk
        · exact radd_moved2 t y mo d Y M N D S v V E _ k m' w t1 t2 hp (by simpa using hY) hdl y1 y2 m1 m2 (i + n) hJ kg ky hm' hy.1 hy.2 hl kd hk
    · have ky := fun W => year_any 1 ((i + n) / 12) W
      rw [show yerr 1 ((i + n) / 12) = 4 from by unfold yerr; rw [if_neg (by omega), if_pos (by omega)]] at ky
      rcases h with ⟨_, rfl, rfl⟩ | ⟨hL, _⟩
      · exact radd_far t y mo d Y M N D S w t1 t2 hp hYM y1 y2 m1 m2 (i + n) hJ kg ky
      · exact absurd hL.1 hy
set_option maxHeartbeats 1600000 in
theorem cadds_steps (t Y M N D S V E : Int) (w : World) (hd : Hd w)
    (k1 : ∀ W, Hd W → Calls Tryz.prog 7 #[.int .i64 t, .agg #[.int .i64 Y, .int .i64 M, .int .i64 N, .int .i64 D, .int .i64 S]] W fun r w' => r = .returned (.tuple #[.int .i64 V, .int .i64 E]) ∧ Below W.heap.size W w')
    (k2 : ∀ W, Calls Tryz.prog 8 #[.int .i64 t, .agg #[.int .i64 Y, .int .i64 M, .int .i64 N, .int .i64 D, .int .i64 S]] W fun r w' => r = .returned (.tuple #[.int .i64 V, .int .i64 E]) ∧ Below W.heap.size W w') :
    Calls Tryz.prog 3 #[.int .i64 t, .agg #[.int .i64 Y, .int .i64 M, .int .i64 N, .int .i64 D, .int .i64 S]] w fun r w' => r = .returned (.bool true) ∧ Below w.heap.size w w' := by
  have hB0 : Below w.heap.size w (w.alloc (.cells #[.int .i64 Y, .int .i64 M, .int .i64 N, .int .i64 D, .int .i64 S] 24)) := (Below.refl _ w).alloc (Nat.le_refl _) _
  have K1 := hide (k1 _ (hd.later hB0))
  have K2 := hide k2
  clear k1 k2
  go_enter Tryz.func3, Tryz.ntmps3
  go_wp2_with fail
  refine K1.out.mono ?_
  rintro r W ⟨rfl, hb⟩
  obtain ⟨⟨a0, a1, a2, a3, a4⟩, fz, hs⟩ := box5 w W _ _ _ _ _ _ hb
  have hB := hB0.trans (hb.mono (by simp))
  clear hb fz hB0 K1
  go_wp2_with fail
  refine (K2.out _).mono ?_
  rintro r W2 ⟨rfl, hb2⟩
  clear K2 a0 a1 a2 a3 a4
  go_wp2
  go_ret
  exact ⟨rfl, hB.trans (hb2.mono hB.size)⟩
/-- what the program's Add answers, in letters -/
theorem padd_val (t y mo d Y M N D S V E : Int) (w : World) (hd : Hd w) (t1 : -345600000000 ≤ t) (t2 : t ≤ 345600086399) (hp : Small Y M N D S) (y1 : -20000 ≤ y) (y2 : y ≤ 20000) (hD : Alm.IsDate 1 (t / 86400) y mo d) (n : Int) (hn : n = 12 * Y + M)
    (h : (¬ Leads (12 * y + (mo - 1)) d n ∧ V = 0 ∧ E = 4) ∨ (Leads (12 * y + (mo - 1)) d n ∧ Ends t (Alm.amon (12 * y + (mo - 1)) d n) N D S V E)) :
    Calls Tryz.prog 7 #[.int .i64 t, .agg #[.int .i64 Y, .int .i64 M, .int .i64 N, .int .i64 D, .int .i64 S]] w fun e w' => e = .returned (.tuple #[.int .i64 V, .int .i64 E]) ∧ Below w.heap.size w w' := by
  have k := fun W => add_val t y mo d Y M N D S W t1 t2 y1 y2 hD hp n hn
  rcases h with ⟨hL, rfl, rfl⟩ | ⟨hL, he⟩
  · exact padd_no t Y M N D S 4 w hd (fun W => (k W).2 (fun x => hL x.1))
  · rcases he with ⟨hr, rfl, rfl⟩ | ⟨hr, ⟨ho, rfl, rfl⟩ | ⟨ho, hv, rfl⟩⟩
    · exact padd_no t Y M N D S 4 w hd (fun W => (k W).2 (fun x => by have := x.2; omega))
    · have k1 := fun W => (k W).1 ⟨hL, hr⟩
      rw [tval_no _ (by omega)] at k1
      exact padd_no t Y M N D S 4 w hd k1
    · have k1 := fun W => (k W).1 ⟨hL, hr⟩
      rw [tval_ok _ (by omega) (by omega)] at k1
      have e : (Alm.amon (12 * y + (mo - 1)) d n + 7 * N + D) * 86400 + (t % 86400 + S) = V := by omega
      rw [e] at k1
      exact padd_ok t Y M N D S V w k1
theorem cadds_walk (t Y M N D S : Int) (w : World) (hd : Hd w) (b1 : -9223372036854775808 ≤ t) (b2 : t < 9223372036854775808) :
    Calls Tryz.prog 3 #[.int .i64 t, .agg #[.int .i64 Y, .int .i64 M, .int .i64 N, .int .i64 D, .int .i64 S]] w fun r w' => r = .returned (.bool true) ∧ Below w.heap.size w w' := by
  by_cases hp : Small Y M N D S
  · by_cases ht : t < -345600000000 ∨ 345600086399 < t
    · exact cadds_steps t Y M N D S 0 4 w hd (fun W hW => padd_no t Y M N D S 4 W hW (fun W' => add_late t Y M N D S W' ht hp)) (fun W => radd_late t Y M N D S W b1 b2 ht hp)
    · obtain ⟨y, mo, d, hD, y1, y2⟩ := date_ex1 (t / 86400) w (by omega) (by omega)
      have hx : ∃ V E, (¬ Leads (12 * y + (mo - 1)) d (12 * Y + M) ∧ V = 0 ∧ E = 4) ∨ (Leads (12 * y + (mo - 1)) d (12 * Y + M) ∧ Ends t (Alm.amon (12 * y + (mo - 1)) d (12 * Y + M)) N D S V E) := by
        by_cases hL : Leads (12 * y + (mo - 1)) d (12 * Y + M)
        · obtain ⟨V, E, he⟩ := ends_ex t (Alm.amon (12 * y + (mo - 1)) d (12 * Y + M)) N D S
          exact ⟨V, E, .inr ⟨hL, he⟩⟩
        · exact ⟨0, 4, .inl ⟨hL, rfl, rfl⟩⟩
      obtain ⟨V, E, h⟩ := hx
      exact cadds_steps t Y M N D S V E w hd (fun W hW => padd_val t y mo d Y M N D S V E W hW (by omega) (by omega) hp y1 y2 hD _ rfl h) (fun W => radd_val t y mo d Y M N D S V E W (by omega) (by omega) hp y1 y2 hD _ rfl h)
  · exact cadds_steps t Y M N D S 0 4 w hd (fun W hW => padd_no t Y M N D S 4 W hW (fun W' => add_great t Y M N D S W' hp)) (fun W => radd_great t Y M N D S W b1 b2 hp)
end Go.Proofs.YtafaacliphdndaaGreatDoor
