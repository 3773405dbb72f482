/- The reference: the date of a day. -/
import Derived.Test.YtafaacliphdndaaGreatDoorMClockBack26
import Derived.Test.YtafaacliphdndaaGreatDoorMClockBack27
namespace Go.Proofs.YtafaacliphdndaaGreatDoor
open Go.RowKit Go.Shelf
set_option linter.unusedVariables false
set_option linter.unusedSimpArgs false

/-- the reference's first guess of a year -/
def guess (c day : Int) : Int := if day < Alm.first c then (day - Alm.first c) / 354 - 2 else (day - Alm.first c) / 366
theorem first_bd (c : Int) : -2092590 ≤ Alm.first c ∧ Alm.first c ≤ -64748 := by unfold Alm.first; (repeat' split) <;> omega
theorem guess_bd (c day : Int) (d1 : -4000000 ≤ day) (d2 : day ≤ 4000000) : -12000 ≤ guess c day ∧ guess c day ≤ 17000 := by
  have := first_bd c
  unfold guess; split <;> omega
theorem guess_start (c day : Int) (h1 : 1 ≤ c) (h2 : c ≤ 10) (d1 : -4000000 ≤ day) (d2 : day ≤ 4000000) : Alm.start c (guess c day) ≤ day := by
  unfold guess
  split
  · have := Alm.guess_lo c ((day - Alm.first c) / 354 - 2) h1 h2 (by omega); omega
  · have := Alm.guess_hi c ((day - Alm.first c) / 366) h1 h2 (by omega); omega

theorem le_of_start (c day Y z : Int) (h1 : 1 ≤ c) (h2 : c ≤ 10) (h : yr c day Y) (hz : Alm.start c z ≤ day) : z ≤ Y := by
  rcases Int.lt_or_le Y z with hl | hl
  · have := (yr_start c day Y z h1 h2 h).2 hl; omega
  · exact hl
set_option maxRecDepth 100000 in
set_option maxHeartbeats 3200000 in
theorem rof_ok (c day Y M D : Int) (w : World) (h1 : 1 ≤ c) (h2 : c ≤ 10) (d1 : -4000000 ≤ day) (d2 : day ≤ 4000000) (y1 : -20000 ≤ Y) (y2 : Y ≤ 20000) (hD : Alm.IsDate c day Y M D) :
    Calls Tryz.prog 48 #[.int .i64 c, .int .i64 day] w fun r w' => r = .returned (.tuple #[.agg #[.int .i64 c, .int .i64 Y, .int .i64 M, .int .i64 D], .int .i64 0]) ∧ Below w.heap.size w w' := by
  have hyr : yr c day Y := hD.year h1 h2
  have gb := guess_bd c day d1 d2
  have gs := guess_start c day h1 h2 d1 d2
  have hg := hide (show guess c day = if day < Alm.first c then (day - Alm.first c) / 354 - 2 else (day - Alm.first c) / 366 from rfl)
  have KF := hide (fun W => first_any c W h1 h2)
  have fb := first_bd c
  have KC := hide (fun W => calOK_yes c W h1 h2)
  have KT := hide (fun W => there_ok day W d1 d2)
  generalize guess c day = G at *
  generalize Alm.first c = f at *
  have HD := hide hD
  have HY := hide hyr
  clear hD hyr
  go_enter Tryz.func48, Tryz.ntmps48
  go_wp2_with fail
  refine (KC.out _).mono ?_
  rintro r w' ⟨rfl, rfl⟩
  go_wp2_with fail
  refine (KT.out _).mono ?_
  rintro r w' ⟨rfl, rfl⟩
  by_cases hlt : day < f
  · have eG := hide (show (day - f) / 354 - 2 = G by rw [hg.out, if_pos hlt])
    clear hg
    go_wp2_with fail
    refine (KF.out _).mono ?_
    rintro r W1 ⟨rfl, hb1⟩
    have hB1 := hb1
    go_wp2_with (go_at_call 25; refine (rfloor_any _ _ _ (by omega) (by omega) (by omega) (by omega)).mono ?_; rintro e w' ⟨rfl, rfl⟩)
    refine (KF.out _).mono ?_
    rintro r W2 ⟨rfl, hb2⟩
    have hB2 := hB1.trans (hb2.mono hB1.size)
    go_wp2_with fail
    refine (KF.out _).mono ?_
    rintro r W3 ⟨rfl, hb3⟩
    have hB3 := hB2.trans (hb3.mono hB2.size)
    clear hb1 hb2 hb3 hB1 hB2 KF
    go_wp2_with (go_at_call 25; refine (rfloor_any _ _ _ (by omega) (by omega) (by omega) (by omega)).mono ?_; rintro e w' ⟨rfl, rfl⟩)
    rw [eG.out]
    clear eG
    refine (ystart_any c G _ h1 h2 (by omega) (by omega)).mono ?_
    rintro r W4 ⟨rfl, hb4⟩
    have hB4 := hB3.trans (hb4.mono hB3.size)
    clear hb4 hB3
    go_wp2_with fail
    go_loopw [8, 9] (fun yv av wr => ∃ y : Int, G ≤ y ∧ y ≤ Y ∧ Alm.start c y ≤ day ∧ yv = .int .i64 y ∧ av = .int .i64 (Alm.start c y) ∧ Hid (Below (w.alloc (.cells #[.int .i64 0, .int .i64 0, .int .i64 0, .int .i64 0] 55)).heap.size (w.alloc (.cells #[.int .i64 0, .int .i64 0, .int .i64 0, .int .i64 0] 55)) wr)) (fun yv _ _ => (30000 - intOf yv).toNat)
    case atStart => exact ⟨G, by omega, le_of_start c day Y G h1 h2 HY.out gs, gs, rfl, rfl, hide hB4⟩
    case round =>
      obtain ⟨y, ya, yb, yc, rfl, rfl, hbb⟩ := hrel
      have sb := Alm.start_bd c y h1 h2 (by omega) (by omega)
      have lb := Alm.ylen_bd c y
      have hs := Alm.start_succ c y h1 h2
      have KD := hide (fun W => ydays_any c y W h1 h2 (by omega) (by omega))
      by_cases hl2 : Alm.start c (y + 1) ≤ day
      · have hy2 := le_of_start c day Y (y + 1) h1 h2 HY.out hl2
        have HE := hide hs
        have hc2 := hide hl2
        rw [hs] at hl2
        clear hs
        generalize Alm.ylen c y = L at *
        generalize Alm.start c y = st at *
        go_wp2_with fail
        refine (KD.out _).mono ?_
        rintro r W5 ⟨rfl, hb5⟩
        go_wp2_with fail
        refine (KD.out _).mono ?_
        rintro r W6 ⟨rfl, hb6⟩
        have hB6 := hide ((hbb.out.trans (hb5.mono hbb.out.size)).trans (hb6.mono (Nat.le_trans hbb.out.size hb5.size)))
        clear hb5 hb6 hbb KD
        go_wp2
        go_roundw
        case rel => exact ⟨y + 1, by omega, hy2, hc2.out, rfl, by rw [HE.out], hB6⟩
        case measure => simp [intOf]; omega
      · have ey : y = Y := Alm.year_unique c day y Y h1 h2 yc (by omega) HY.out.1 HY.out.2
        subst ey
        rw [hs] at hl2
        clear hs
        have hl3 : ¬ (Alm.start c y + Alm.ylen c y ≤ day) := hl2
        clear hl2
        generalize hL : Alm.ylen c y = L at *
        clear hL
        have KM := hide (fun W => lens_any c y W h1 h2 (by omega) (by omega))
        have mb := HD.out.m2
        have mb1 := HD.out.m1
        have db1 := HD.out.d1
        have db2 := HD.out.d2
        have de := HD.out.eq
        generalize hst : Alm.start c y = st at *
        have Hst := hide hst
        clear hst
        have DE := hide de
        clear de
        go_wp2_with fail
        refine (KD.out _).mono ?_
        rintro r W5 ⟨rfl, hb5⟩
        have hB5 := hbb.out.trans (hb5.mono hbb.out.size)
        clear hb5 hbb KD
        go_wp2_with fail
        refine (KM.out _).mono ?_
        rintro r W6 ⟨b, cap, rfl, hR, hc1, hc2, hbk, hb6⟩
        have hB6 := hB5.trans (hb6.mono hB5.size)
        clear hb6 hB5 KM
        have hcell : ∀ k, k < (Alm.lens c y).length → W6.cell? ⟨b, k, none⟩ = some (.int .i64 (Alm.mlen c y (k + 1))) := fun k hk => by rw [hR k hk, mlen_get c y k hk]
        have hmo := Alm.months_bd c y
        have hcs := fun k hk => Alm.cum_succ c y k hk
        have hcb := fun k hk => Alm.cum_bd c y k hk
        have hml := fun k hk1 hk2 => Alm.mlen_bd c y k hk1 hk2
        have hcm := hide (fun a b hab hb => Alm.cum_mono c y a b hab hb)
        have em : Alm.months c y = (Alm.lens c y).length := rfl
        rw [em] at hmo hcs hcb hml mb hcm
        clear hR em
        generalize (Alm.lens c y).length = n at *
        have HC := hide hcell
        have HS := hide hcs
        have hw : 0 < W6.heap.size := by have := hB6.size; simp at this; omega
        obtain ⟨⟨z0, n0⟩, ⟨z1, n1⟩, ⟨z2, n2⟩, ⟨z3, n3⟩⟩ := slotD w W6 hB6
        have hBf : Below w.heap.size w W6 := ((Below.refl _ w).alloc (Nat.le_refl _) _).trans (hB6.mono (by simp))
        clear hcell hcs hB6
        unfold maxLen at hc2
        go_wp2_with fail
        go_loop [9, 11] (fun av mv => ∃ k : Nat, (k : Int) + 1 ≤ M ∧ mv = .int .i64 k ∧ av = .int .i64 (st + Alm.cum c y k)) (fun _ mv => (13 - intOf mv).toNat)
        case atStart => exact ⟨0, by omega, rfl, by simp [Alm.cum]⟩
        case round =>
          obtain ⟨k, hk, rfl, rfl⟩ := hrel
          have b1 := hcb k (by omega)
          have hk1 := HC.out k (by omega)
          have b2 := hml (k + 1) (by omega) (by omega)
          have HE := HS.out k (by omega)
          have hkn : (k : Int) < n := by omega
          by_cases hlt3 : (k : Int) + 1 < M
          · have hle : st + Alm.cum c y (k + 1) ≤ day := by
              have := hcm.out (k + 1) (M - 1).toNat (by omega) (by omega)
              have := DE.out; omega
            rw [HE] at hle
            have HE' := hide HE
            clear hcb hml HE mb db2
            generalize Alm.mlen c y (k + 1) = mm at *
            generalize Alm.cum c y k = cu at *
            go_wp2
            go_round
            case rel => exact ⟨k + 1, by omega, by simp, by rw [HE'.out, Int.add_assoc]⟩
            case measure => simp [intOf]; omega
          · obtain rfl : M = (k : Int) + 1 := by omega
            have ek : ((k : Int) + 1 - 1).toNat = k := by omega
            have de := DE.out
            rw [ek] at de
            have hgt : ¬ (st + (Alm.cum c y k + Alm.mlen c y (k + 1)) ≤ day) := by omega
            have hgt' : ¬ (st + Alm.cum c y k + Alm.mlen c y (k + 1) ≤ day) := by omega
            have hD1 := hide (show day - (st + Alm.cum c y k) + 1 = D by omega)
            clear hcb hml HE mb ek DE de db2 hgt
            generalize Alm.mlen c y (k + 1) = mm at *
            generalize Alm.cum c y k = cu at *
            go_wp2
            refine bodyPost_ret (v := .tuple #[.agg #[.int .i64 c, .int .i64 y, .int .i64 (k + 1), .int .i64 D], .int .i64 0]) (by simp [results, Tryz.results48, go_sem, z0, z1, z2, z3, hD1.out]) rfl ⟨rfl, ?_⟩
            exact (((hBf.setCell (Nat.le_refl _) _).setCell (Nat.le_refl _) _).setCell (Nat.le_refl _) _).setCell (Nat.le_refl _) _
  · have eG := hide (show (day - f) / 366 = G by rw [hg.out, if_neg hlt])
    clear hg
    go_wp2_with fail
    refine (KF.out _).mono ?_
    rintro r W1 ⟨rfl, hb1⟩
    have hB1 := hb1
    go_wp2_with (go_at_call 25; refine (rfloor_any _ _ _ (by omega) (by omega) (by omega) (by omega)).mono ?_; rintro e w' ⟨rfl, rfl⟩)
    refine (KF.out _).mono ?_
    rintro r W3 ⟨rfl, hb2⟩
    have hB3 := hB1.trans (hb2.mono hB1.size)
    clear hb1 hb2 hB1 KF
    go_wp2_with fail
    rw [eG.out]
    clear eG
    refine (ystart_any c G _ h1 h2 (by omega) (by omega)).mono ?_
    rintro r W4 ⟨rfl, hb4⟩
    have hB4 := hB3.trans (hb4.mono hB3.size)
    clear hb4 hB3
    go_wp2_with fail
    go_loopw [8, 9] (fun yv av wr => ∃ y : Int, G ≤ y ∧ y ≤ Y ∧ Alm.start c y ≤ day ∧ yv = .int .i64 y ∧ av = .int .i64 (Alm.start c y) ∧ Hid (Below (w.alloc (.cells #[.int .i64 0, .int .i64 0, .int .i64 0, .int .i64 0] 55)).heap.size (w.alloc (.cells #[.int .i64 0, .int .i64 0, .int .i64 0, .int .i64 0] 55)) wr)) (fun yv _ _ => (30000 - intOf yv).toNat)
    case atStart => exact ⟨G, by omega, le_of_start c day Y G h1 h2 HY.out gs, gs, rfl, rfl, hide hB4⟩
    case round =>
      obtain ⟨y, ya, yb, yc, rfl, rfl, hbb⟩ := hrel
      have sb := Alm.start_bd c y h1 h2 (by omega) (by omega)
      have lb := Alm.ylen_bd c y
      have hs := Alm.start_succ c y h1 h2
      have KD := hide (fun W => ydays_any c y W h1 h2 (by omega) (by omega))
      by_cases hl2 : Alm.start c (y + 1) ≤ day
      · have hy2 := le_of_start c day Y (y + 1) h1 h2 HY.out hl2
        have HE := hide hs
        have hc2 := hide hl2
        rw [hs] at hl2
        clear hs
        generalize Alm.ylen c y = L at *
        generalize Alm.start c y = st at *
        go_wp2_with fail
        refine (KD.out _).mono ?_
        rintro r W5 ⟨rfl, hb5⟩
        go_wp2_with fail
        refine (KD.out _).mono ?_
        rintro r W6 ⟨rfl, hb6⟩
        have hB6 := hide ((hbb.out.trans (hb5.mono hbb.out.size)).trans (hb6.mono (Nat.le_trans hbb.out.size hb5.size)))
        clear hb5 hb6 hbb KD
        go_wp2
        go_roundw
        case rel => exact ⟨y + 1, by omega, hy2, hc2.out, rfl, by rw [HE.out], hB6⟩
        case measure => simp [intOf]; omega
      · have ey : y = Y := Alm.year_unique c day y Y h1 h2 yc (by omega) HY.out.1 HY.out.2
        subst ey
        rw [hs] at hl2
        clear hs
        have hl3 : ¬ (Alm.start c y + Alm.ylen c y ≤ day) := hl2
        clear hl2
        generalize hL : Alm.ylen c y = L at *
        clear hL
        have KM := hide (fun W => lens_any c y W h1 h2 (by omega) (by omega))
        have mb := HD.out.m2
        have mb1 := HD.out.m1
        have db1 := HD.out.d1
        have db2 := HD.out.d2
        have de := HD.out.eq
        generalize hst : Alm.start c y = st at *
        have Hst := hide hst
        clear hst
        have DE := hide de
        clear de
        go_wp2_with fail
        refine (KD.out _).mono ?_
        rintro r W5 ⟨rfl, hb5⟩
        have hB5 := hbb.out.trans (hb5.mono hbb.out.size)
        clear hb5 hbb KD
        go_wp2_with fail
        refine (KM.out _).mono ?_
        rintro r W6 ⟨b, cap, rfl, hR, hc1, hc2, hbk, hb6⟩
        have hB6 := hB5.trans (hb6.mono hB5.size)
        clear hb6 hB5 KM
        have hcell : ∀ k, k < (Alm.lens c y).length → W6.cell? ⟨b, k, none⟩ = some (.int .i64 (Alm.mlen c y (k + 1))) := fun k hk => by rw [hR k hk, mlen_get c y k hk]
        have hmo := Alm.months_bd c y
        have hcs := fun k hk => Alm.cum_succ c y k hk
        have hcb := fun k hk => Alm.cum_bd c y k hk
        have hml := fun k hk1 hk2 => Alm.mlen_bd c y k hk1 hk2
        have hcm := hide (fun a b hab hb => Alm.cum_mono c y a b hab hb)
        have em : Alm.months c y = (Alm.lens c y).length := rfl
        rw [em] at hmo hcs hcb hml mb hcm
        clear hR em
        generalize (Alm.lens c y).length = n at *
        have HC := hide hcell
        have HS := hide hcs
        have hw : 0 < W6.heap.size := by have := hB6.size; simp at this; omega
        obtain ⟨⟨z0, n0⟩, ⟨z1, n1⟩, ⟨z2, n2⟩, ⟨z3, n3⟩⟩ := slotD w W6 hB6
        have hBf : Below w.heap.size w W6 := ((Below.refl _ w).alloc (Nat.le_refl _) _).trans (hB6.mono (by simp))
        clear hcell hcs hB6
        unfold maxLen at hc2
        go_wp2_with fail
        go_loop [9, 11] (fun av mv => ∃ k : Nat, (k : Int) + 1 ≤ M ∧ mv = .int .i64 k ∧ av = .int .i64 (st + Alm.cum c y k)) (fun _ mv => (13 - intOf mv).toNat)
        case atStart => exact ⟨0, by omega, rfl, by simp [Alm.cum]⟩
        case round =>
          obtain ⟨k, hk, rfl, rfl⟩ := hrel
          have b1 := hcb k (by omega)
          have hk1 := HC.out k (by omega)
          have b2 := hml (k + 1) (by omega) (by omega)
          have HE := HS.out k (by omega)
          have hkn : (k : Int) < n := by omega
          by_cases hlt3 : (k : Int) + 1 < M
          · have hle : st + Alm.cum c y (k + 1) ≤ day := by
              have := hcm.out (k + 1) (M - 1).toNat (by omega) (by omega)
              have := DE.out; omega
            rw [HE] at hle
            have HE' := hide HE
            clear hcb hml HE mb db2
            generalize Alm.mlen c y (k + 1) = mm at *
            generalize Alm.cum c y k = cu at *
            go_wp2
            go_round
            case rel => exact ⟨k + 1, by omega, by simp, by rw [HE'.out, Int.add_assoc]⟩
            case measure => simp [intOf]; omega
          · obtain rfl : M = (k : Int) + 1 := by omega
            have ek : ((k : Int) + 1 - 1).toNat = k := by omega
            have de := DE.out
            rw [ek] at de
            have hgt : ¬ (st + (Alm.cum c y k + Alm.mlen c y (k + 1)) ≤ day) := by omega
            have hgt' : ¬ (st + Alm.cum c y k + Alm.mlen c y (k + 1) ≤ day) := by omega
            have hD1 := hide (show day - (st + Alm.cum c y k) + 1 = D by omega)
            clear hcb hml HE mb ek DE de db2 hgt
            generalize Alm.mlen c y (k + 1) = mm at *
            generalize Alm.cum c y k = cu at *
            go_wp2
            refine bodyPost_ret (v := .tuple #[.agg #[.int .i64 c, .int .i64 y, .int .i64 (k + 1), .int .i64 D], .int .i64 0]) (by simp [results, Tryz.results48, go_sem, z0, z1, z2, z3, hD1.out]) rfl ⟨rfl, ?_⟩
            exact (((hBf.setCell (Nat.le_refl _) _).setCell (Nat.le_refl _) _).setCell (Nat.le_refl _) _).setCell (Nat.le_refl _) _

theorem rof_no (c day : Int) (w : World) (h : c < 1 ∨ 10 < c ∨ day < -4000000 ∨ 4000000 < day) :
    Calls Tryz.prog 48 #[.int .i64 c, .int .i64 day] w fun r w' => r = .returned (.tuple #[.agg #[.int .i64 0, .int .i64 0, .int .i64 0, .int .i64 0], .int .i64 (oerr c day)]) ∧ Below w.heap.size w w' := by
  have hB0 : Below w.heap.size w (w.alloc (.cells #[.int .i64 0, .int .i64 0, .int .i64 0, .int .i64 0] 55)) := (Below.refl _ w).alloc (Nat.le_refl _) _
  by_cases hc : c < 1 ∨ 10 < c
  · have e : oerr c day = 2 := by unfold oerr; rw [if_pos hc]
    rw [e]
    have KC := hide (fun W => calOK_no c W hc)
    clear h hc e
    go_enter Tryz.func48, Tryz.ntmps48
    go_wp2_with fail
    refine (KC.out _).mono ?_
    rintro r w' ⟨rfl, rfl⟩
    go_wp2
    refine bodyPost_ret (v := .tuple #[.agg #[.int .i64 0, .int .i64 0, .int .i64 0, .int .i64 0], .int .i64 2]) (by simp [results, Tryz.results48, go_sem]) rfl ⟨rfl, ?_⟩
    first | exact hB0 | exact (((hB0.setCell (Nat.le_refl _) _).setCell (Nat.le_refl _) _).setCell (Nat.le_refl _) _).setCell (Nat.le_refl _) _
  · have hd : day < -4000000 ∨ 4000000 < day := by omega
    have e : oerr c day = 4 := by unfold oerr; rw [if_neg hc, if_pos hd]
    rw [e]
    have KC := hide (fun W => calOK_yes c W (by omega) (by omega))
    have KT := hide (fun W => there_no day W hd)
    clear h hc hd e
    go_enter Tryz.func48, Tryz.ntmps48
    go_wp2_with fail
    refine (KC.out _).mono ?_
    rintro r w' ⟨rfl, rfl⟩
    go_wp2_with fail
    refine (KT.out _).mono ?_
    rintro r w' ⟨rfl, rfl⟩
    go_wp2
    refine bodyPost_ret (v := .tuple #[.agg #[.int .i64 0, .int .i64 0, .int .i64 0, .int .i64 0], .int .i64 4]) (by simp [results, Tryz.results48, go_sem]) rfl ⟨rfl, ?_⟩
    first | exact hB0 | exact (((hB0.setCell (Nat.le_refl _) _).setCell (Nat.le_refl _) _).setCell (Nat.le_refl _) _).setCell (Nat.le_refl _) _
end Go.Proofs.YtafaacliphdndaaGreatDoor
