/- The reference of package cron: CronFits, by what its own callees say. -/
import Derived.Test.YtgbbplkpepaidaaGreatDoorMCronTimes36
import Derived.Test.YtgbbplkpepaidaaGreatDoorMCronTimes20
namespace Go.Proofs.YtgbbplkpepaidaaGreatDoor
open Go.RowKit
set_option linter.unusedVariables false
set_option linter.unusedSimpArgs false

set_option maxRecDepth 100000 in
set_option maxHeartbeats 4000000 in
theorem rnext_no (A : CAd) (x : Crn.C) (t : Int) (w : World) (hk : KT w) (hl : CL A x w) (hok : Crn.ok x = false)
    (kc : ∀ W, CW w A x W → Calls Tryz.prog 10 #[crV A x] W fun e w' => e = .returned (.int .i64 (argN (Crn.ok x))) ∧ Below W.heap.size W w') :
    Calls Tryz.prog 7 #[crV A x, .int .i64 t] w fun e w' => e = .returned (.tuple #[.int .i64 0, .int .i64 1]) ∧ Below w.heap.size w w' := by
  have HW := hide (CW.new hk hl)
  have KC := hide kc
  rw [hok, show argN false = 1 from rfl] at KC
  clear hk hl hok kc
  go_enter Tryz.func7, Tryz.ntmps7
  go_upto_region 1 with fail
  have hw := HW.out
  obtain ⟨W0, hW0⟩ : ∃ W0, (w.alloc (crO A x)) = W0 := ⟨_, rfl⟩
  rw [hW0] at hw ⊢
  clear hW0 HW
  obtain ⟨x0, x1, x2, x3, x4, x5, x6, x7, x8, x9, x10⟩ := hw.bx.cells
  go_wp2_with fail
  refine (KC.out _ hw).mono ?_
  rintro e W1 ⟨rfl, c1⟩
  replace hw := hw.later c1
  clear c1 x0 x1 x2 x3 x4 x5 x6 x7 x8 x9 x10
  go_wp2
  go_ret2
  exact ⟨rfl, hw.be⟩
set_option maxRecDepth 100000 in
set_option maxHeartbeats 4000000 in
theorem rnext_out (A : CAd) (x : Crn.C) (t : Int) (w : World) (hk : KT w) (hl : CL A x w) (hok : Crn.ok x = true)
    (kc : ∀ W, CW w A x W → Calls Tryz.prog 10 #[crV A x] W fun e w' => e = .returned (.int .i64 (argN (Crn.ok x))) ∧ Below W.heap.size W w')
    (ks : ∀ W, Calls Tryz.prog 11 #[.int .i64 t] W fun e w' => e = .returned (.tuple #[.int .i64 0, .int .i64 0, .int .i64 4]) ∧ w' = W) :
    Calls Tryz.prog 7 #[crV A x, .int .i64 t] w fun e w' => e = .returned (.tuple #[.int .i64 0, .int .i64 4]) ∧ Below w.heap.size w w' := by
  have HW := hide (CW.new hk hl)
  have KC := hide kc
  have KS := hide ks
  rw [hok, show argN true = 0 from rfl] at KC
  clear hk hl hok kc ks
  go_enter Tryz.func7, Tryz.ntmps7
  go_upto_region 1 with fail
  have hw := HW.out
  obtain ⟨W0, hW0⟩ : ∃ W0, (w.alloc (crO A x)) = W0 := ⟨_, rfl⟩
  rw [hW0] at hw ⊢
  clear hW0 HW
  obtain ⟨x0, x1, x2, x3, x4, x5, x6, x7, x8, x9, x10⟩ := hw.bx.cells
  go_wp2_with fail
  refine (KC.out _ hw).mono ?_
  rintro e W1 ⟨rfl, c1⟩
  replace hw := hw.later c1
  clear c1 x0 x1 x2 x3 x4 x5 x6 x7 x8 x9 x10
  go_wp2_with fail
  refine (KS.out _).mono ?_
  rintro e W2 ⟨rfl, rfl⟩
  go_wp2
  go_ret2
  exact ⟨rfl, hw.be⟩
end Go.Proofs.YtgbbplkpepaidaaGreatDoor
namespace Go.Proofs.YtgbbplkpepaidaaGreatDoor
open Go.RowKit
set_option linter.unusedVariables false
set_option linter.unusedSimpArgs false

/-- does a minute of a day fit, and lie behind b? -/
def Ft (x : Crn.C) (f : Int → Bool) (b d m : Int) : Prop := f d = true ∧ b < d * 86400 + m * 60 ∧ memB x.ho (m / 60) = true ∧ memB x.mi (m % 60) = true
/-- no minute from the day a on fits ahead of the minute m of the day d -/
def NB (x : Crn.C) (f : Int → Bool) (b a d m : Int) : Prop := ∀ d' m', a ≤ d' → 0 ≤ m' → m' < 1440 → (d' < d ∨ d' = d ∧ m' < m) → ¬ Ft x f b d' m'
/-- what Next answers -/
def Nx (x : Crn.C) (f : Int → Bool) (b a z r k : Int) : Prop :=
  (k = 0 ∧ ∃ d m, a ≤ d ∧ d ≤ z ∧ 0 ≤ m ∧ m < 1440 ∧ Ft x f b d m ∧ r = d * 86400 + m * 60 ∧ NB x f b a d m) ∨ (k = 12 ∧ r = 0 ∧ NB x f b a (z + 1) 0)
theorem NB.start (x : Crn.C) (f : Int → Bool) (b a : Int) : NB x f b a a 0 := fun d' m' h1 h2 h3 h4 => by omega
theorem NB.day {x : Crn.C} {f : Int → Bool} {b a d : Int} (h : NB x f b a d 0) (hf : f d = false) : NB x f b a (d + 1) 0 := fun d' m' h1 h2 h3 h4 h5 => by
  by_cases e : d' = d
  · subst e; have h6 := h5.1; rw [hf] at h6; cases h6
  · exact h d' m' h1 h2 h3 (.inl (by omega)) h5
theorem NB.min {x : Crn.C} {f : Int → Bool} {b a d m : Int} (h : NB x f b a d m) (hf : ¬ Ft x f b d m) : NB x f b a d (m + 1) := fun d' m' h1 h2 h3 h4 h5 => by
  by_cases e : d' = d ∧ m' = m
  · obtain ⟨rfl, rfl⟩ := e; exact hf h5
  · exact h d' m' h1 h2 h3 (by omega) h5
theorem NB.over {x : Crn.C} {f : Int → Bool} {b a d : Int} (h : NB x f b a d 1440) : NB x f b a (d + 1) 0 := fun d' m' h1 h2 h3 h4 h5 => h d' m' h1 h2 h3 (by omega) h5
set_option maxRecDepth 100000 in
set_option maxHeartbeats 8000000 in
theorem rnext_ok (A : CAd) (x : Crn.C) (f : Int → Bool) (t s day z : Int) (w : World) (hk : KT w) (hl : CL A x w) (hok : Crn.ok x = true) (d1 : -4000000 ≤ day) (d2 : day ≤ 4000000) (t1 : -400000000000 ≤ t) (t2 : t ≤ 400000000000) (hz : z = if day + 10957 ≤ 4000000 then day + 10957 else 4000000)
    (kc : ∀ W, CW w A x W → Calls Tryz.prog 10 #[crV A x] W fun e w' => e = .returned (.int .i64 (argN (Crn.ok x))) ∧ Below W.heap.size W w')
    (ks : ∀ W, Calls Tryz.prog 11 #[.int .i64 t] W fun e w' => e = .returned (.tuple #[.int .i64 day, .int .i64 s, .int .i64 0]) ∧ w' = W)
    (kd : ∀ d W, day ≤ d → d ≤ z → CW w A x W → Calls Tryz.prog 13 #[crV A x, .int .i64 d] W fun e w' => e = .returned (.bool (f d)) ∧ Below W.heap.size W w') :
    Calls Tryz.prog 7 #[crV A x, .int .i64 t] w fun e w' => ∃ r k : Int, e = .returned (.tuple #[.int .i64 r, .int .i64 k]) ∧ Nx x f t day z r k ∧ Below w.heap.size w w' := by
  have HW := hide (CW.new hk hl)
  have KC := hide kc
  have KS := hide ks
  have KD := hide kd
  have hu := ok_u hok
  have K1 := hide (fun v W (hw : CW w A x W) => member_any A.h A.ch x.ho v W hw.cl.ho hu.ho)
  have K2 := hide (fun v W (hw : CW w A x W) => member_any A.m A.cm x.mi v W hw.cl.mi hu.mi)
  have z1 : z ≤ day + 10957 := by omega
  have z2 : z ≤ 4000000 := by omega
  have z0 : day ≤ z + 1 := by omega
  have HZ : Hid (∀ d, z < d → d ≤ 4000000 → day + 10957 < d) := fun d h h' => by omega
  rw [hok, show argN true = 0 from rfl] at KC
  clear hk hl hok kc ks kd hu hz
  go_enter Tryz.func7, Tryz.ntmps7
  go_upto_region 1 with fail
  have hw := HW.out
  obtain ⟨W0, hW0⟩ : ∃ W0, (w.alloc (crO A x)) = W0 := ⟨_, rfl⟩
  rw [hW0] at hw ⊢
  clear hW0 HW
  obtain ⟨x0, x1, x2, x3, x4, x5, x6, x7, x8, x9, x10⟩ := hw.bx.cells
  go_wp2_with fail
  refine (KC.out _ hw).mono ?_
  rintro e W1 ⟨rfl, c1⟩
  replace hw := hw.later c1
  clear c1 x0 x1 x2 x3 x4 x5 x6 x7 x8 x9 x10
  go_wp2_with fail
  refine (KS.out _).mono ?_
  rintro e W2 ⟨rfl, rfl⟩
  go_wp2_with fail
  go_loopw [10] (fun v wr => ∃ d : Int, day ≤ d ∧ d ≤ z + 1 ∧ v = .int .i64 d ∧ NB x f t day d 0 ∧ CW w A x wr) (fun v _ => (z + 1 - intOf v).toNat)
  case atStart => exact ⟨day, by omega, z0, rfl, NB.start x f t day, hw⟩
  case round =>
    clear hw
    obtain ⟨d, hd1, hd2, rfl, hn, hw⟩ := hrel
    by_cases hdz : d ≤ z
    · have q1 : d ≤ day + 10957 := by omega
      have q2 : d ≤ 4000000 := by omega
      obtain ⟨x0, x1, x2, x3, x4, x5, x6, x7, x8, x9, x10⟩ := hw.bx.cells
      go_wp2_with fail
      refine (KD.out d _ hd1 hdz hw).mono ?_
      rintro e W3 ⟨rfl, c3⟩
      replace hw := hw.later c3
      clear c3 x0 x1 x2 x3 x4 x5 x6 x7 x8 x9 x10
      cases hf : f d
      · have hn2 := hide (hn.day hf)
        clear hn hf
        go_wp2
        go_roundw
        case rel => exact ⟨d + 1, by omega, by omega, by go_num, hn2.out, hw⟩
        case measure => simp [intOf]; omega
      · go_wp2_with fail
        go_loopw [11] (fun v wr => ∃ m : Int, 0 ≤ m ∧ m ≤ 1440 ∧ v = .int .i64 m ∧ NB x f t day d m ∧ CW w A x wr) (fun v _ => (1440 - intOf v).toNat)
        case atStart => exact ⟨0, by omega, by omega, rfl, hn, hw⟩
        case round =>
          clear hw hn
          obtain ⟨m, hm1, hm2, rfl, hn, hw⟩ := hrel
          by_cases hm : m < 1440
          · have HN := hide hn
            have HFT : Hid (Ft x f t d m = (f d = true ∧ t < d * 86400 + m * 60 ∧ memB x.ho (m / 60) = true ∧ memB x.mi (m % 60) = true)) := rfl
            have p1 : m.tdiv 60 = m / 60 := Int.tdiv_eq_ediv_of_nonneg hm1
            have p2 : m.tmod 60 = m % 60 := Int.tmod_eq_emod_of_nonneg hm1
            clear hn
            by_cases ht : t < d * 86400 + m * 60
            · obtain ⟨x0, x1, x2, x3, x4, x5, x6, x7, x8, x9, x10⟩ := hw.bx.cells
              go_wp2_with fail
              refine (K1.out (m / 60) _ hw).mono ?_
              rintro e W5 ⟨rfl, c5⟩
              replace hw := hw.later c5
              clear c5 x0 x1 x2 x3 x4 x5 x6 x7 x8 x9 x10
              obtain ⟨x0, x1, x2, x3, x4, x5, x6, x7, x8, x9, x10⟩ := hw.bx.cells
              cases hb1 : memB x.ho (m / 60)
              · have hn2 := hide (HN.out.min (fun h => by have h6 := h.2.2.1; rw [hb1] at h6; cases h6))
                clear HN HFT hb1
                go_wp2
                go_roundw
                case rel => exact ⟨m + 1, by omega, by omega, by go_num, hn2.out, hw⟩
                case measure => simp [intOf]; omega
              · go_wp2_with fail
                refine (K2.out (m % 60) _ hw).mono ?_
                rintro e W6 ⟨rfl, c6⟩
                replace hw := hw.later c6
                clear c6 x0 x1 x2 x3 x4 x5 x6 x7 x8 x9 x10
                cases hb2 : memB x.mi (m % 60)
                · have hn2 := hide (HN.out.min (fun h => by have h6 := h.2.2.2; rw [hb2] at h6; cases h6))
                  clear HN HFT hb1 hb2
                  go_wp2
                  go_roundw
                  case rel => exact ⟨m + 1, by omega, by omega, by go_num, hn2.out, hw⟩
                  case measure => simp [intOf]; omega
                · have hx : Nx x f t day z (d * 86400 + m * 60) 0 := .inl ⟨rfl, d, m, hd1, hdz, hm1, hm, ⟨hf, ht, hb1, hb2⟩, rfl, HN.out⟩
                  have HX := hide hx
                  clear HN HFT hb1 hb2 hf hx
                  go_wp2
                  go_ret2
                  exact ⟨d * 86400 + m * 60, 0, rfl, HX.out, hw.be⟩
            · have hn2 := hide (HN.out.min (fun h => ht h.2.1))
              clear HN HFT hf
              obtain ⟨x0, x1, x2, x3, x4, x5, x6, x7, x8, x9, x10⟩ := hw.bx.cells
              go_wp2
              go_roundw
              case rel => exact ⟨m + 1, by omega, by omega, by go_num, hn2.out, hw⟩
              case measure => simp [intOf]; omega
          · obtain rfl : m = 1440 := by omega
            have hn2 := hide hn.over
            clear hn hf
            go_wp2
            go_roundw
            case rel => exact ⟨d + 1, by omega, by omega, by go_num, hn2.out, hw⟩
            case measure => simp [intOf]; omega
    · obtain rfl : d = z + 1 := by omega
      have hx : Nx x f t day z 0 12 := .inr ⟨rfl, rfl, hn⟩
      have HX := hide hx
      clear hn hx
      by_cases hq : z + 1 ≤ 4000000
      · have hq1 := HZ.out (z + 1) (by omega) hq
        go_wp2
        go_ret2
        exact ⟨0, 12, rfl, HX.out, hw.be⟩
      · by_cases hq1 : z + 1 ≤ day + 10957
        · go_wp2
          go_ret2
          exact ⟨0, 12, rfl, HX.out, hw.be⟩
        · go_wp2
          go_ret2
          exact ⟨0, 12, rfl, HX.out, hw.be⟩
end Go.Proofs.YtgbbplkpepaidaaGreatDoor
namespace Go.Proofs.YtgbbplkpepaidaaGreatDoor
open Go.RowKit
set_option linter.unusedVariables false
set_option linter.unusedSimpArgs false

set_option maxRecDepth 100000 in
set_option maxHeartbeats 4000000 in
theorem rfits_no (A : CAd) (x : Crn.C) (t : Int) (w : World) (hk : KT w) (hl : CL A x w) (hok : Crn.ok x = false)
    (kc : ∀ W, CW w A x W → Calls Tryz.prog 10 #[crV A x] W fun e w' => e = .returned (.int .i64 (argN (Crn.ok x))) ∧ Below W.heap.size W w') :
    Calls Tryz.prog 5 #[crV A x, .int .i64 t] w fun e w' => e = .returned (.tuple #[.bool false, .int .i64 1]) ∧ Below w.heap.size w w' := by
  have HW := hide (CW.new hk hl)
  have KC := hide kc
  rw [hok, show argN false = 1 from rfl] at KC
  clear hk hl hok kc
  go_enter Tryz.func5, Tryz.ntmps5
  go_upto_region 1 with fail
  have hw := HW.out
  obtain ⟨W0, hW0⟩ : ∃ W0, (w.alloc (crO A x)) = W0 := ⟨_, rfl⟩
  rw [hW0] at hw ⊢
  clear hW0 HW
  obtain ⟨x0, x1, x2, x3, x4, x5, x6, x7, x8, x9, x10⟩ := hw.bx.cells
  go_wp2_with fail
  refine (KC.out _ hw).mono ?_
  rintro e W1 ⟨rfl, c1⟩
  replace hw := hw.later c1
  clear c1 x0 x1 x2 x3 x4 x5 x6 x7 x8 x9 x10
  go_wp2
  go_ret2
  exact ⟨rfl, hw.be⟩
set_option maxRecDepth 100000 in
set_option maxHeartbeats 4000000 in
theorem rfits_out (A : CAd) (x : Crn.C) (t : Int) (w : World) (hk : KT w) (hl : CL A x w) (hok : Crn.ok x = true)
    (kc : ∀ W, CW w A x W → Calls Tryz.prog 10 #[crV A x] W fun e w' => e = .returned (.int .i64 (argN (Crn.ok x))) ∧ Below W.heap.size W w')
    (ks : ∀ W, Calls Tryz.prog 11 #[.int .i64 t] W fun e w' => e = .returned (.tuple #[.int .i64 0, .int .i64 0, .int .i64 4]) ∧ w' = W) :
    Calls Tryz.prog 5 #[crV A x, .int .i64 t] w fun e w' => e = .returned (.tuple #[.bool false, .int .i64 4]) ∧ Below w.heap.size w w' := by
  have HW := hide (CW.new hk hl)
  have KC := hide kc
  have KS := hide ks
  rw [hok, show argN true = 0 from rfl] at KC
  clear hk hl hok kc ks
  go_enter Tryz.func5, Tryz.ntmps5
  go_upto_region 1 with fail
  have hw := HW.out
  obtain ⟨W0, hW0⟩ : ∃ W0, (w.alloc (crO A x)) = W0 := ⟨_, rfl⟩
  rw [hW0] at hw ⊢
  clear hW0 HW
  obtain ⟨x0, x1, x2, x3, x4, x5, x6, x7, x8, x9, x10⟩ := hw.bx.cells
  go_wp2_with fail
  refine (KC.out _ hw).mono ?_
  rintro e W1 ⟨rfl, c1⟩
  replace hw := hw.later c1
  clear c1 x0 x1 x2 x3 x4 x5 x6 x7 x8 x9 x10
  go_wp2_with fail
  refine (KS.out _).mono ?_
  rintro e W2 ⟨rfl, rfl⟩
  go_wp2
  go_ret2
  exact ⟨rfl, hw.be⟩
set_option maxRecDepth 100000 in
set_option maxHeartbeats 8000000 in
theorem rfits_ok (A : CAd) (x : Crn.C) (t s day M D L : Int) (w : World) (hk : KT w) (hl : CL A x w) (hok : Crn.ok x = true) (s0 : 0 ≤ s) (s1 : s < 86400)
    (kc : ∀ W, CW w A x W → Calls Tryz.prog 10 #[crV A x] W fun e w' => e = .returned (.int .i64 (argN (Crn.ok x))) ∧ Below W.heap.size W w')
    (ks : ∀ W, Calls Tryz.prog 11 #[.int .i64 t] W fun e w' => e = .returned (.tuple #[.int .i64 day, .int .i64 s, .int .i64 0]) ∧ w' = W)
    (kd : ∀ W, CW w A x W → Calls Tryz.prog 13 #[crV A x, .int .i64 day] W fun e w' => e = .returned (.bool (memB x.mo M && fitD x (day - D) L D)) ∧ Below W.heap.size W w') :
    Calls Tryz.prog 5 #[crV A x, .int .i64 t] w fun e w' => e = .returned (.tuple #[.bool (fitT x s M D L day), .int .i64 0]) ∧ Below w.heap.size w w' := by
  have HW := hide (CW.new hk hl)
  have KC := hide kc
  have KS := hide ks
  have KD := hide kd
  have hu := ok_u hok
  have K1 := hide (fun W (hw : CW w A x W) => member_any A.m A.cm x.mi (s / 60 % 60) W hw.cl.mi hu.mi)
  have K2 := hide (fun W (hw : CW w A x W) => member_any A.h A.ch x.ho (s / 60 / 60) W hw.cl.ho hu.ho)
  have HF : Hid (fitT x s M D L day = (memB x.mi (s / 60 % 60) && memB x.ho (s / 60 / 60) && (memB x.mo M && fitD x (day - D) L D))) := by unfold fitT; show _ = _; rw [Bool.and_assoc (memB x.mi (s / 60 % 60) && memB x.ho (s / 60 / 60))]
  have q1 : s.tdiv 60 = s / 60 := Int.tdiv_eq_ediv_of_nonneg s0
  have q2 : s.tdiv 3600 = s / 60 / 60 := by rw [Int.tdiv_eq_ediv_of_nonneg s0]; omega
  have q3 : (s / 60).tmod 60 = s / 60 % 60 := Int.tmod_eq_emod_of_nonneg (by omega)
  generalize fitT x s M D L day = R at *
  generalize memB x.mi (s / 60 % 60) = b1 at *
  generalize memB x.ho (s / 60 / 60) = b2 at *
  generalize (memB x.mo M && fitD x (day - D) L D) = b3 at *
  have z1 : 0 ≤ s / 60 := by omega
  have z2 : s / 60 < 1440 := by omega
  generalize s / 60 = mn at *
  rw [hok, show argN true = 0 from rfl] at KC
  clear hk hl hok kc ks kd hu
  go_enter Tryz.func5, Tryz.ntmps5
  go_upto_region 1 with fail
  have hw := HW.out
  obtain ⟨W0, hW0⟩ : ∃ W0, (w.alloc (crO A x)) = W0 := ⟨_, rfl⟩
  rw [hW0] at hw ⊢
  clear hW0 HW
  obtain ⟨x0, x1, x2, x3, x4, x5, x6, x7, x8, x9, x10⟩ := hw.bx.cells
  go_wp2_with fail
  refine (KC.out _ hw).mono ?_
  rintro e W1 ⟨rfl, c1⟩
  replace hw := hw.later c1
  clear c1 x0 x1 x2 x3 x4 x5 x6 x7 x8 x9 x10
  go_wp2_with fail
  refine (KS.out _).mono ?_
  rintro e W2 ⟨rfl, rfl⟩
  obtain ⟨x0, x1, x2, x3, x4, x5, x6, x7, x8, x9, x10⟩ := hw.bx.cells
  go_wp2_with fail
  refine (K1.out _ hw).mono ?_
  rintro e W5 ⟨rfl, c5⟩
  replace hw := hw.later c5
  clear c5 x0 x1 x2 x3 x4 x5 x6 x7 x8 x9 x10
  cases b1
  · obtain rfl : R = false := by rw [HF.out]; rfl
    clear HF
    go_wp2
    go_ret2
    exact ⟨rfl, hw.be⟩
  obtain ⟨x0, x1, x2, x3, x4, x5, x6, x7, x8, x9, x10⟩ := hw.bx.cells
  go_wp2_with fail
  refine (K2.out _ hw).mono ?_
  rintro e W6 ⟨rfl, c6⟩
  replace hw := hw.later c6
  clear c6 x0 x1 x2 x3 x4 x5 x6 x7 x8 x9 x10
  cases b2
  · obtain rfl : R = false := by rw [HF.out]; rfl
    clear HF
    go_wp2
    go_ret2
    exact ⟨rfl, hw.be⟩
  obtain rfl : R = b3 := by rw [HF.out]; simp
  clear HF
  obtain ⟨x0, x1, x2, x3, x4, x5, x6, x7, x8, x9, x10⟩ := hw.bx.cells
  go_wp2_with fail
  refine (KD.out _ hw).mono ?_
  rintro e W8 ⟨rfl, c8⟩
  have hB := hw.be.trans (c8.mono hw.be.size)
  go_wp2
  go_ret2
  exact ⟨rfl, hB⟩
end Go.Proofs.YtgbbplkpepaidaaGreatDoor
