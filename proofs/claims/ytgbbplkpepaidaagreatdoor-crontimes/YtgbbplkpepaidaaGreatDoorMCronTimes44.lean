/- package cron: Next where it answers, the last days. -/
import Derived.Test.YtgbbplkpepaidaaGreatDoorMCronTimes43
namespace Go.Proofs.YtgbbplkpepaidaaGreatDoor
open Go.RowKit Go.Shelf
set_option linter.unusedVariables false
set_option linter.unusedSimpArgs false
attribute [local go_sem] Oper.semAt_some

set_option maxRecDepth 100000 in
set_option maxHeartbeats 600000 in
set_option pp.deepTerms true in
set_option pp.maxSteps 1000000 in
theorem next_in2 (n : Nat) (hn : 20 ≤ n) (A : CAd) (x : Crn.C) (M D L : Int → Int) (hm : Mon M D L) (t s day : Int) (w : World) (hk : KT w) (hl : CL A x w) (hok : Crn.ok x = true) (d1 : -4000000 ≤ day) (d2 : 4000000 < day + 10957) (d3 : day ≤ 4000000) (t1 : -400000000000 ≤ t) (t2 : t ≤ 400000000000)
    (ks : ∀ W, Calls Tryz.prog 16 #[.int .i64 t] W fun e w' => e = .returned (.tuple #[.int .i64 day, .int .i64 s, .nilIface]) ∧ w' = W)
    (km : ∀ d W, -4000000 ≤ d → d ≤ 4000000 → Calls Tryz.prog 17 #[.int .i64 d] W fun e w' => e = .returned (monV (M d) (d - D d) (L d)) ∧ Below W.heap.size W w') :
    CallsIn Fence.wide n Tryz.prog 14 #[crV A x, .int .i64 t] w fun e w' => ∃ r k, e = .returned (.tuple #[.int .i64 r, if k = 0 then .nilIface else .iface 27 (.int .i64 k)]) ∧ Nx x (fDay x M D L) t day (4000000) r k ∧ Below w.heap.size w w' := by
  have hw := NX.new t hk hl
  have hu := ok_u hok
  have KC := hide (fun W (hw : CW w A x W) => callsIn_wide (n := n - 1).2 (check_any A x W hw.kt hw.cl))
  have KS := hide (fun W => callsIn_wide (n := n - 1).2 (ks W))
  have KM := hide km
  have KF := hide (fun W => callsIn_wide (n := n - 1).2 (fitting_any A x day (4000000) W))
  have HM := hide hm
  rw [hok] at KC
  have g1 : Fence.wide.fn 15 := trivial
  have g2 : Fence.wide.fn 16 := trivial
  have g3 : Fence.wide.fn 28 := trivial
  have h1 : 1 ≤ n := by omega
  obtain ⟨hmi, hho⟩ := ok_len hok
  obtain ⟨ah, hA, _⟩ := hl.ho 0 hho
  obtain ⟨am, hB, _⟩ := hl.mi 0 hmi
  have HA := hide hA
  have HB' := hide hB
  have HN := hide (And.intro hmi hho)
  have HR := hide (ok_rise hok)
  clear hA hB hmi hho
  clear hk hl hok ks km hm
  obtain ⟨y0, y1, y2, y3, y4, y5, y6, y7, y8, y9, y10⟩ := hw.c.bx.cells
  refine callsIn_of_wp_marks Tryz.func14 rfl trivial ?_ rfl
  simp only [Tryz.ntmps14, List.size_toArray, List.length_cons, List.length_nil, Nat.reduceAdd, Nat.reduceSub, Array.replicate_succ, Array.replicate_zero, List.push_toArray, List.append_toArray, List.nil_append, List.cons_append]
  gi_wp2_with (first
    | (gi_at_call 15; refine (KC.out _ hw.c).mono ?_; rintro e W1 ⟨rfl, b1⟩; rw [show argV true = .nilIface from rfl]
       replace hw := hw.later b1
       clear y0 y1 y2 y3 y4 y5 y6 y7 y8 y9 y10 b1
       obtain ⟨y0, y1, y2, y3, y4, y5, y6, y7, y8, y9, y10⟩ := hw.c.bx.cells
       have t0 := hw.t.cell)
    | (gi_at_call 16; refine (KS.out _).mono ?_; rintro e W2 ⟨rfl, rfl⟩)
    | (gi_at_call 28; refine (KF.out _).mono ?_; rintro e W4 ⟨rfl, hW4⟩))
  have hb4 : Below W2.heap.size W2 W4 := by rw [hW4]; exact (((Below.refl _ W2).alloc (Nat.le_refl _) _).alloc (by simp) _).alloc (by simp; omega) _
  have hx4 : FX A x day (4000000) W2.heap.size W4 := by
    have c0 := CBox.new W2 A x
    have c1 := Boxed.new (W2.alloc (crO A x)) 3 (.int .i64 day)
    have c2 := Boxed.new ((W2.alloc (crO A x)).alloc (.cells #[.int .i64 day] 3)) 3 (.int .i64 (4000000))
    rw [World.size_alloc] at c1 c2
    rw [World.size_alloc] at c2
    rw [hW4]
    refine ⟨by rw [← hW4]; exact hw.c.cl.later hb4, ?_, c1.alloc _, c2⟩
    exact (c0.later ((Below.refl _ _).alloc (Nat.le_refl _) _)).later ((Below.refl _ _).alloc (Nat.le_refl _) _)
  replace hw := hw.later hb4
  rw [← hW4]
  clear hW4 y0 y1 y2 y3 y4 y5 y6 y7 y8 y9 y10 t0
  generalize W2.heap.size = b at *
  refine rf_one (a0 := day) (z0 := 4000000) h1 rfl (enters_of Tryz.func46 (by kernel_rfl) rfl) (q := 10)
    (fit_stops (n - 1) (by omega) A x hu M D L HM.out day (4000000) d1 (by omega) (by omega) b (fun d W e1 e2 => KM.out d W (by omega) (by omega)) W4 hx4)
    KpC.trans (KpC.of_put (Nat.le_refl _)) (KpC.refl _)
    (fun pre W => (∀ d ∈ pre, Dn x t d.1) ∧ Below W4.heap.size W4 W)
    (fun c pre W => (c = .ret ∧ ∃ p y r, pre = p ++ [y] ∧ (∀ d ∈ p, Dn x t d.1) ∧ Fr x t y.1 r ∧ Boxed W (w.heap.size + 1 + 1) 26 (.int .i64 r)) ∧ Boxed W (w.heap.size + 1 + 1 + 1) 34 .nilIface ∧ Below w.heap.size w W)
    (OwnFrom.and (ownFrom_pure _ _) (ownFrom_below (Nat.le_refl _) (Nat.le_refl _)))
    (fun c => ?_) ⟨fun d hd => absurd hd (by simp), Below.refl _ _⟩ ?assign ?body ?done ?stop
  · rintro pre X Y row ⟨⟨rfl, p, y, r, e1, e2, e3, e4⟩, e5, e6⟩ hg hr
    exact ⟨⟨rfl, p, y, r, e1, e2, e3, boxed_own _ 26 (fun (_ : Unit) => Value.int .i64 r) () X Y row e4 hg (fun r e => (hr r e).2)⟩, boxed_own _ 34 (fun (_ : Unit) => Value.nilIface) () X Y row e5 hg (fun r e => (hr r e).2), ownFrom_below (β := Unit) (Nat.le_refl _) (by have := hw.c.be.size; exact this) () X Y row e6 hg hr⟩
  case assign =>
    rintro l pre y W K hi hK
    simp only [List.setIfInBounds_toArray, List.set_cons_succ, List.set_cons_zero] at hK ⊢
    gi_wp2
    exact hK
  case body =>
    rintro l pre ⟨y, q1, q2⟩ W hl hr ⟨hi, hb⟩ hlt
    simp only [List.setIfInBounds_toArray, List.set_cons_succ, List.set_cons_zero]
    replace hw := hw.later hb
    obtain ⟨y0, y1, y2, y3, y4, y5, y6, y7, y8, y9, y10⟩ := hw.c.bx.cells
    rw [HA.out] at y1
    rw [HB'.out] at y0
    have hcl := hw.c.cl
    have ch : ∀ k, k < x.ho.length → W.cell? (ah.add k) = some (.int .i64 (x.ho.getD k 0)) := fun k hk => by
      obtain ⟨ad, e, hc⟩ := hcl.ho k hk
      rw [HA.out] at e; cases e; exact hc
    have cm : ∀ k, k < x.mi.length → W.cell? (am.add k) = some (.int .i64 (x.mi.getD k 0)) := fun k hk => by
      obtain ⟨ad, e, hc⟩ := hcl.mi k hk
      rw [HB'.out] at e; cases e; exact hc
    have t0 := hw.t.cell
    have HI := hide hi
    have HB := hide hb
    have HW := hide hw
    have HC := hide ch
    have HCM := hide cm
    clear hi hb hw hcl ch cm hx4 hb4 hlt hr HM
    obtain ⟨r1, r2⟩ := HR.out
    have hBh := fun i hi => rises_bd r2 (k := i) hi
    have hBm := fun i hi => rises_bd r1 (k := i) hi
    have HBH := hide hBh
    have HBM := hide hBm
    have nh : x.ho.length ≤ 1000 := hu.ho
    have nm : x.mi.length ≤ 1000 := hu.mi
    clear hBh hBm r1 r2
    gi_wp2_with fail
    gi_loopw [40] (fun v wr => ∃ i : Nat, i ≤ x.ho.length ∧ v = .int .i64 i ∧ W = wr ∧ ∀ i' j', i' < i → j' < x.mi.length → y * 86400 + mt x i' j' * 60 ≤ t) (fun v _ => x.ho.length - (intOf v).toNat)
    case atStart => exact ⟨0, by omega, rfl, rfl, fun i' j' h => by omega⟩
    case round =>
      obtain ⟨i, hi, rfl, rfl, hlex⟩ := hrel
      have HL := hide hlex
      clear hlex
      by_cases hilt : i < x.ho.length
      · have hii : (i : Int) < x.ho.length := by omega
        have hc := HC.out i hilt
        have hbi := HBH.out i hilt
        have HG : Hid (∀ j, mt x i j = x.ho.getD i 0 * 60 + x.mi.getD j 0) := fun j => rfl
        generalize x.ho.getD i 0 = h at *
        gi_wp2_with fail
        gi_loopw [47] (fun v wr => ∃ j : Nat, j ≤ x.mi.length ∧ v = .int .i64 j ∧ W = wr ∧ ∀ j', j' < j → y * 86400 + mt x i j' * 60 ≤ t) (fun v _ => x.mi.length - (intOf v).toNat)
        case atStart => exact ⟨0, by omega, rfl, rfl, fun j' h => by omega⟩
        case round =>
          obtain ⟨j, hj, rfl, rfl, hlex⟩ := hrel
          have HL2 := hide hlex
          clear hlex
          by_cases hjlt : j < x.mi.length
          · have hjj : (j : Int) < x.mi.length := by omega
            have hcm := HCM.out j hjlt
            have hbj := HBM.out j hjlt
            have hG := HG.out j
            have HG2 := hide hG
            clear hG
            generalize x.mi.getD j 0 = m at *
            by_cases ht : t < y * 86400 + (h * 60 + m) * 60
            · have hw := HW.out
              have r0 := hw.r.cell
              have r1 := hw.r.frozen
              have e0 := hw.e.cell
              have e1 := hw.e.frozen
              have hf : Fr x t y (y * 86400 + (h * 60 + m) * 60) := ⟨i, j, hilt, hjlt, by rw [HG2.out], ht, fun i' j' _ j2 h3 => by
                rcases h3 with h3 | ⟨rfl, h3⟩
                · exact HL.out i' j' h3 j2
                · exact HL2.out j' h3⟩
              have HF := hide hf
              clear hf
              have hBl := hide (hw.set (.int .i64 (y * 86400 + (h * 60 + m) * 60)) .nilIface)
              have cr := hide ((hw.r.set (.int .i64 (y * 86400 + (h * 60 + m) * 60))).other (B' := w.heap.size + 1 + 1 + 1) (by omega) .nilIface)
              have ce := hide ((hw.e.other (B' := w.heap.size + 1 + 1) (by omega) (.int .i64 (y * 86400 + (h * 60 + m) * 60))).set .nilIface)
              have c1 := (hw.e.other (B' := w.heap.size + 1 + 1) (by omega) (.int .i64 (y * 86400 + (h * 60 + m) * 60))).cell
              have c2 := (hw.e.other (B' := w.heap.size + 1 + 1) (by omega) (.int .i64 (y * 86400 + (h * 60 + m) * 60))).frozen
              clear hw
              gi_wp2
              exact ⟨((KeepsOthers.setCell _ _ _).trans (KeepsOthers.setCell _ _ _)).from _, ⟨⟨rfl, pre, ⟨y, q1, q2⟩, (y * 86400 + (h * 60 + m) * 60), rfl, HI.out, HF.out, cr.out⟩, ce.out, hBl.out⟩⟩
            · gi_wp2
              go_roundw
              case rel => exact ⟨j + 1, by omega, by go_num, trivial, fun j' hj' => by
                by_cases e : j' = j
                · subst e; rw [HG2.out]; omega
                · exact HL2.out j' (by omega)⟩
              case measure => simp [intOf]; omega
          · have hjj : ¬ (j : Int) < x.mi.length := by omega
            gi_wp2
            go_roundw
            case rel => exact ⟨i + 1, by omega, by go_num, trivial, fun i' j' hi' hj' => by
              by_cases e : i' = i
              · subst e; exact HL2.out j' (by omega)
              · exact HL.out i' j' (by omega) hj'⟩
            case measure => simp [intOf]; omega
      · have hii : ¬ (i : Int) < x.ho.length := by omega
        gi_wp2
        exact ⟨KeepsFrom.refl _ _, KpC.refl _ _, ⟨fun d hd1 hd => by
          rw [List.mem_append, List.mem_singleton] at hd
          rcases hd with hd | hd
          · exact HI.out _ hd
          · cases hd
            exact fun i' j' hi' hj' => HL.out i' j' (by omega) hj', HB.out⟩⟩
  case done =>
    rintro D' ys W hD hys ⟨hi, hb⟩ hK
    have hx : Nx x (fDay x M D L) t day (4000000) 0 12 := nx_none (n := (4000000 + 1 - day).toNat) (by omega) (fun d hd => by
      rw [← fu_all, ← hys, List.mem_map] at hd
      obtain ⟨q, hq, rfl⟩ := hd
      exact hi q hq)
    have hs4 := hw.c.be.size
    replace hw := hw.later hb
    have HX := hide hx
    clear hx hi hys hb hx4 hb4 HM
    have r0 := hw.r.cell
    have r1 := hw.r.frozen
    have e0 := hw.e.cell
    have e1 := hw.e.frozen
    have hBl := hide (hw.set (.int .i64 0) (.iface 27 (.int .i64 12)))
    have cr := hide ((hw.r.set (.int .i64 0)).other (B' := w.heap.size + 1 + 1 + 1) (by omega) (.iface 27 (.int .i64 12)))
    have ce := hide ((hw.e.other (B' := w.heap.size + 1 + 1) (by omega) (.int .i64 0)).set (.iface 27 (.int .i64 12)))
    have c1 := (hw.e.other (B' := w.heap.size + 1 + 1) (by omega) (.int .i64 0)).cell
    have c2 := (hw.e.other (B' := w.heap.size + 1 + 1) (by omega) (.int .i64 0)).frozen
    have HDs : Hid (w.heap.size ≤ D') := by show w.heap.size ≤ D'; omega
    clear hw hs4
    gi_wp2
    have hK' := ((KeepsOthers.setCell W ⟨w.heap.size + 1 + 1, 0, none⟩ (.int .i64 0)).trans (KeepsOthers.setCell _ ⟨w.heap.size + 1 + 1 + 1, 0, none⟩ (.iface 27 (.int .i64 12)))).same D' _ hK rfl
    refine ⟨by simp, .inl ⟨_, _, rfl, run_takeDeferred hK', ?_⟩⟩
    have k4 := cell_kept cr.out.cell (grownBy_putObj' _ D' (.deferred none)) (fun r e => by cases e; exact ⟨_, hK', rfl⟩)
    have k5 := cell_kept ce.out.cell (grownBy_putObj' _ D' (.deferred none)) (fun r e => by cases e; exact ⟨_, hK', rfl⟩)
    refine ⟨.tuple #[.int .i64 0, .iface 27 (.int .i64 12)], ?_, 0, 12, rfl, HX.out, hBl.out.trans (belowK_b (w := w) (Nat.le_refl _) _ D' _ _ HDs.out hK' rfl rfl)⟩
    rw [results_cell2 rfl]
    simp [go_sem, k4, k5]
  case stop =>
    rintro D' c pre W hD hpre ⟨⟨rfl, p, y, r, rfl, hp, hf, hc⟩, he, hb⟩ hK
    have hx : Nx x (fDay x M D L) t day (4000000) r 0 := nx_some (n := (4000000 + 1 - day).toNat) (p := p.map (·.1)) (y := y.1) HR.out.1 HR.out.2 (by omega) (by rw [← fu_all]; simpa using hpre) (fun d hd => by
      rw [List.mem_map] at hd
      obtain ⟨q, hq, rfl⟩ := hd
      exact hp q hq) hf
    have HX := hide hx
    clear hx hp hf hpre
    have HDs : Hid (w.heap.size ≤ D') := by have := hw.c.be.size; show w.heap.size ≤ D'; omega
    gi_wp2
    refine ⟨by simp, .inl ⟨_, _, rfl, run_takeDeferred hK, ?_⟩⟩
    have k4 := cell_kept hc.cell (grownBy_putObj' _ D' (.deferred none)) (fun r e => by cases e; exact ⟨_, hK, rfl⟩)
    have k5 := cell_kept he.cell (grownBy_putObj' _ D' (.deferred none)) (fun r e => by cases e; exact ⟨_, hK, rfl⟩)
    refine ⟨.tuple #[.int .i64 r, .nilIface], ?_, r, 0, rfl, HX.out, hb.trans (belowK_b (w := w) (Nat.le_refl _) W D' _ _ HDs.out hK rfl rfl)⟩
    rw [results_cell2 rfl]
    simp [go_sem, k4, k5]
theorem next_ok (A : CAd) (x : Crn.C) (M D L : Int → Int) (hm : Mon M D L) (t s day : Int) (w : World) (hk : KT w) (hl : CL A x w) (hok : Crn.ok x = true) (d1 : -4000000 ≤ day) (d2 : day ≤ 4000000) (t1 : -400000000000 ≤ t) (t2 : t ≤ 400000000000)
    (ks : ∀ W, Calls Tryz.prog 16 #[.int .i64 t] W fun e w' => e = .returned (.tuple #[.int .i64 day, .int .i64 s, .nilIface]) ∧ w' = W)
    (km : ∀ d W, -4000000 ≤ d → d ≤ 4000000 → Calls Tryz.prog 17 #[.int .i64 d] W fun e w' => e = .returned (monV (M d) (d - D d) (L d)) ∧ Below W.heap.size W w') :
    Calls Tryz.prog 14 #[crV A x, .int .i64 t] w fun e w' => ∃ r k, e = .returned (.tuple #[.int .i64 r, if k = 0 then .nilIface else .iface 27 (.int .i64 k)]) ∧ Nx x (fDay x M D L) t day (if day + 10957 ≤ 4000000 then day + 10957 else 4000000) r k ∧ Below w.heap.size w w' := by
  by_cases h : day + 10957 ≤ 4000000
  · rw [if_pos h]
    exact (callsIn_wide (n := 20)).1 (next_in1 20 (by omega) A x M D L hm t s day w hk hl hok d1 h t1 t2 ks km)
  · rw [if_neg h]
    exact (callsIn_wide (n := 20)).1 (next_in2 20 (by omega) A x M D L hm t s day w hk hl hok d1 (by omega) d2 t1 t2 ks km)
end Go.Proofs.YtgbbplkpepaidaaGreatDoor
