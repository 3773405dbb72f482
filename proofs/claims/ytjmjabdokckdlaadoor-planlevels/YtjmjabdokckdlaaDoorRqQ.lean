/- PlanLevels, walked. -/
import Derived.Test.YtjmjabdokckdlaaDoorRqP
namespace Go.Proofs.YtjmjabdokckdlaaDoor
open Go.RowKit Go.Shelf
set_option linter.unusedVariables false
set_option linter.unusedSimpArgs false

set_option maxRecDepth 100000 in
theorem rlevel_chk (P : List Tk) (H : List Int) (tv hv : Value) (w : World) (hT : TsAt w tv P) (hH : NsAt w hv H) (hk : chkP P ≠ 0) :
    Calls Tryd.prog 24 #[tv, hv] w fun e w' => e = .returned (.tuple #[.slice none 0 0, .int .i64 (chkP P)]) ∧ RowKit.Below w.heap.size w w' := by
  have KN := hide (rend_any P tv w hT)
  obtain ⟨ad, cap, rfl, _⟩ := hT
  obtain ⟨ha, hc, rfl, _⟩ := hH
  have hkb : ((chkP P : Int) == 0) = false := beq_eq_false_iff_ne.2 hk
  generalize chkP P = c at *
  go_enter Tryd.func24, Tryd.ntmps24
  go_wp2_with (go_at_call 11; refine KN.out.mono ?_; rintro e W1 ⟨rfl, hf, b1⟩; have HB1 := hide b1; clear hf b1)
  go_ret2
  exact ⟨rfl, HB1.out⟩
set_option maxRecDepth 100000 in
set_option maxHeartbeats 8000000 in
theorem rlevel_arg (P : List Tk) (H : List Int) (hH2 : H.length ≤ 200) (tv hv : Value) (w : World) (hT : TsAt w tv P) (hH : NsAt w hv H) (hk : chkP P = 0) (hbad : 8 < H.length ∨ hasNeg H = true) :
    Calls Tryd.prog 24 #[tv, hv] w fun e w' => e = .returned (.tuple #[.slice none 0 0, .int .i64 1]) ∧ RowKit.Below w.heap.size w w' := by
  have KN := hide (rend_any P tv w hT)
  obtain ⟨ad, cap, rfl, _⟩ := hT
  obtain ⟨ha, hc, rfl, hhs⟩ := hH
  have HHS := hide hhs
  rw [hk] at KN
  have HBAD := hide hbad
  clear hhs hbad
  generalize eNv P = N at *
  go_enter Tryd.func24, Tryd.ntmps24
  go_wp2_with (go_at_call 11; refine KN.out.mono ?_; rintro e W1 ⟨rfl, hf, b1⟩; have HB1 := hide b1; clear hf b1)
  go_loopw [8, 9] (fun bv j wr => ∃ m : Nat, m ≤ H.length ∧ j = .int .i64 m ∧ bv = .bool (hasNeg (H.take m)) ∧ RowKit.Below w.heap.size w wr) (fun _ j _ => H.length - (intOf j).toNat)
  case atStart => exact ⟨0, by omega, rfl, rfl, HB1.out⟩
  case round =>
    clear HB1
    obtain ⟨m, hm, rfl, rfl, hB⟩ := hrel
    by_cases hlt : m < H.length
    · have hmi : (m : Int) < (H.length : Int) := by omega
      obtain ⟨g, o, rfl, y0⟩ := HHS.out m hlt
      have x0 := (hB.cell (World.block_lt_of_cell? w _ y0)).trans y0
      have hst := neg_take H m hlt
      have HB := hide hB
      clear hB y0
      generalize H.getD m 0 = x at *
      cases hb : hasNeg (H.take m) with
      | true =>
        rw [hb, Bool.true_or] at hst
        go_wp2_with fail
        go_roundw
        case rel => exact ⟨m + 1, by omega, by go_num, by rw [hst], HB.out⟩
        case measure => simp [intOf]; omega
      | false =>
        rw [hb, Bool.false_or] at hst
        by_cases hx : x < 0
        · rw [decide_eq_true hx] at hst
          go_wp2_with fail
          go_roundw
          case rel => exact ⟨m + 1, by omega, by go_num, by rw [hst], HB.out⟩
          case measure => simp [intOf]; omega
        · rw [decide_eq_false hx] at hst
          go_wp2_with fail
          go_roundw
          case rel => exact ⟨m + 1, by omega, by go_num, by rw [hst], HB.out⟩
          case measure => simp [intOf]; omega
    · obtain rfl : m = H.length := by omega
      rw [List.take_length]
      have HB := hide hB
      clear hB
      by_cases h8 : 8 < H.length
      · have h8i : (8 : Int) < (H.length : Int) := by omega
        generalize hasNeg H = b at *
        go_wp2_with fail
        go_ret2
        exact ⟨rfl, HB.out⟩
      · have h8i : ¬ (8 : Int) < (H.length : Int) := by omega
        have hn : hasNeg H = true := HBAD.out.elim (fun h => absurd h h8) id
        rw [hn]
        go_wp2_with fail
        go_ret2
        exact ⟨rfl, HB.out⟩
set_option maxRecDepth 100000 in
set_option maxHeartbeats 8000000 in
theorem rlevel_clash (P : List Tk) (H : List Int) (tv hv : Value) (w : World) (hT : TsAt w tv P) (hH : NsAt w hv H) (hk : chkP P = 0) (h8 : ¬ 8 < H.length) (hn : hasNeg H = false) (hcl : ¬ NoClash P H P.length) :
    Calls Tryd.prog 24 #[tv, hv] w fun e w' => e = .returned (.tuple #[.slice none 0 0, .int .i64 17]) ∧ RowKit.Below w.heap.size w w' := by
  have KN := hide (rend_any P tv w hT)
  have hg := (chk_good hk).1
  have h60 := hg.n60
  have HG := hide hg
  obtain ⟨ad, cap, rfl, hall⟩ := hT
  obtain ⟨ha, hc, rfl, hhs⟩ := hH
  have HHS := hide hhs
  have HALL := hide hall
  have HCL := hide hcl
  have h8i : ¬ (8 : Int) < (H.length : Int) := by omega
  rw [hk] at KN
  clear hhs hall hcl hg
  generalize eNv P = N at *
  go_enter Tryd.func24, Tryd.ntmps24
  go_wp2_with (go_at_call 11; refine KN.out.mono ?_; rintro e W1 ⟨rfl, hf, b1⟩; have HB1 := hide b1; clear hf b1)
  go_loopw [8, 9] (fun bv j wr => ∃ m : Nat, m ≤ H.length ∧ j = .int .i64 m ∧ bv = .bool false ∧ RowKit.Below w.heap.size w wr) (fun _ j _ => H.length - (intOf j).toNat)
  case atStart => exact ⟨0, by omega, rfl, rfl, HB1.out⟩
  case round =>
    clear HB1
    obtain ⟨m, hm, rfl, rfl, hB⟩ := hrel
    by_cases hlt : m < H.length
    · have hmi : (m : Int) < (H.length : Int) := by omega
      obtain ⟨g, o, rfl, y0⟩ := HHS.out m hlt
      have x0 := (hB.cell (World.block_lt_of_cell? w _ y0)).trans y0
      have hx0 : 0 ≤ H.getD m 0 := by
        have h1 : H.getD m 0 = H[m] := by rw [List.getD_eq_getElem?_getD, List.getElem?_eq_getElem hlt]; rfl
        rw [h1]
        have := List.any_eq_false.1 (show H.any (fun n => decide (n < 0)) = false from hn) H[m] (List.getElem_mem hlt)
        simpa using this
      have HB := hide hB
      clear hB y0
      generalize H.getD m 0 = x at *
      have hx1 : ¬ x < 0 := by omega
      go_wp2_with fail
      go_roundw
      case rel => exact ⟨m + 1, by omega, by go_num, by first | rfl | simp [hx1], HB.out⟩
      case measure => simp [intOf]; omega
    · obtain rfl : m = H.length := by omega
      have HB := hide hB
      clear hB
      go_wp2_with fail
      go_loopw [10] (fun j wr => ∃ m : Nat, m ≤ P.length ∧ j = .int .i64 m ∧ NoClash P H m ∧ RowKit.Below w.heap.size w wr) (fun j _ => P.length - (intOf j).toNat)
      case atStart => exact ⟨0, by omega, rfl, fun i hi => absurd hi (Nat.not_lt_zero _), HB.out⟩
      case round =>
        clear HB
        obtain ⟨m, hm, rfl, hnc, hB⟩ := hrel
        by_cases hlt : m < P.length
        · have hmi : (m : Int) < (P.length : Int) := by omega
          have HB := hide hB
          have HNC := hide hnc
          clear hB hnc
          go_wp2_with fail
          go_loopw [11] (fun j wr => ∃ r : Nat, r ≤ (tk P m).uses.length ∧ j = .int .i64 r ∧ (∀ k, k < r → (tk P m).uses.getD k 0 ≤ amt H k) ∧ RowKit.Below w.heap.size w wr) (fun j _ => (tk P m).uses.length - (intOf j).toNat)
          case atStart => exact ⟨0, by omega, rfl, fun k hk => absurd hk (Nat.not_lt_zero _), HB.out⟩
          case round =>
            clear HB
            obtain ⟨r, hr, rfl, hle, hB⟩ := hrel
            obtain ⟨g, o, lv, uv, rfl, y0, y1, y2, y3, hls, hus⟩ := HALL.out m hlt
            obtain ⟨ua, uc, rfl, hul⟩ := hus
            have x3 := (hB.cell (World.block_lt_of_cell? w _ y3)).trans y3
            have hcnt := (HG.out.cnt m hlt).2
            by_cases hrl : r < (tk P m).uses.length
            · have hri : (r : Int) < ((tk P m).uses.length : Int) := by omega
              obtain ⟨ug, uo, rfl, z0⟩ := hul r hrl
              have u0 := (hB.cell (World.block_lt_of_cell? w _ z0)).trans z0
              have hnx : (tk P m).uses.getD r 0 ≤ amt H r → ∀ k, k < r + 1 → (tk P m).uses.getD k 0 ≤ amt H k := fun h k hk => by
                by_cases e : k = r
                · subst e; exact h
                · exact hle k (by omega)
              have HNX := hide hnx
              by_cases hrH : r < H.length
              · have hrHi : (r : Int) < (H.length : Int) := by omega
                have hrHn : ¬ (H.length : Int) ≤ (r : Int) := by omega
                have dd1 : decide ((H.length : Int) ≤ (r : Int)) = false := decide_eq_false hrHn
                have dd2 : decide ((r : Int) < (H.length : Int)) = true := decide_eq_true hrHi
                have dn1 : decide (H.length ≤ r) = false := decide_eq_false (by omega)
                have dn2 : decide (r < H.length) = true := decide_eq_true hrH
                obtain ⟨hg', ho', rfl, v0⟩ := HHS.out r hrH
                have k0 := (hB.cell (World.block_lt_of_cell? w _ v0)).trans v0
                rw [show H.getD r 0 = amt H r from rfl] at k0
                have HB := hide hB
                clear y0 y1 y2 y3 z0 v0 hul hls hB hnx hle
                generalize hu : (tk P m).uses.getD r 0 = u at *
                generalize hhh : amt H r = hh at *
                generalize hun : (tk P m).uses.length = un at *
                by_cases hd : hh < u
                · have dd3 : decide (hh < u) = true := decide_eq_true hd
                  go_wp2_with fail
                  go_quiet (fail)
                  go_wp2_with fail
                  go_ret2
                  exact ⟨rfl, by repeat (first | exact HB.out | apply bdr)⟩
                · have dd3 : decide (hh < u) = false := decide_eq_false hd
                  have HN2 := hide (HNX.out (by omega))
                  go_wp2_with fail
                  go_quiet (fail)
                  go_wp2_with fail
                  go_roundw
                  case rel => exact ⟨r + 1, by omega, by go_num, HN2.out, by repeat (first | exact HB.out | apply bdr)⟩
                  case measure => simp [intOf]; omega
              · have hrHn : (H.length : Int) ≤ (r : Int) := by omega
                have hrHi : ¬ (r : Int) < (H.length : Int) := by omega
                have dd1 : decide ((H.length : Int) ≤ (r : Int)) = true := decide_eq_true hrHn
                have dd2 : decide ((r : Int) < (H.length : Int)) = false := decide_eq_false hrHi
                have dn1 : decide (H.length ≤ r) = true := decide_eq_true (by omega)
                have dn2 : decide (r < H.length) = false := decide_eq_false hrH
                have ha0 : amt H r = 0 := amt_hout (by omega)
                have HB := hide hB
                have HA0 := hide ha0
                clear y0 y1 y2 y3 z0 hul hls hB hnx hle ha0
                generalize hu : (tk P m).uses.getD r 0 = u at *
                generalize hun : (tk P m).uses.length = un at *
                by_cases hd : 0 < u
                · have dd3 : decide (0 < u) = true := decide_eq_true hd
                  go_wp2_with fail
                  go_quiet (fail)
                  go_wp2_with fail
                  go_ret2
                  exact ⟨rfl, by repeat (first | exact HB.out | apply bdr)⟩
                · have dd3 : decide (0 < u) = false := decide_eq_false hd
                  have HN2 := hide (HNX.out (by rw [HA0.out]; omega))
                  go_wp2_with fail
                  go_quiet (fail)
                  go_wp2_with fail
                  go_roundw
                  case rel => exact ⟨r + 1, by omega, by go_num, HN2.out, by repeat (first | exact HB.out | apply bdr)⟩
                  case measure => simp [intOf]; omega
            · obtain rfl : r = (tk P m).uses.length := by omega
              have HB := hide hB
              have HN2 : Hid (NoClash P H (m + 1)) := fun i hi => (by
                by_cases e : i = m
                · subst e; exact hle
                · exact HNC.out i (by omega))
              clear y0 y1 y2 y3 hul hls hB hle
              go_wp2_with fail
              go_roundw
              case rel => exact ⟨m + 1, by omega, by go_num, HN2.out, HB.out⟩
              case measure => simp [intOf]; omega
        · obtain rfl : m = P.length := by omega
          exact absurd hnc HCL.out
theorem rlevel_any (P : List Tk) (H : List Int) (hH2 : H.length ≤ 200) (tv hv : Value) (w : World) (hT : TsAt w tv P) (hH : NsAt w hv H) :
    Calls Tryd.prog 24 #[tv, hv] w fun e w' => ∃ u, e = .returned (.tuple #[u, .int .i64 (lvE P H)]) ∧ SsV w' P.length (lvS P H) (lvE P H) u ∧ RowKit.Below w.heap.size w w' := by
  by_cases hk : chkP P = 0
  · by_cases hb : 8 < H.length ∨ hasNeg H = true
    · have hE : lvE P H = 1 := by unfold lvE; rw [if_pos hk, if_pos hb]
      rw [hE]
      exact (rlevel_arg P H hH2 tv hv w hT hH hk hb).mono fun e w' ⟨h1, h2⟩ => ⟨_, h1, ⟨(fun h => by cases h), fun _ => rfl⟩, h2⟩
    · have h8 : ¬ 8 < H.length := fun h => hb (.inl h)
      have hn : hasNeg H = false := by
        cases e : hasNeg H with
        | true => exact absurd (.inr e) hb
        | false => rfl
      by_cases hc : NoClash P H P.length
      · have hE : lvE P H = 0 := by unfold lvE; rw [if_pos hk, if_neg hb, if_pos hc]
        rw [hE]
        exact (rlevel_yes P H tv hv w hT hH hk h8 hn hc).mono fun e w' ⟨u, h1, h2, h3⟩ => ⟨u, h1, ⟨fun _ => h2, fun h => absurd rfl h⟩, h3⟩
      · have hE : lvE P H = 17 := by unfold lvE; rw [if_pos hk, if_neg hb, if_neg hc]
        rw [hE]
        exact (rlevel_clash P H tv hv w hT hH hk h8 hn hc).mono fun e w' ⟨h1, h2⟩ => ⟨_, h1, ⟨(fun h => by cases h), fun _ => rfl⟩, h2⟩
  · have hE : lvE P H = chkP P := by unfold lvE; rw [if_neg hk]
    rw [hE]
    exact (rlevel_chk P H tv hv w hT hH hk).mono fun e w' ⟨h1, h2⟩ => ⟨_, h1, ⟨fun h => absurd h hk, fun _ => rfl⟩, h2⟩
theorem lvE_60 {P : List Tk} {H : List Int} (h : lvE P H = 0) : P.length ≤ 60 := by
  unfold lvE at h
  by_cases hk : chkP P = 0
  · exact chk_60 hk
  · rw [if_neg hk] at h; exact absurd h hk
set_option maxRecDepth 100000 in
set_option maxHeartbeats 4000000 in
theorem levels_walk (P : List Tk) (H : List Int) (tv hv : Value) (w : World) (hd : Hd w) (hT : TsAt w tv P) (hH : NsAt w hv H) :
    Calls Tryd.prog 4 #[tv, hv] w fun e w' => e = .returned (.bool true) ∧ RowKit.Below w.heap.size w w' := by
  by_cases h1 : 200 < P.length
  · have h1i : (200 : Int) < (P.length : Int) := by omega
    obtain ⟨ad, cap, rfl, _⟩ := hT
    obtain ⟨ha, hc, rfl, _⟩ := hH
    clear hd
    go_enter Tryd.func4, Tryd.ntmps4
    go_wp2_with fail
    go_ret
    exact ⟨rfl, RowKit.Below.refl _ _⟩
  have h1i : ¬ (200 : Int) < (P.length : Int) := by omega
  by_cases h2 : 200 < H.length
  · have h2i : (200 : Int) < (H.length : Int) := by omega
    obtain ⟨ad, cap, rfl, _⟩ := hT
    obtain ⟨ha, hc, rfl, _⟩ := hH
    clear hd
    go_enter Tryd.func4, Tryd.ntmps4
    go_wp2_with fail
    go_ret
    exact ⟨rfl, RowKit.Below.refl _ _⟩
  have h2i : ¬ (200 : Int) < (H.length : Int) := by omega
  have KA := hide (plevel_any P H tv hv w hd hT hH)
  have KB := hide (fun W (hb : RowKit.Below w.heap.size w W) => rlevel_any P H (by omega) tv hv W (hT.below hb) (hH.below hb))
  have KS := hide (fun u v W (h : EqS W u v) => eqS_any u v W h)
  have K60 := hide (fun h : lvE P H = 0 => lvE_60 h)
  obtain ⟨ad, cap, rfl, _⟩ := hT
  obtain ⟨ha, hc, rfl, _⟩ := hH
  clear hd
  generalize lvE P H = c at *
  go_enter Tryd.func4, Tryd.ntmps4
  go_wp2_with (first
    | (go_at_call 23; refine KA.out.mono ?_; rintro e W1 ⟨u1, rfl, hs, hf, b1⟩; have HB1 := hide b1; have HU1 := hide (spV_ss hs); clear hs hf b1)
    | (go_at_call 24; refine (KB.out _ HB1.out).mono ?_; rintro e W2 ⟨u2, rfl, hs, b2⟩; have HB2 := hide (HB1.out.trans (b2.mono HB1.out.size)); have HE2 : Hid (EqS W2 u1 u2) := ssV_eq (fun h => by have := K60.out h; omega) (HU1.out.step b2) hs; clear hs b2)
    | (go_at_call 21; refine (KS.out _ _ _ HE2.out).mono ?_; rintro e Y ⟨rfl, hx⟩))
  go_ret
  exact ⟨rfl, HB2.out.trans (hx.mono HB2.out.size)⟩
end Go.Proofs.YtjmjabdokckdlaaDoor
