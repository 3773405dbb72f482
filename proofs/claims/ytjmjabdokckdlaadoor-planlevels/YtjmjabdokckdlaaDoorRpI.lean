/- PlanTimes, walked. -/
import Derived.Test.YtjmjabdokckdlaaDoorRpH
namespace Go.Proofs.YtjmjabdokckdlaaDoor
open Go.RowKit Go.Shelf
set_option linter.unusedVariables false
set_option linter.unusedSimpArgs false

theorem eNv_bd (P : List Tk) (hF : chkP P = 0 → Fit P) : 0 ≤ eNv P ∧ eNv P ≤ 1000000000 := by
  unfold eNv
  by_cases h : chkP P = 0
  · rw [if_pos h]; exact (hF h).bd
  · rw [if_neg h]; exact ⟨Int.le_refl _, by decide⟩
/-- critical ones and paths, of both sides -/
def CrU (W : World) (P : List Tk) (u v : Value) : Prop := EqI W u v
theorem chk_60 {P : List Tk} (h : chkP P = 0) : P.length ≤ 60 := (chk_good h).1.n60
theorem latE_60 {P : List Tk} {b : Int} (h : latE P b = 0) : P.length ≤ 60 := by
  unfold latE at h
  by_cases hk : chkP P = 0
  · exact chk_60 hk
  · rw [if_neg hk] at h; exact absurd h hk
theorem pcrit_both (P : List Tk) (v : Value) (w : World) (hd : Hd w) (hv : TsAt w v P) :
    Calls Tryd.prog 15 #[v] w fun e w' => ∃ u, e = .returned (.tuple #[u, .int .i64 (chkP P)]) ∧ (chkP P = 0 → CrV w w' P u) ∧ (chkP P ≠ 0 → u = .slice none 0 0) ∧ RowKit.Below w.heap.size w w' := by
  by_cases hk : chkP P = 0
  · exact (pcrit_any P v w hd hv).mono fun e w' ⟨u, h1, h2, h3⟩ => ⟨u, h1, h2, fun h => absurd hk h, h3⟩
  · exact (pcrit_no P v w hd hv hk).mono fun e w' ⟨h1, h2⟩ => ⟨_, h1, fun h => absurd h hk, fun _ => rfl, h2⟩
theorem ppath_both (P : List Tk) (v : Value) (w : World) (hd : Hd w) (hv : TsAt w v P) :
    Calls Tryd.prog 17 #[v] w fun e w' => ∃ u, e = .returned (.tuple #[u, .int .i64 (chkP P)]) ∧ (chkP P = 0 → PaV w w' P u) ∧ (chkP P ≠ 0 → u = .slice none 0 0) ∧ RowKit.Below w.heap.size w w' := by
  by_cases hk : chkP P = 0
  · exact (ppath_any P v w hd hv).mono fun e w' ⟨u, h1, h2, h3⟩ => ⟨u, h1, h2, fun h => absurd hk h, h3⟩
  · exact (ppath_no P v w hd hv hk).mono fun e w' ⟨h1, h2⟩ => ⟨_, h1, fun h => absurd h hk, fun _ => rfl, h2⟩
set_option maxRecDepth 100000 in
set_option maxHeartbeats 8000000 in
theorem times_walk (P : List Tk) (b : Int) (hb : -9223372036854775808 ≤ b ∧ b ≤ 9223372036854775807) (v : Value) (w : World) (hd : Hd w) (hv : TsAt w v P) :
    Calls Tryd.prog 3 #[v, .int .i64 b] w fun e w' => e = .returned (.bool true) ∧ RowKit.Below w.heap.size w w' := by
  by_cases h1 : 200 < P.length
  · have h1i : (200 : Int) < (P.length : Int) := by omega
    obtain ⟨ad, cap, rfl, _⟩ := hv
    clear hd
    go_enter Tryd.func3, Tryd.ntmps3
    go_wp2_with fail
    go_ret
    exact ⟨rfl, RowKit.Below.refl _ _⟩
  have h1i : ¬ (200 : Int) < (P.length : Int) := by omega
  have KA := hide (pearly_any P v w hd hv)
  have KB := hide (fun W (hb : RowKit.Below w.heap.size w W) => rearly_any P v W (hv.below hb))
  have KN := hide (fun W (hb : RowKit.Below w.heap.size w W) => pend_any P v W (hd.later hb) (hv.below hb))
  have KK := hide (fun W (hb : RowKit.Below w.heap.size w W) => rend_any P v W (hv.below hb))
  have KP := hide (fun (n m : Int) (hm : 2 ≤ m ∧ m ≤ 100) (W : World) => (lpick_any n m hm W).mono fun e w' ⟨h1, h2⟩ => (⟨lpk n m, h1, rfl, (lpk_bd n m hm).1, (lpk_bd n m hm).2, h2⟩ : ∃ r : Int, e = Ending.returned (.int .i64 r) ∧ r = lpk n m ∧ 0 ≤ r ∧ r ≤ 100 ∧ w' = W))
  have KC := hide (fun (b : Int) W (hb : RowKit.Below w.heap.size w W) => plate_any P b v W (hd.later hb) (hv.below hb))
  have KD := hide (fun (b : Int) W (hb : RowKit.Below w.heap.size w W) => rlate_any P b v W (hv.below hb))
  have KQ := hide (fun W (hb : RowKit.Below w.heap.size w W) => pcrit_both P v W (hd.later hb) (hv.below hb))
  have KR := hide (fun W (hb : RowKit.Below w.heap.size w W) => rcrit_any P v W (hv.below hb))
  have KX := hide (fun W (hb : RowKit.Below w.heap.size w W) => ppath_both P v W (hd.later hb) (hv.below hb))
  have KY := hide (fun W (hb : RowKit.Below w.heap.size w W) => rpath_any P v W (hv.below hb))
  have KG := hide (fun W (hb : RowKit.Below w.heap.size w W) => pcheck_any P v W (hd.later hb) (hv.below hb))
  have KH := hide (fun W (hb : RowKit.Below w.heap.size w W) => rcheck_any P v W (hv.below hb))
  have KS := hide (fun u v W (h : EqS W u v) => eqS_any u v W h)
  have KI := hide (fun u v W (h : EqI W u v) => eqI_any u v W h)
  obtain ⟨ad, cap, rfl, _⟩ := hv
  clear hd
  by_cases hpk : lpk b 2 = 0
  all_goals
    go_enter Tryd.func3, Tryd.ntmps3
    go_wp2_with (first
      | (go_at_call 8; refine KA.out.mono ?_; rintro e W1 ⟨u1, rfl, hs, hf, b1⟩; have HB1 := hide b1; have HU1 := hide (spV_ss hs); have HF := hide hf; have hnb := eNv_bd P hf; clear hs hf b1)
      | (go_at_call 9; refine (KB.out _ HB1.out).mono ?_; rintro e W2 ⟨u2, rfl, hs, hf, b2⟩; have HB2 := hide (HB1.out.trans (b2.mono HB1.out.size)); have HE2 : Hid (EqS W2 u1 u2) := ssV_eq (fun h => by have := chk_60 h; omega) (HU1.out.step b2) (spV_ss hs); clear hs hf b2)
      | (go_at_call 10; refine (KN.out _ HB2.out).mono ?_; rintro e W3 ⟨rfl, b3⟩; have HB3 := hide (HB2.out.trans (b3.mono HB2.out.size)); have HE3 := hide (HE2.out.below b3); clear b3)
      | (go_at_call 11; refine (KK.out _ HB3.out).mono ?_; rintro e W4 ⟨rfl, hf, b4⟩; have HB4 := hide (HB3.out.trans (b4.mono HB3.out.size)); have HE4 := hide (HE3.out.below b4); clear b4 hf)
      | (go_at_call 12; refine (KP.out _ _ (by decide) _).mono ?_; rintro e X ⟨r, rfl, hr, hr0, hr1, rfl⟩; first | (rw [hpk] at hr; subst hr) | (rw [← hr] at hpk; have hrn : (r == 0) = false := beq_eq_false_iff_ne.2 hpk; have HR := hide hr; clear hr) | (have HR2 := hide hr; clear hr))
      | (go_at_call 13; refine (KC.out _ _ HB4.out).mono ?_; rintro e W5 ⟨u5, rfl, hs, b5⟩; have HB5 := hide (HB4.out.trans (b5.mono HB4.out.size)); have HE5 := hide (HE4.out.below b5); have HU5 := hide (spV_ss hs); clear hs b5)
      | (go_at_call 14; refine (KD.out _ _ HB5.out).mono ?_; rintro e W6 ⟨u6, rfl, hs, b6⟩; have HB6 := hide (HB5.out.trans (b6.mono HB5.out.size)); have HE6 := hide (HE5.out.below b6); have HL6 : Hid (EqS W6 u5 u6) := ssV_eq (fun h => by have := latE_60 h; omega) (HU5.out.step b6) hs; clear hs b6)
      | (go_at_call 15; refine (KQ.out _ HB6.out).mono ?_; rintro e W7 ⟨u7, rfl, hs, hsn, b7⟩; have HB7 := hide (HB6.out.trans (b7.mono HB6.out.size)); have HE7 := hide (HE6.out.below b7); have HL7 := hide (HL6.out.below b7); have HU7 := hide (And.intro hs hsn); clear hs hsn b7)
      | (go_at_call 16; refine (KR.out _ HB7.out).mono ?_; rintro e W8 ⟨u8, rfl, hs, hsn, b8⟩; have HB8 := hide (HB7.out.trans (b8.mono HB7.out.size)); have HE8 := hide (HE7.out.below b8); have HL8 := hide (HL7.out.below b8); have HC8 : Hid (EqI W8 u7 u8) := (by
          by_cases hk : chkP P = 0
          · exact crV_eq ((HU7.out.1 hk).step b8) (hs hk) (chk_60 hk)
          · rw [HU7.out.2 hk, hsn hk]; exact eqI_nil _); clear hs hsn b8)
      | (go_at_call 17; refine (KX.out _ HB8.out).mono ?_; rintro e W9 ⟨u9, rfl, hs, hsn, b9⟩; have HB9 := hide (HB8.out.trans (b9.mono HB8.out.size)); have HE9 := hide (HE8.out.below b9); have HL9 := hide (HL8.out.below b9); have HC9 := hide (HC8.out.below b9); have HU9 := hide (And.intro hs hsn); clear hs hsn b9)
      | (go_at_call 18; refine (KY.out _ HB9.out).mono ?_; rintro e W10 ⟨u10, rfl, hs, hsn, b10⟩; have HB10 := hide (HB9.out.trans (b10.mono HB9.out.size)); have HE10 := hide (HE9.out.below b10); have HL10 := hide (HL9.out.below b10); have HC10 := hide (HC9.out.below b10); have HP10 : Hid (EqI W10 u9 u10) := (by
          by_cases hk : chkP P = 0
          · exact paV_eq ((HU9.out.1 hk).step b10) (hs hk) (chk_60 hk)
          · rw [HU9.out.2 hk, hsn hk]; exact eqI_nil _); have HBW : Hid (RowKit.Below W10.heap.size W10 W10) := RowKit.Below.refl _ _; clear hs hsn b10)
      | (go_at_call 19; refine (KG.out _ HB10.out).mono ?_; rintro e X1 ⟨rfl, hx⟩; have HX1 := hide hx; clear hx)
      | (go_at_call 20; refine (KH.out _ (HB10.out.trans (HX1.out.mono HB10.out.size))).mono ?_; rintro e X2 ⟨rfl, hx⟩; have HXX := hide (HX1.out.trans (hx.mono HX1.out.size)); clear hx)
      | (go_at_call 21; refine (KS.out _ _ _ (by first | exact HE10.out.below HXX.out | exact HL10.out.below HXX.out)).mono ?_; rintro e Y ⟨rfl, hx⟩; have HXX := hide (HXX.out.trans (hx.mono HXX.out.size)); clear hx)
      | (go_at_call 22; refine (KI.out _ _ _ (by first | exact HC10.out.below HXX.out | exact HP10.out.below HXX.out)).mono ?_; rintro e Y ⟨rfl, hx⟩; have HXX := hide (HXX.out.trans (hx.mono HXX.out.size)); clear hx))
    go_ret
    exact ⟨rfl, HB10.out.trans (HXX.out.mono HB10.out.size)⟩
end Go.Proofs.YtjmjabdokckdlaaDoor
