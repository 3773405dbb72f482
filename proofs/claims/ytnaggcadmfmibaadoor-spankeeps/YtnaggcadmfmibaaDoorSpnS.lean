/- package span: (*grid).narrow. -/
import Derived.Test.YtnaggcadmfmibaaDoorSpnR
namespace Go.Proofs.YtnaggcadmfmibaaDoor
open Go.RowKit
set_option linter.unusedVariables false
set_option linter.unusedSimpArgs false

theorem FT.laterB {w w' : World} {B : Nat} (h : FT w) (hB : 2 ≤ B) (hb : Below B w w') : FT w' := by
  refine ⟨?_, Nat.lt_of_lt_of_le h.2.1 hb.size, fun i k hi hk => (hb.cell (p := ⟨1, i * 13 + k, none⟩) (show 1 < B by omega)).trans (h.2.2 i k hi hk)⟩
  have := h.1
  unfold Hd at *
  rw [hb.cell (show 0 < B by omega)]
  exact this
/-- what narrow has kept -/
structure NI (n : Nat) (N0 N : Nat → Nat → Nat) (ls : Bool) : Prop where
  mat : Mat n N
  win : Within n N N0
  low : ∀ M, Closed n M → Within n M N0 → Within n M N
  tt : ls = true → tot N n n < tot N0 n n
  same : ls = false → ∀ a b, a < n → b < n → N a b = N0 a b
def Q3 (N : Nat → Nat → Nat) (a b c : Nat) : Prop := Sub (N a c) (Jn (N a b) (N b c))
theorem NI.start {n : Nat} {N : Nat → Nat → Nat} (h : Mat n N) : NI n N N false :=
  ⟨h, fun _ _ _ _ => Sub.refl _, fun M _ hw => hw, (fun h => by cases h), fun _ a b _ _ => rfl⟩
theorem NI.next {n : Nat} {N0 N : Nat → Nat → Nat} {ls : Bool} (h : NI n N0 N ls) (h0 : Mat n N0) {i j k : Nat} (hi : i < n) (hj : j < n) (hk : k < n) (hne : N i k &&& Jn (N i j) (N j k) ≠ N i k) :
    NI n N0 (upd2 N i k (N i k &&& Jn (N i j) (N j k))) true := by
  have hv := and_sub_left (N i k) (Jn (N i j) (N j k))
  have hw := upd2_within h.mat hi hk hv
  refine ⟨h.mat.step hi hk hv, fun a b ha hb => (hw a b ha hb).trans (h.win a b ha hb), fun M hM hm => within_step hM (h.low M hM hm) hi hj hk, fun _ => ?_, (fun h => by cases h)⟩
  have h1 := upd2_tot h.mat hi hk hv hne
  have h2 : tot N n n ≤ tot N0 n n := tot_le n (fun a b ha hb => (h.win a b ha hb).le)
  omega
theorem upd_swap (N : Nat → Nat → Nat) (i k l : Nat) (h : i = k → Bk l = l) (a b : Nat) : upd (upd N i k l) k i (Bk l) a b = upd2 N i k l a b := by
  unfold upd upd2
  by_cases h1 : a = k ∧ b = i
  · rw [if_pos h1]
    by_cases h2 : a = i ∧ b = k
    · rw [if_pos h2, h (h2.1.symm.trans h1.1)]
    · rw [if_neg h2, if_pos h1]
  · rw [if_neg h1]
    by_cases h2 : a = i ∧ b = k
    · rw [if_pos h2, if_pos h2]
    · rw [if_neg h2, if_neg h2, if_neg h1]
theorem upd_swap' (N : Nat → Nat → Nat) (i k l : Nat) (a b : Nat) : upd (upd N k i (Bk l)) i k l a b = upd2 N i k l a b := rfl
theorem upd_one (N : Nat → Nat → Nat) (r l : Nat) (a b : Nat) : upd N r r l a b = upd2 N r r l a b := by
  unfold upd upd2
  by_cases h : a = r ∧ b = r
  · rw [if_pos h, if_pos h]
  · rw [if_neg h, if_neg h, if_neg h]
theorem upd_two (N : Nat → Nat → Nat) (r l : Nat) (a b : Nat) : upd (upd N r r l) r r l a b = upd2 N r r l a b := by
  rw [← upd_one]
  unfold upd
  by_cases h : a = r ∧ b = r
  · simp only [if_pos h]
  · simp only [if_neg h]
set_option maxRecDepth 100000 in
set_option maxHeartbeats 16000000 in
theorem narrow_any (B n : Nat) (N0 : Nat → Nat → Nat) (w : World) (hf : FT w) (h2B : 2 ≤ B) (h1 : 1 ≤ n) (h6 : n ≤ 6) (hm : Mat n N0) (h : Gr B n N0 w) :
    Calls Tryd.prog 34 #[.pointer (some ⟨B, 0, none⟩)] w fun e w' => ∃ (N : Nat → Nat → Nat) (ls : Bool), e = .returned (.bool ls) ∧ Gr B n N w' ∧ Below B w w' ∧ NI n N0 N ls ∧
      (ls = false → ∀ a b c, a < n → b < n → c < n → Q3 N0 a b c) := by
  have HM := hide hm
  have HF := hide hf
  have H0 := hide h
  have hs := h.size
  clear hm hf h
  go_enter Tryd.func34, Tryd.ntmps34
  go_wp2_with fail
  clear hs
  go_loopw [3, 12] (fun l i wr => ∃ (r : Nat) (N : Nat → Nat → Nat) (ls : Bool), r ≤ n ∧ i = .int .i64 r ∧ l = .bool ls ∧ Gr B n N wr ∧ Below B w wr ∧ NI n N0 N ls ∧ (ls = false → ∀ a b c, a < r → b < n → c < n → Q3 N0 a b c)) (fun _ i _ => n - (intOf i).toNat)
  case atStart => exact ⟨0, N0, false, by omega, rfl, rfl, H0.out, Below.refl _ _, NI.start HM.out, fun _ a b c ha => absurd ha (Nat.not_lt_zero _)⟩
  case round =>
    clear H0
    obtain ⟨r, N, ls, hr, rfl, rfl, hg, hb, hni, hq⟩ := hrel
    have HG := hide hg
    have HB := hide hb
    have HN := hide hni
    have HQ := hide hq
    have hs := hg.size
    clear hg hb hni hq
    by_cases hlt : r < n
    · have hri : (r : Int) < n := by omega
      have hri6 : (r : Int) < 6 := by omega
      go_wp2_with fail
      clear hs
      go_loopw [3, 19] (fun l i wr => ∃ (s : Nat) (N : Nat → Nat → Nat) (ls : Bool), s ≤ n ∧ i = .int .i64 s ∧ l = .bool ls ∧ Gr B n N wr ∧ Below B w wr ∧ NI n N0 N ls ∧ (ls = false → (∀ a b c, a < r → b < n → c < n → Q3 N0 a b c) ∧ ∀ b c, b < s → c < n → Q3 N0 r b c)) (fun _ i _ => n - (intOf i).toNat)
      case atStart => exact ⟨0, N, ls, by omega, rfl, rfl, HG.out, HB.out, HN.out, fun h => ⟨HQ.out h, fun b c hb => absurd hb (Nat.not_lt_zero _)⟩⟩
      case round =>
        clear HG HB HN HQ
        obtain ⟨s, N, ls, hsn, rfl, rfl, hg, hb, hni, hq⟩ := hrel
        have HG := hide hg
        have HB := hide hb
        have HN := hide hni
        have HQ := hide hq
        have hs := hg.size
        clear hg hb hni hq
        by_cases hst : s < n
        · have hsi : (s : Int) < n := by omega
          have hsi6 : (s : Int) < 6 := by omega
          go_wp2_with fail
          clear hs
          go_loopw [3, 26] (fun l i wr => ∃ (m : Nat) (N : Nat → Nat → Nat) (ls : Bool), m ≤ n ∧ i = .int .i64 m ∧ l = .bool ls ∧ Gr B n N wr ∧ Below B w wr ∧ NI n N0 N ls ∧ (ls = false → (∀ a b c, a < r → b < n → c < n → Q3 N0 a b c) ∧ (∀ b c, b < s → c < n → Q3 N0 r b c) ∧ ∀ c, c < m → Q3 N0 r s c)) (fun _ i _ => n - (intOf i).toNat)
          case atStart => exact ⟨0, N, ls, by omega, rfl, rfl, HG.out, HB.out, HN.out, fun h => ⟨(HQ.out h).1, (HQ.out h).2, fun c hc => absurd hc (Nat.not_lt_zero _)⟩⟩
          case round =>
            clear HG HB HN HQ
            obtain ⟨m, N, ls, hmn, rfl, rfl, hg, hb, hni, hq⟩ := hrel
            have HG := hide hg
            have HB := hide hb
            have HN := hide hni
            have HQ := hide hq
            by_cases hmt : m < n
            · have hmi : (m : Int) < n := by omega
              have hmi6 : (m : Int) < 6 := by omega
              obtain ⟨c1, f1⟩ := hg.at r m (by omega) (by omega)
              obtain ⟨c2, f2⟩ := hg.at r s (by omega) (by omega)
              obtain ⟨c3, f3⟩ := hg.at s m (by omega) (by omega)
              have l1 := hni.mat.lt r m hlt hmt
              have l2 := hni.mat.lt r s hlt hst
              have l3 := hni.mat.lt s m hst hmt
              have HFT := hide (fun q => (HF.out.laterB h2B hb).laterB h2B (below_dr (Below.refl B wr) q))
              have KJ := hide (fun q => join_any (N r s) (N s m) (wr.drewN q) (HFT.out q))
              have HJ := hide (show joinN (N r s) (N s m) = Jn (N r s) (N s m) from rfl)
              rw [HJ.out] at KJ
              have HA := hide (i64_and_nat' (N r m) (Jn (N r s) (N s m)) l1 (Jn_lt _ _))
              have HX := hide (fun h => hni.next HM.out hlt hst hmt h)
              have HV := hide (and_sub_left (N r m) (Jn (N r s) (N s m)))
              have HD := hide (fun e : r = m => Bk_eq ((and_sub_left (N r m) (Jn (N r s) (N s m))).trans (e ▸ hni.mat.eq r hlt)))
              have HQ3 := hide (fun (h : N r m &&& Jn (N r s) (N s m) = N r m) (hf : ls = false) => (show Q3 N0 r s m from by
                unfold Q3
                rw [← hni.same hf r m hlt hmt, ← hni.same hf r s hlt hst, ← hni.same hf s m hst hmt, ← h]
                exact and_sub_right _ _))
              clear hg hb hni hq HJ HFT
              go_wp2_with fail
              go_quiet (first | (go_at_call 54; exact Calls.quiet_of_same (KJ.out _)))
              rw [HA.out]
              have HGq := hide (show Gr B n N (wr.drewN nq) from HG.out)
              have HBq := hide (below_dr HB.out nq)
              clear HG HB HA KJ c2 c3 f2 f3 l2 l3
              generalize hLe : N r m &&& Jn (N r s) (N s m) = l at *
              generalize hv1 : N r m = v1 at *
              clear hLe
              generalize wr.drewN nq = W1 at *
              obtain ⟨c1, f1⟩ := HGq.out.at r m (by omega) (by omega)
              rw [hv1] at c1
              have HV1 := hide hv1
              clear hv1
              by_cases hne : l = v1
              · have hnei : (l : Int) = v1 := by omega
                have HQn := hide (HQ3.out hne)
                clear HX HV HD HQ3 hne
                go_wp2
                go_roundw
                case rel =>
                  exact ⟨m + 1, N, ls, by omega, by go_num, rfl, HGq.out, HBq.out, HN.out, fun h => ⟨(HQ.out h).1, (HQ.out h).2.1, fun c hc => by
                    rcases Nat.lt_or_ge c m with hl | hl
                    · exact (HQ.out h).2.2 c hl
                    · have : c = m := by omega
                      subst this; exact HQn.out h⟩⟩
                case measure => simp [intOf]; omega
              · have hnei : ¬ (l : Int) = v1 := by omega
                have HNI := hide (HX.out hne)
                have hll : l < 8192 := Nat.lt_of_le_of_lt HV.out.le l1
                have KB := hide (fun W => cback_any l W hll)
                have HK := hide (show bkN l 13 = Bk l from rfl)
                rw [HK.out] at KB
                clear HK HX HQ3 hne
                obtain ⟨c2, f2⟩ := HGq.out.at m r (by omega) (by omega)
                go_wp2_with fail
                by_cases hrm : r = m
                · subst hrm
                  have hBl := HD.out rfl
                  rw [hBl] at KB
                  clear c2 f2
                  have HGA := hide (HGq.out.set r r l (by omega) (by omega))
                  go_region_with (first
                    | (go_at_call 53; refine (KB.out _).mono ?_; rintro e X ⟨rfl, hx⟩; have hgN := hide (Gr.step (show Gr B n N W1.drew from HGq.out) hx); obtain ⟨d1, e1⟩ := hgN.out.at r r (by omega) (by omega); obtain ⟨d2, e2⟩ := hgN.out.at r r (by omega) (by omega))
                    | (go_at_call 53; refine (KB.out _).mono ?_; rintro e X ⟨rfl, hx⟩; have hgU := hide (Gr.step (show Gr B n (upd N r r l) (W1.setCell ⟨B, 1 + r * 6 + r, none⟩ (.int .i64 (l : Int))).drew from HGA.out) hx); obtain ⟨d2, e2⟩ := hgU.out.at r r (by omega) (by omega)))
                  all_goals
                    have hbX : Below B w X := by first | exact HBq.out.drew.trans (hx.mono (Nat.le_of_lt HGq.out.lt)) | exact (HBq.out.setCell (Nat.le_refl _) _).drew.trans (hx.mono (Nat.le_of_lt HGA.out.lt))
                    clear c1 f1
                    go_wp2
                    go_roundw
                    case rel =>
                      refine ⟨r + 1, upd2 N r r l, true, by omega, by go_num, rfl, ?_, ?_, HNI.out, fun h => by cases h⟩
                      · first
                          | exact ((hgN.out.set r r l (by omega) (by omega)).set r r l (by omega) (by omega)).congr (fun a b _ _ => upd_two N r l a b)
                          | exact (hgN.out.set r r l (by omega) (by omega)).congr (fun a b _ _ => upd_one N r l a b)
                          | exact (hgU.out.set r r l (by omega) (by omega)).congr (fun a b _ _ => upd_two N r l a b)
                      · first | exact (hbX.setCell (Nat.le_refl _) _).setCell (Nat.le_refl _) _ | exact hbX.setCell (Nat.le_refl _) _
                    case measure => simp [intOf]; omega
                · have hn1 : ¬ (1 + m * 6 + r = 1 + r * 6 + m) := by omega
                  have hn2 : ¬ (1 + r * 6 + m = 1 + m * 6 + r) := by omega
                  have HGA := hide (HGq.out.set r m l (by omega) (by omega))
                  go_region_with (first
                    | (go_at_call 53; refine (KB.out _).mono ?_; rintro e X ⟨rfl, hx⟩; have hgN := hide (Gr.step (show Gr B n N W1.drew from HGq.out) hx); obtain ⟨d1, e1⟩ := hgN.out.at r m (by omega) (by omega); obtain ⟨d2, e2⟩ := hgN.out.at m r (by omega) (by omega))
                    | (go_at_call 53; refine (KB.out _).mono ?_; rintro e X ⟨rfl, hx⟩; have hgU := hide (Gr.step (show Gr B n (upd N r m l) (W1.setCell ⟨B, 1 + r * 6 + m, none⟩ (.int .i64 (l : Int))).drew from HGA.out) hx); obtain ⟨d2, e2⟩ := hgU.out.at m r (by omega) (by omega)))
                  all_goals
                    have hbX : Below B w X := by first | exact HBq.out.drew.trans (hx.mono (Nat.le_of_lt HGq.out.lt)) | exact (HBq.out.setCell (Nat.le_refl _) _).drew.trans (hx.mono (Nat.le_of_lt HGA.out.lt))
                    clear c1 f1 c2 f2
                    go_wp2
                    go_roundw
                    case rel =>
                      refine ⟨m + 1, upd2 N r m l, true, by omega, by go_num, rfl, ?_, ?_, HNI.out, fun h => by cases h⟩
                      · first
                          | exact ((hgN.out.set r m l (by omega) (by omega)).set m r (Bk l) (by omega) (by omega)).congr (fun a b _ _ => upd_swap N r m l HD.out a b)
                          | exact ((hgN.out.set m r (Bk l) (by omega) (by omega)).set r m l (by omega) (by omega)).congr (fun a b _ _ => upd_swap' N r m l a b)
                          | exact (hgU.out.set m r (Bk l) (by omega) (by omega)).congr (fun a b _ _ => upd_swap N r m l HD.out a b)
                      · first | exact (hbX.setCell (Nat.le_refl _) _).setCell (Nat.le_refl _) _ | exact hbX.setCell (Nat.le_refl _) _
                    case measure => simp [intOf]; omega
            · have hmm : m = n := by omega
              have hmi : (n : Int) ≤ m := by omega
              rw [hmm] at HQ
              go_wp2
              go_roundw
              case rel => exact ⟨s + 1, N, ls, by omega, by go_num, rfl, HG.out, HB.out, HN.out, fun h => ⟨(HQ.out h).1, fun b c hb hc => by
                rcases Nat.lt_or_ge b s with hl | hl
                · exact (HQ.out h).2.1 b c hl hc
                · have : b = s := by omega
                  subst this; exact (HQ.out h).2.2 c hc⟩⟩
              case measure => simp [intOf]; omega
        · have hss : s = n := by omega
          have hsi : (n : Int) ≤ s := by omega
          rw [hss] at HQ
          clear hs
          go_wp2
          go_roundw
          case rel => exact ⟨r + 1, N, ls, by omega, by go_num, rfl, HG.out, HB.out, HN.out, fun h a b c ha hb hc => by
            rcases Nat.lt_or_ge a r with hl | hl
            · exact (HQ.out h).1 a b c hl hb hc
            · have : a = r := by omega
              subst this; exact (HQ.out h).2 b c hb hc⟩
          case measure => simp [intOf]; omega
    · have hrn : r = n := by omega
      have hri : (n : Int) ≤ r := by omega
      rw [hrn] at HQ
      clear hs
      go_wp2
      go_ret
      exact ⟨N, ls, rfl, HG.out, HB.out, HN.out, HQ.out⟩
end Go.Proofs.YtnaggcadmfmibaaDoor
