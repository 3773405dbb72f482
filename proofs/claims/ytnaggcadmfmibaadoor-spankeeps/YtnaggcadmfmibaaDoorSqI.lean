/- package span: Solve. -/
import Derived.Test.YtnaggcadmfmibaaDoorSqH
import Derived.Test.YtnaggcadmfmibaaDoorSpnY
namespace Go.Proofs.YtnaggcadmfmibaaDoor
open Go.RowKit
set_option linter.unusedVariables false
set_option linter.unusedSimpArgs false

/-- what Solve tells: kc the check's number, e what is told, s and t the ends of the spans where it tells 0 -/
def SolR (n : Nat) (g : Nat → Nat → Int) (kc e : Int) (s t : Nat → Nat) : Prop := (¬ kc = 0 ∧ e = kc) ∨ (kc = 0 ∧ 1 ≤ n ∧ n ≤ 6 ∧ ((e = 12 ∧ ¬ ∃ s t, Full2 n g s t) ∨ (e = 0 ∧ Full2 n g s t ∧ Least2 n g s t 0)))
def SolV (v : Value) (n : Nat) (e : Int) (s t : Nat → Nat) (X : World) : Prop := (¬ e = 0 ∧ v = .slice none 0 0) ∨ (e = 0 ∧ ∃ g cap, v = .slice (some ⟨g, 0, none⟩) n cap ∧ Sp (some ⟨g, 0, none⟩) n (fun k => (s k : Int)) (fun k => (t k : Int)) X)
theorem no_full {n : Nat} {g : Nat → Nat → Int} {N : Nat → Nat → Nat} (hg : ∀ i k, i < n → k < n → 0 ≤ g i k ∧ g i k ≤ 8191) (hN : Great n (cpN n g n) N) (hw : noWay n N n = true) : ¬ ∃ s t, Full2 n g s t := by
  rintro ⟨s, t, hf⟩
  have hb := fun i j hi hj => wyN_great (s := fun k => (s k : Int)) (t := fun k => (t k : Int)) (fun i hi => by have := (hf.1 i hi).1; omega) hN (fun a b ha hb => by
    unfold cpN
    rw [if_pos ⟨ha, hb⟩, ← hasB_bit, Int.toNat_of_nonneg (hg a b ha hb).1]
    exact hf.2 a b ha hb) i j hi hj
  obtain ⟨i, hi, h4⟩ := (anyB_iff n).1 hw
  obtain ⟨j, hj, h5⟩ := (anyB_iff n).1 h4
  have h6 := hb i j hi hj
  have h7 : N i j = 0 := by have := eq_of_beq h5; omega
  rw [h7, Nat.zero_testBit] at h6
  cases h6
/-- the spans told so far -/
def tdP (n : Nat) (r : Nat → Nat) (j : Nat) : List (Nat × Nat) := (List.range j).map fun k => (frN n (r k), toN n (r k))
theorem tdP_len (n : Nat) (r : Nat → Nat) (j : Nat) : (tdP n r j).length = j := by unfold tdP; simp
theorem tdP_next (n : Nat) (r : Nat → Nat) (j a : Nat) : tdP n (upN r j a) (j + 1) = tdP n r j ++ [(frN n a, toN n a)] := by
  unfold tdP
  rw [List.range_succ, List.map_append]
  congr 1
  · apply List.map_congr_left
    intro k hk
    have := List.mem_range.1 hk
    rw [upN_no _ _ _ _ (by omega)]
  · simp [upN_at]
theorem tdP_get (n : Nat) (r : Nat → Nat) (j k : Nat) (hk : k < j) : (tdP n r j).getD k (0, 0) = (frN n (r k), toN n (r k)) := by
  unfold tdP
  rw [List.getD_eq_getElem?_getD, List.getElem?_map, List.getElem?_range hk]
  rfl
theorem clP_len : ∀ l : List (Nat × Nat), (clP l).length = l.length * 2
  | [] => rfl
  | p :: l => by show (clP l).length + 1 + 1 = _; rw [clP_len l, List.length_cons]; omega
def chJ (j : Nat) : Nat → Bool := fun k => decide (k < j)
theorem chJ_next (j : Nat) : chC (chJ j) j = chJ (j + 1) := by
  funext k
  unfold chC chJ
  split
  · rename_i h; subst h; simp
  · rename_i h; rw [decide_eq_decide]; omega
theorem chJ_0 : fF = chJ 0 := by funext k; unfold fF chJ; simp
theorem own_same {X X' : World} {b : Nat} {e : TypeId} {z : Nat} {v : Value} {n : Nat} {xs : List Value} (h : X.ownsRow b e z v n xs) (hk : ∀ k, v.ownBlock = some k → X'.heap[k]? = X.heap[k]?) : X'.ownsRow b e z v n xs :=
  ⟨h.1, h.2.imp id fun ⟨g, cap, cur, h1, h2, h3, h4⟩ => ⟨g, cap, cur, h1, h2, (hk g (by rw [h1]; rfl)).trans h3, h4⟩⟩
set_option maxRecDepth 100000 in
set_option maxHeartbeats 8000000 in
theorem solve_any (ad : Option Addr) (n cap : Nat) (A : Nat → Option Addr) (L C : Nat → Nat) (g : Nat → Nat → Int) (w : World) (hf : FT w) (h : NetAt ad n A L C g w) :
    Calls Tryd.prog 10 #[.slice ad n cap] w fun e w' => ∃ (v : Value) (k : Int) (s t : Nat → Nat), e = .returned (.tuple #[v, ek k]) ∧ Below w.heap.size w w' ∧ SolR n g (chk n L g) k s t ∧ SolV v n k s t w' := by
  have K1 := hide (closed_any ad n cap A L C g w hf h)
  have HG := hide (fun (hz : chk n L g = 0) => (chk_ok hz).2.2.2)
  generalize chk n L g = kc at *
  have h2B : 2 ≤ w.heap.size := hf.2.1
  clear hf h
  obtain ⟨i0, hi, hz0, hz1, hz2⟩ := info_parts infoSpan3
  go_enter Tryd.func10, Tryd.ntmps10
  go_wp2_with fail
  refine K1.out.mono ?_
  rintro e W1 ⟨m, N, k, rfl, hb1, hc, hmn⟩
  have HB1 := hide hb1
  have HC := hide hc
  have HMN := hide hmn
  clear hb1 hc hmn K1
  by_cases hk : k = 0
  · subst hk
    obtain rfl := HMN.out rfl
    obtain ⟨rfl, n1, n6, hgr, hmat, hnw⟩ : kc = 0 ∧ 1 ≤ m ∧ m ≤ 6 ∧ Great m (cpN m g m) N ∧ Mat m N ∧ noWay m N m = false := by
      rcases HC.out with ⟨h1, h2⟩ | ⟨h0, h1, h2, N', h3, h4, ⟨_, h6⟩ | ⟨h5, _, rfl⟩⟩
      · exact absurd h2.symm h1
      · cases h6
      · exact ⟨h0, h1, h2, h3, h4, h5⟩
    have hgg := HG.out rfl
    obtain ⟨hen, hM66⟩ := enumN n6
    have hsy := symRS hmat hen
    have HFST := hide (fun r may (hS : SolI m (mN m) (RS N (frN m) (toN m)) m r may) => first2 hgg hgr hmat hnw hen hS)
    have HNON := hide (none2 hgg hgr hmat hnw hen)
    have HNXT := hide (fun j a r may may' hS hj ha hma hm he hl => SolI.next (n := m) (M := mN m) (R := RS N (frN m) (toN m)) (j := j) (a := a) (r := r) (may := may) (may' := may') hsy hS hj ha hma hm he hl)
    have HSTP := hide (fun j r may hS hj hl => SolI.stop (n := m) (M := mN m) (R := RS N (frN m) (toN m)) (j := j) (r := r) (may := may) hsy hS hj hl)
    clear hgr hmat hnw hgg HC HMN HG
    rw [ek_0]
    go_wp2_with (first | (refine wpList_store_mid rfl 51 (.tmp 4) (.tmp 16) rfl W1.heap.size 0 (grA m N) rfl rfl (A1_there W1 (grA m N) (grA_size _ _)) (infoGrid2 m N) (grA_one m N) ?_; generalize hW : World.setCells _ _ _ _ = W2))
    have hA := A1_set (n := m) (N := N) (show (W1.alloc (.cells (grA 0 z2) 51)).setCells W1.heap.size 0 (grA m N).toList = W2 from hW)
    have HA := hide hA
    have HB2 := hide (HB1.out.trans (hA.2.mono HB1.out.size))
    clear hW hA HB1
    refine (search_any W1.heap.size m N W2 n1 n6 HA.out.1).mono ?_
    rintro e X3 ⟨s, rfl, hsr, hb3⟩
    have HSR := hide hsr
    have HG3 := hide (HA.out.1.step hb3)
    have HB3 := hide (HB2.out.trans (hb3.mono HB2.out.size))
    clear hsr hb3 HA HB2
    go_wp2_with fail
    refine (start_any s m (mN m) N (frN m) (toN m) X3 n1 n6 hM66 HSR.out).mono ?_
    rintro e X4 ⟨A0, rfl, hst, hb4⟩
    have HST := hide hst
    have HSR4 := hide (HSR.out.step hb4)
    have HG4 := hide (HG3.out.step hb4)
    have HB4 := hide (HB3.out.trans (hb4.mono HB3.out.size))
    clear hst hb4 HSR HG3 HB3
    have HE4 : Hid (∀ W5, (X4.alloc (.cells (stA z2 fF) 63)).setCells X4.heap.size 0 (stA A0 fF).toList = W5 → Sta X4.heap.size A0 fF W5 ∧ Below X4.heap.size X4 W5) := fun W5 h => by
      subst h
      exact ⟨sta_put (sta_new X4 z2 fF) A0 fF, setCells_bel (Nat.le_refl _) _ _ _ ((Below.refl _ X4).alloc (Nat.le_refl _) _)⟩
    generalize W1.heap.size = B at *
    go_wp2_with (first
      | (refine wpList_store_mid rfl 63 (.tmp 7) (.tmp 23) rfl X4.heap.size 0 (stA A0 fF) rfl rfl (sta_there (sta_new X4 z2 fF) A0 fF) (infoState2 A0 fF) (stA_one A0 fF) ?_; generalize hW5 : World.setCells _ _ _ _ = W5; have HE := hide (HE4.out W5 hW5); clear hW5 HE4; have hgs := (HG4.out.step HE.out.2).size))
    clear hgs HG4
    have h4D := HB4.out.size
    generalize hD : X4.heap.size = D at *
    have HDE := hide hD
    clear hD
    go_loopw [8, 26] (fun v ix wr => ∃ (j : Nat) (r : Nat → Nat) (A : Nat → Nat → Nat), j ≤ m ∧ ix = .int .i64 j ∧ wr.ownsRow (D + 1) 29 2 v j (clP (tdP m r j)) ∧ Sta D A (chJ j) wr ∧ OkA m (mN m) A ∧ SolI m (mN m) (RS N (frN m) (toN m)) j r (mA A) ∧ Below D X4 wr) (fun _ ix _ => m - (intOf ix).toNat)
    case atStart =>
      refine ⟨0, fun _ => 0, A0, by omega, rfl, World.ownsRow_nil _ _ _ _, by rw [← chJ_0]; exact HE.out.1, ⟨HST.out.lt, fun k b hk hb hm => ?_⟩, ⟨⟨fun k hk => by omega, fun i k hi => by omega, fun k b _ hk hb => ⟨fun _ i hi => by omega, fun _ => ?_⟩⟩, fun i hi => by omega, fun ⟨q, hq⟩ => ⟨q, hq, fun i hi => by omega⟩⟩, HE.out.2⟩
      · have := HST.out.bit k b hb
        rw [hm] at this
        have := of_decide_eq_true this.symm
        omega
      · have := HST.out.bit k b (by omega)
        unfold mA
        rw [this]
        simp
        omega
    case round =>
      clear HE HST
      obtain ⟨j, r, A, hj, rfl, hown, hs, hok, hsol, hb⟩ := hrel
      have HO := hide hown
      have HS := hide hs
      have HOK := hide hok
      have HSOL := hide hsol
      have HB := hide hb
      by_cases hlt : j < m
      · have hji : (j : Int) < m := by omega
        have hcj : chJ j j = false := by unfold chJ; simp
        have hcnt := cnt_ch hcj m hlt
        have KF := hide (fun W (hbW : Below D X4 W) => fiS_all (s := s) n1 n6 hM66 hsy (cntB (fun k => !chC (chJ j) j k) m) A (chJ j) j W hok hcnt hlt hcj (HSR4.out.step (by rw [HDE.out]; exact hbW)))
        have HWH := hide hs.whole
        clear hown hs hok hsol hb hcnt
        go_wp2_with (first
          | (refine wpList_load_mid rfl 63 (.tmp 7) rfl D 0 rfl (stA A (chJ j)).toList _ HWH.out Tryd.underlying63 rfl (by rw [Array.length_toList, stA_size]; exact infoState) ?_; rw [Array.toArray_toList]))
        refine (KF.out _ HB.out).mono ?_
        rintro e X6 ⟨a, A', C', ok, rfl, hb6, hd⟩
        have HD := hide hd
        have hDw : D ≤ wr.heap.size := Nat.le_of_lt HS.out.lt
        have HB6 := hide (HB.out.trans (hb6.mono hDw))
        have HS6 := hide (HS.out.step hb6)
        have HO6 := hide (own_step HO.out hb6)
        have HOL : Hid (∀ k, u8.ownBlock = some k → D + 1 ≤ k ∧ k < wr.heap.size) := HO.out.lt
        have hw6 := hb6.size
        clear hd hb6 HB HS HO KF HWH
        have HE6 : Hid (∀ W7, (X6.alloc (.cells (stA z2 fF) 63)).setCells X6.heap.size 0 (stA A' C').toList = W7 → Sta X6.heap.size A' C' W7 ∧ Below X6.heap.size X6 W7) := fun W7 h => by
          subst h
          exact ⟨sta_put (sta_new X6 z2 fF) A' C', setCells_bel (Nat.le_refl _) _ _ _ ((Below.refl _ X6).alloc (Nat.le_refl _) _)⟩
        cases ok
        · have HNO : Hid (¬ ∃ s t, Full2 m g s t) := HNON.out (HSTP.out j r (mA A) HSOL.out hlt (by
            rcases HD.out with ⟨h, _⟩ | ⟨_, h⟩
            · cases h
            · exact h))
          go_wp2_with (first
            | (refine wpList_store_mid rfl 63 (.tmp 11) (.tmp 35) rfl X6.heap.size 0 (stA A' C') rfl rfl (sta_there (sta_new X6 z2 fF) A' C') (infoState2 A' C') (stA_one A' C') ?_; generalize hW7 : World.setCells _ _ _ _ = W7; have HE := hide (HE6.out W7 hW7); clear hW7 HE6))
          have hbf : Below w.heap.size w W7 := HB4.out.trans ((HB6.out.trans (HE.out.2.mono (by omega))).mono (by have := HDE.out; omega))
          go_ret2
          exact ⟨.slice none 0 0, 12, fun _ => 0, fun _ => 0, rfl, hbf, .inr ⟨rfl, n1, n6, .inl ⟨rfl, HNO.out⟩⟩, .inl ⟨by decide, rfl⟩⟩
        · obtain ⟨ha, rfl, hch, hfit, hleast⟩ : a < mN m ∧ C' = chC (chJ j) j ∧ ChS (mN m) N (frN m) (toN m) A (chJ j) j a m A' ∧ Fit m (mN m) N (frN m) (toN m) A (chJ j) j a ∧ ∀ c, c < a → ¬ Fit m (mN m) N (frN m) (toN m) A (chJ j) j c := by
            rcases HD.out with ⟨_, h⟩ | ⟨h, _⟩
            · exact h
            · cases h
          have HN := hide (HNXT.out j a r (mA A) (mA A') HSOL.out hlt ha hfit.1 (fun k b hk hb => hch.done k b hk (by omega)) hfit.2 hleast)
          have HOK' := hide (HOK.out.next hch)
          have hai : (a : Int) < mN m := by omega
          clear hch hfit hleast HD
          rw [chJ_next] at HE6 ⊢
          go_wp2_with (first
            | (refine wpList_store_mid rfl 63 (.tmp 11) (.tmp 35) rfl X6.heap.size 0 (stA A' (chJ (j + 1))) rfl rfl (sta_there (sta_new X6 z2 fF) A' (chJ (j + 1))) (infoState2 A' (chJ (j + 1))) (stA_one A' (chJ (j + 1))) ?_; generalize hW7 : World.setCells _ _ _ _ = W7; have HE := hide (HE6.out W7 hW7); clear hW7 HE6; obtain ⟨gs, cs, hsp, hspa⟩ := (HSR4.out.step (by rw [HDE.out]; exact HB6.out.trans (HE.out.2.mono (show D ≤ X6.heap.size by omega)))).sp; obtain ⟨hs0, hs1⟩ := hspa a ha)
            | (at_builtin; refine wpList_append_lies _ rfl (.tmp 40) (.tmp 48) 23 rfl (D + 1) 29 i0 (.agg #[.int .i64 0, .int .i64 0]) 2 16 Tryd.underlying23 hi hz0 hz1 hz2 rfl (by decide) _ j (clP (tdP m r j)) rfl ((own_step HO6.out HE.out.2).alloc _) ⟨W7.heap.size, 0, none⟩ 1 1 [.int .i64 (frN m a : Int), .int .i64 (toN m a : Int)] rfl rfl (by intro j u hj; match j, hj with | 0, hj => (simp at hj; subst hj; simp [Addr.add]) | 1, hj => (simp at hj; subst hj; simp [Addr.add])) (by intro u hu; simp at hu; rcases hu with rfl | rfl <;> rfl) (by omega) (by unfold maxLen; omega) (by omega) (by have := HS6.out.lt; have := HE.out.2.size; simp; omega) _ rfl ?_; intro g1 c1 w1 hown' hgrow hat hlt1; have hgr : (W7.alloc (.cells #[.int .i64 (frN m a : Int), .int .i64 (toN m a : Int)] 29)).grownBy w1 u8.ownBlock := hgrow; have hSE : Sta X6.heap.size A' (chJ (j + 1)) w1 := (hgr.block _ (by have := HE.out.1.lt; simp; omega) (fun e => by have := (HOL.out _ e.symm).2; omega)).trans (HE.out.1.step ((Below.refl _ W7).alloc (Nat.le_refl _) _)); have hSD : Sta D A (chJ j) w1 := (hgr.block _ (by have := HS6.out.lt; have := HE.out.2.size; simp; omega) (fun e => by have := (HOL.out _ e.symm).1; omega)).trans ((HS6.out.step HE.out.2).step ((Below.refl _ W7).alloc (Nat.le_refl _) _)); have HSD := hide hSD; have HWE := hide hSE.whole; have HTD := hide (sta_there hSD A' (chJ (j + 1))); clear hSE hSD hat hgrow)
            | (refine wpList_load_mid rfl 63 (.tmp 11) rfl X6.heap.size 0 rfl (stA A' (chJ (j + 1))).toList _ HWE.out Tryd.underlying63 rfl (by rw [Array.length_toList, stA_size]; exact infoState) ?_; rw [Array.toArray_toList])
            | (refine wpList_store_mid rfl 63 (.tmp 7) (.tmp 50) rfl D 0 (stA A' (chJ (j + 1))) rfl rfl HTD.out (infoState2 A' (chJ (j + 1))) (stA_one A' (chJ (j + 1))) ?_; generalize hW9 : World.setCells w1 _ _ _ = W9))
          have hb7 : Below D X4 w1 := Below.grown ((HB6.out.trans (HE.out.2.mono (show D ≤ X6.heap.size by omega))).alloc (by have := HE.out.2.size; omega) _) hgr (by have := HE.out.2.size; simp; omega) (fun k hk => by have := (HOL.out k hk).1; omega)
          have hb9 : Below D X4 W9 := by rw [← hW9]; exact setCells_bel (Nat.le_refl _) _ _ _ hb7
          have hs9 : Sta D A' (chJ (j + 1)) W9 := by rw [← hW9]; exact sta_put HSD.out A' (chJ (j + 1))
          have ho9 : W9.ownsRow (D + 1) 29 2 (.slice (some ⟨g1, 0, none⟩) (j + 1) c1) (j + 1) (clP (tdP m (upN r j a) (j + 1))) := by
            rw [tdP_next, clP_app]
            refine own_same hown' (fun k hk => ?_)
            rw [← hW9]
            exact setCells_other (by have := (hown'.lt k hk).1; omega) _ _ _
          have HB9 := hide hb9
          have HS9 := hide hs9
          have HO9 := hide ho9
          clear hb7 hb9 hs9 ho9 hW9 hown' hgr hs0 hs1 hsp hspa
          go_roundw
          case rel => exact ⟨j + 1, upN r j a, A', by omega, by go_num, HO9.out, HS9.out, HOK'.out, HN.out, HB9.out⟩
          case measure => simp [intOf]; omega
      · have hjm : j = m := by omega
        have hni : ¬ (j : Int) < m := by omega
        rw [hjm] at hown hsol
        obtain ⟨g1, cap1, rfl, hg0, hg1⟩ := World.ownsRow.form hown (by omega)
        have HO := hide hown
        obtain ⟨hf, hl⟩ := HFST.out r _ hsol
        have HF := hide hf
        have HL := hide hl
        clear hown hs hok hsol hb hf hl HSOL
        go_wp2_with fail
        go_ret2
        refine ⟨.slice (some ⟨g1, 0, none⟩) m cap1, 0, by rw [ek_0]; rfl, HB4.out.trans (HB.out.mono (by have := HDE.out; omega)), fun k => frN m (r k), fun k => toN m (r k), .inr ⟨rfl, n1, n6, .inr ⟨rfl, HF.out, HL.out⟩⟩, .inr ⟨rfl, g1, cap1, rfl, fun k hk => ⟨_, rfl, ?_⟩⟩⟩
        have h0 := clP_get (tdP m r m) k (by rw [tdP_len]; exact hk)
        rw [tdP_get m r m k hk] at h0
        have c0 := (World.ownsRow.cellAt HO.out (k * 2) (by omega)).trans h0.1
        have c1 := (World.ownsRow.cellAt HO.out (k * 2 + 1) (by omega)).trans h0.2
        rw [Addr.add_lit, Addr.add_lit, Nat.zero_add, Nat.zero_add]
        exact ⟨c0, c1⟩
  · have HRR : Hid (SolR n g kc k (fun _ => 0) (fun _ => 0)) := by
      rcases HC.out with ⟨h1, h2⟩ | ⟨h0, h1, h2, N', h3, h4, ⟨h5, h6⟩ | ⟨_, h6, _⟩⟩
      · exact .inl ⟨h1, h2⟩
      · exact .inr ⟨h0, h1, h2, .inl ⟨h6, no_full (HG.out h0) h3 h5⟩⟩
      · exact absurd h6 hk
    rw [ek_no hk]
    go_wp2_with (first | (refine wpList_store_mid rfl 51 (.tmp 4) (.tmp 16) rfl W1.heap.size 0 (grA m N) rfl rfl (A1_there W1 (grA m N) (grA_size _ _)) (infoGrid2 m N) (grA_one m N) ?_; generalize hW : World.setCells _ _ _ _ = W2))
    have hbb : Below w.heap.size w W2 := by
      rw [← hW]
      exact setCells_bel HB1.out.size _ _ _ (HB1.out.alloc HB1.out.size _)
    clear hW
    go_ret2
    exact ⟨.slice none 0 0, k, _, _, by rw [ek_no hk]; rfl, hbb, HRR.out, .inl ⟨hk, rfl⟩⟩
end Go.Proofs.YtnaggcadmfmibaaDoor
