/- SpanKeeps: mathematics, and the walk of the law. -/
import Derived.Test.YtnaggcadmfmibaaDoorSqJ
import Derived.Test.YtnaggcadmfmibaaDoorSpoC
namespace Go.Proofs.YtnaggcadmfmibaaDoor
open Go.RowKit
set_option linter.unusedVariables false
set_option linter.unusedSimpArgs false

/-- the ends of some spans -/
def endsL (s t : Nat → Int) (n : Nat) : List Int := (List.range n).flatMap fun k => [s k, t k]
theorem endsL_mem {s t : Nat → Int} {n k : Nat} (hk : k < n) : s k ∈ endsL s t n ∧ t k ∈ endsL s t n := by
  unfold endsL
  simp only [List.mem_flatMap, List.mem_range]
  exact ⟨⟨k, hk, by simp⟩, ⟨k, hk, by simp⟩⟩
theorem endsL_len (s t : Nat → Int) : ∀ n, (endsL s t n).length = 2 * n
  | 0 => rfl
  | n + 1 => by
    have := endsL_len s t n
    unfold endsL at *
    rw [List.range_succ, List.flatMap_append, List.length_append, this]
    simp
    omega
theorem hld_parts {n m : Nat} {L : Nat → Nat} {g : Nat → Nat → Int} {s t : Nat → Int} (h : hldR n m L g s t = true) :
    hldE n m L g s t = 0 ∧ chk n L g = 0 ∧ m = n ∧ (∀ i, i < n → s i < t i) ∧ ∀ i k, i < n → k < n → hasB (g i k) (Spn.way (s i) (t i) (s k) (t k)) = true := by
  unfold hldR at h
  rw [Bool.and_eq_true] at h
  obtain ⟨he, hl⟩ := h
  have he : hldE n m L g s t = 0 := of_decide_eq_true he
  have he' := he
  unfold hldE at he
  by_cases hz : chk n L g = 0
  · rw [if_pos hz] at he
    by_cases hm : m = n
    · rw [if_pos hm] at he
      have hv : anyB (fun c => decide (t c ≤ s c)) n = false := by
        cases hb : anyB (fun c => decide (t c ≤ s c)) n with
        | false => rfl
        | true => rw [hb] at he; simp at he
      exact ⟨he', hz, hm, fun i hi => by
        have := of_decide_eq_false (anyB_false n hv i hi)
        omega, fun i k hi hk => (lieA_iff n).1 hl i hi k hk⟩
    · rw [if_neg hm] at he; cases he
  · rw [if_neg hz] at he; exact absurd he hz
/-- spans that lie so: there are such with ends from 0 on, below twice as many as there are -/
theorem full_of_hld {n m : Nat} {L : Nat → Nat} {g : Nat → Nat → Int} {s t : Nat → Int} (h : hldR n m L g s t = true) : chk n L g = 0 ∧ ∃ s' t', Full2 n g s' t' := by
  obtain ⟨_, hz, _, hlt, hl⟩ := hld_parts h
  refine ⟨hz, fun k => Spn.rank (endsL s t n) (s k), fun k => Spn.rank (endsL s t n) (t k), fun k hk => ⟨Spn.rank_lt (endsL_mem hk).1 (hlt k hk), ?_⟩, fun i k hi hk => ?_⟩
  · have := Spn.rank_bd (endsL_mem (s := s) (t := t) hk).2
    rw [endsL_len] at this
    exact this
  · dsimp only
    rw [Spn.way_rank (endsL_mem hi).1 (endsL_mem hi).2 (endsL_mem hk).1 (endsL_mem hk).2]
    exact hl i k hi hk
theorem hld_of_full {n : Nat} {L : Nat → Nat} {g : Nat → Nat → Int} {s t : Nat → Nat} (hz : chk n L g = 0) (h : Full2 n g s t) :
    hldE n n L g (fun k => (s k : Int)) (fun k => (t k : Int)) = 0 ∧ hldR n n L g (fun k => (s k : Int)) (fun k => (t k : Int)) = true := by
  have he : hldE n n L g (fun k => (s k : Int)) (fun k => (t k : Int)) = 0 := by
    unfold hldE
    rw [if_pos hz, if_pos rfl, anyB_none n (fun k hk => by have := (h.1 k hk).1; simp; omega)]
    rfl
  refine ⟨he, ?_⟩
  unfold hldR
  rw [he, (lieA_iff n).2 fun i hi k hk => h.2 i k hi hk]
  rfl
theorem solR_ok {n : Nat} {L : Nat → Nat} {g : Nat → Nat → Int} {k : Int} {s t : Nat → Nat} (h : SolR n g (chk n L g) k s t) (hz : chk n L g = 0) (hf : ∃ s t, Full2 n g s t) : k = 0 := by
  rcases h with ⟨h1, _⟩ | ⟨_, _, _, ⟨_, h2⟩ | ⟨h2, _⟩⟩
  · exact absurd hz h1
  · exact absurd hf h2
  · exact h2
theorem cloR_ok {n : Nat} {L : Nat → Nat} {g : Nat → Nat → Int} {k : Int} {M : Nat → Nat → Nat} (h : CloR n g (chk n L g) k M) (hz : chk n L g = 0) (hf : ∃ s t, Full2 n g s t) : k = 0 := by
  obtain ⟨_, _, _, hg⟩ := chk_ok hz
  rcases h with ⟨h1, _⟩ | ⟨_, N, hN, ⟨hn, _⟩ | ⟨_, h2, _⟩⟩
  · exact absurd hz h1
  · exact absurd hf (no_full hg hN hn)
  · exact h2
set_option maxRecDepth 100000 in
set_option maxHeartbeats 8000000 in
theorem skeeps_walk (ad al : Option Addr) (n m cap capl : Nat) (A : Nat → Option Addr) (L C : Nat → Nat) (g : Nat → Nat → Int) (s t : Nat → Int) (w : World) (hf : FT w) (h : NetAt ad n A L C g w) (hs : Sp al m s t w) :
    Calls Tryd.prog 4 #[.slice ad n cap, .slice al m capl] w fun e w' => e = .returned (.bool true) ∧ Below w.heap.size w w' := by
  have HF := hide hf
  have H := hide h
  have HS := hide hs
  have K1 := hide (pholds_any ad al n m cap capl A L C g s t w hf.1 h hs)
  have K2 := hide (fun W (hb : Below w.heap.size w W) => pclose_v ad n cap A L C g W (HF.out.later hb) (H.out.step hb))
  have K4 := hide (fun W (hb : Below w.heap.size w W) => psolve_any ad n cap A L C g W (HF.out.later hb) (H.out.step hb))
  have K6 := hide (fun a' c' s' t' W (hb : Below w.heap.size w W) (hsp : Sp a' n s' t' W) => pholds_any ad a' n n cap c' A L C g s' t' W (HF.out.later hb).1 (H.out.step hb) hsp)
  clear h hs hf
  by_cases h1 : n > 20
  · have h1i : (n : Int) > 20 := by omega
    go_enter Tryd.func4, Tryd.ntmps4
    go_wp2
    go_ret
    exact ⟨rfl, Below.refl _ _⟩
  have h1i : ¬ (n : Int) > 20 := by omega
  by_cases h2 : m > 20
  · have h2i : (m : Int) > 20 := by omega
    go_enter Tryd.func4, Tryd.ntmps4
    go_wp2
    go_ret
    exact ⟨rfl, Below.refl _ _⟩
  have h2i : ¬ (m : Int) > 20 := by omega
  have HFU := hide (full_of_hld (n := n) (m := m) (L := L) (g := g) (s := s) (t := t))
  have HKE := hide (fun k M => keeps_close (n := n) (m := m) (L := L) (g := g) (s := s) (t := t) (k := k) (M := M))
  have HPA := hide (hld_parts (n := n) (m := m) (L := L) (g := g) (s := s) (t := t))
  generalize hldR n m L g s t = hr at *
  generalize hldE n m L g s t = he at *
  go_enter Tryd.func4, Tryd.ntmps4
  go_wp2_with fail
  refine K1.out.mono ?_
  rintro e W1 ⟨rfl, hb1⟩
  go_wp2_with fail
  refine (K2.out _ hb1).mono ?_
  rintro e W2 ⟨v, M, k, rfl, hb2, hc, hv⟩
  have HB2 := hide (hb1.trans (hb2.mono hb1.size))
  have HC := hide hc
  have HV := hide hv
  clear hb1 hb2 hc hv K1 K2
  cases hr
  · have HBW := hide HB2.out
    by_cases hez : he = 0
    · subst hez
      go_wp2_with fail
      refine (K4.out _ HBW.out).mono ?_
      rintro e W5 ⟨v5, k5, s5, t5, rfl, hb5, hr5, hv5⟩
      have HB5 := hide (HBW.out.trans (hb5.mono HBW.out.size))
      have HR5 := hide hr5
      by_cases hk5 : k5 = 0
      · subst hk5
        obtain ⟨hz, hf5⟩ : chk n L g = 0 ∧ Full2 n g s5 t5 := by
          rcases HR5.out with ⟨h1, h2⟩ | ⟨h0, _, _, ⟨h1, _⟩ | ⟨_, h1, _⟩⟩
          · exact absurd h2.symm h1
          · cases h1
          · exact ⟨h0, h1⟩
        obtain ⟨g5, c5, rfl, hsp5⟩ : ∃ g5 c5, v5 = .slice (some ⟨g5, 0, none⟩) n c5 ∧ Sp (some ⟨g5, 0, none⟩) n (fun k => (s5 k : Int)) (fun k => (t5 k : Int)) W5 := by
          rcases hv5 with ⟨h, _⟩ | ⟨_, g5, c5, h1, h2⟩
          · exact absurd rfl h
          · exact ⟨g5, c5, h1, h2⟩
        obtain rfl : k = 0 := cloR_ok HC.out hz ⟨s5, t5, hf5⟩
        have KH := hide (K6.out (some ⟨g5, 0, none⟩) c5 (fun k => (s5 k : Int)) (fun k => (t5 k : Int)) W5 HB5.out hsp5)
        rw [(hld_of_full (L := L) hz hf5).1, (hld_of_full (L := L) hz hf5).2] at KH
        clear hr5 hv5 hf5 hsp5 hb5 HR5
        go_wp2_with fail
        refine KH.out.mono ?_
        rintro e W6 ⟨rfl, hb6⟩
        have HB6 := hide (HB5.out.trans (hb6.mono HB5.out.size))
        clear hb6 KH
        go_wp2
        go_ret
        exact ⟨rfl, HB6.out⟩
      · obtain rfl : v5 = .slice none 0 0 := by
          rcases hv5 with ⟨_, h⟩ | ⟨h, _⟩
          · exact h
          · exact absurd h hk5
        clear hr5 hv5 hb5
        go_wp2
        go_ret
        exact ⟨rfl, HB5.out⟩
    · have heb : (he == 0) = false := by simp [hez]
      go_wp2_with fail
      refine (K4.out _ HBW.out).mono ?_
      rintro e W5 ⟨v5, k5, s5, t5, rfl, hb5, hr5, hv5⟩
      have HB5 := hide (HBW.out.trans (hb5.mono HBW.out.size))
      have HR5 := hide hr5
      by_cases hk5 : k5 = 0
      · subst hk5
        obtain ⟨hz, hf5⟩ : chk n L g = 0 ∧ Full2 n g s5 t5 := by
          rcases HR5.out with ⟨h1, h2⟩ | ⟨h0, _, _, ⟨h1, _⟩ | ⟨_, h1, _⟩⟩
          · exact absurd h2.symm h1
          · cases h1
          · exact ⟨h0, h1⟩
        obtain ⟨g5, c5, rfl, hsp5⟩ : ∃ g5 c5, v5 = .slice (some ⟨g5, 0, none⟩) n c5 ∧ Sp (some ⟨g5, 0, none⟩) n (fun k => (s5 k : Int)) (fun k => (t5 k : Int)) W5 := by
          rcases hv5 with ⟨h, _⟩ | ⟨_, g5, c5, h1, h2⟩
          · exact absurd rfl h
          · exact ⟨g5, c5, h1, h2⟩
        obtain rfl : k = 0 := cloR_ok HC.out hz ⟨s5, t5, hf5⟩
        have KH := hide (K6.out (some ⟨g5, 0, none⟩) c5 (fun k => (s5 k : Int)) (fun k => (t5 k : Int)) W5 HB5.out hsp5)
        rw [(hld_of_full (L := L) hz hf5).1, (hld_of_full (L := L) hz hf5).2] at KH
        clear hr5 hv5 hf5 hsp5 hb5 HR5
        go_wp2_with fail
        refine KH.out.mono ?_
        rintro e W6 ⟨rfl, hb6⟩
        have HB6 := hide (HB5.out.trans (hb6.mono HB5.out.size))
        clear hb6 KH
        go_wp2
        go_ret
        exact ⟨rfl, HB6.out⟩
      · obtain rfl : v5 = .slice none 0 0 := by
          rcases hv5 with ⟨_, h⟩ | ⟨h, _⟩
          · exact h
          · exact absurd h hk5
        clear hr5 hv5 hb5
        go_wp2
        go_ret
        exact ⟨rfl, HB5.out⟩
  · have hez := (HPA.out rfl).1
    have hmn : n = m := ((HPA.out rfl).2.2.1).symm
    subst hez
    subst hmn
    obtain ⟨hz0, hfull⟩ := HFU.out rfl
    obtain ⟨rfl, hhr⟩ := HKE.out k M rfl HC.out
    obtain ⟨b, c, G, Cp, rfl, hnet⟩ : ∃ (b c : Nat) (G Cp : Nat → Nat), v = .slice (some ⟨b, 0, none⟩) n c ∧ NetAt (some ⟨b, 0, none⟩) n (fun i => some ⟨G i, 0, none⟩) (fun _ => n) Cp (fun i c => (M i c : Int)) W2 := by
      rcases HV.out with ⟨h, _⟩ | ⟨_, b, c, G, Cp, h1, h2⟩
      · exact absurd rfl h
      · exact ⟨b, c, G, Cp, h1, h2⟩
    have K3 := hide (pholds_any (some ⟨b, 0, none⟩) al n n c capl (fun i => some ⟨G i, 0, none⟩) (fun _ => n) Cp (fun i c => (M i c : Int)) s t W2 (HF.out.later HB2.out).1 hnet (HS.out.step HB2.out))
    rw [hhr, (hld_parts hhr).1] at K3
    have HZF := hide (And.intro hz0 hfull)
    clear hz0 hfull hhr hnet HV
    go_wp2_with fail
    refine K3.out.mono ?_
    rintro e W3 ⟨rfl, hb3⟩
    have HB3 := hide (HB2.out.trans (hb3.mono HB2.out.size))
    clear hb3 K3
    go_wp2_with fail
    refine (K4.out _ HB3.out).mono ?_
    rintro e W4 ⟨v4, k4, s4, t4, rfl, hb4, hr4, _⟩
    obtain rfl := solR_ok hr4 HZF.out.1 HZF.out.2
    have HBW := hide (HB3.out.trans (hb4.mono HB3.out.size))
    clear hb4 hr4 HB3
    go_wp2_with fail
    refine (K4.out _ HBW.out).mono ?_
    rintro e W5 ⟨v5, k5, s5, t5, rfl, hb5, hr5, hv5⟩
    have HB5 := hide (HBW.out.trans (hb5.mono HBW.out.size))
    have HR5 := hide hr5
    by_cases hk5 : k5 = 0
    · subst hk5
      obtain ⟨hz, hf5⟩ : chk n L g = 0 ∧ Full2 n g s5 t5 := by
        rcases HR5.out with ⟨h1, h2⟩ | ⟨h0, _, _, ⟨h1, _⟩ | ⟨_, h1, _⟩⟩
        · exact absurd h2.symm h1
        · cases h1
        · exact ⟨h0, h1⟩
      obtain ⟨g5, c5, rfl, hsp5⟩ : ∃ g5 c5, v5 = .slice (some ⟨g5, 0, none⟩) n c5 ∧ Sp (some ⟨g5, 0, none⟩) n (fun k => (s5 k : Int)) (fun k => (t5 k : Int)) W5 := by
        rcases hv5 with ⟨h, _⟩ | ⟨_, g5, c5, h1, h2⟩
        · exact absurd rfl h
        · exact ⟨g5, c5, h1, h2⟩
      have KH := hide (K6.out (some ⟨g5, 0, none⟩) c5 (fun k => (s5 k : Int)) (fun k => (t5 k : Int)) W5 HB5.out hsp5)
      rw [(hld_of_full (L := L) hz hf5).1, (hld_of_full (L := L) hz hf5).2] at KH
      clear hr5 hv5 hf5 hsp5 hb5 HR5
      go_wp2_with fail
      refine KH.out.mono ?_
      rintro e W6 ⟨rfl, hb6⟩
      have HB6 := hide (HB5.out.trans (hb6.mono HB5.out.size))
      clear hb6 KH
      go_wp2
      go_ret
      exact ⟨rfl, HB6.out⟩
    · obtain rfl : v5 = .slice none 0 0 := by
        rcases hv5 with ⟨_, h⟩ | ⟨h, _⟩
        · exact h
        · exact absurd h hk5
      clear hr5 hv5 hb5
      go_wp2
      go_ret
      exact ⟨rfl, HB5.out⟩
end Go.Proofs.YtnaggcadmfmibaaDoor
