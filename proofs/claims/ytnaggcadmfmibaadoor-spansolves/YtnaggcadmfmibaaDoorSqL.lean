/- The reference's Solve; SpanSolves: the walk of the law. -/
import Derived.Test.YtnaggcadmfmibaaDoorSqK
import Derived.Test.YtnaggcadmfmibaaDoorSpoB
namespace Go.Proofs.YtnaggcadmfmibaaDoor
open Go.RowKit
set_option linter.unusedVariables false
set_option linter.unusedSimpArgs false

theorem rs_all (ad : Addr) (n cap : Nat) (A : Nat → Option Addr) (C : Nat → Nat) (g : Nat → Nat → Int) (n6 : n ≤ 6) : ∀ u, RsS ad n cap A C g u
  | 0 => rs_zero ad n cap A C g
  | u + 1 => rs_next ad n cap A C g u n6 (rs_all ad n cap A C g n6 u)
def SolW (v : Value) (n : Nat) (e : Int) (s t : Nat → Nat) (X : World) : Prop := (¬ e = 0 ∧ v = .slice none 0 0) ∨ (e = 0 ∧ ∃ al cap, v = .slice al n cap ∧ Sp al n (fun k => (s k : Int)) (fun k => (t k : Int)) X)
theorem SolV.w {v : Value} {n : Nat} {e : Int} {s t : Nat → Nat} {X : World} (h : SolV v n e s t X) : SolW v n e s t X := h.imp id fun ⟨h1, g, cap, h2, h3⟩ => ⟨h1, _, cap, h2, h3⟩
theorem SolW.step {v : Value} {n : Nat} {e : Int} {s t : Nat → Nat} {X X' : World} (h : SolW v n e s t X) (hb : Below X.heap.size X X') : SolW v n e s t X' :=
  h.imp id fun ⟨h1, g, cap, h2, h3⟩ => ⟨h1, g, cap, h2, h3.step hb⟩
set_option maxRecDepth 100000 in
set_option maxHeartbeats 8000000 in
theorem rsolve_v (ad : Option Addr) (n cap : Nat) (A : Nat → Option Addr) (L C : Nat → Nat) (g : Nat → Nat → Int) (w : World) (h : NetAt ad n A L C g w) :
    Calls Tryd.prog 6 #[.slice ad n cap] w fun e w' => ∃ (v : Value) (k : Int) (s t : Nat → Nat), e = .returned (.tuple #[v, .int .i64 k]) ∧ Below w.heap.size w w' ∧ SolR n g (chk n L g) k s t ∧ SolW v n k s t w' := by
  have K1 := hide (rclose_v ad n cap A L C g w h)
  have HG := hide (fun (hz : chk n L g = 0) => chk_ok hz)
  have H := hide h
  generalize chk n L g = kc at *
  clear h
  go_enter Tryd.func6, Tryd.ntmps6
  go_wp2_with fail
  refine K1.out.mono ?_
  rintro e W1 ⟨v0, M, k, rfl, hb1, hc, _⟩
  have HB1 := hide hb1
  have HC := hide hc
  clear hb1 hc K1
  by_cases hk : k = 0
  · subst hk
    obtain ⟨rfl⟩ : kc = 0 := by
      rcases HC.out with ⟨h1, h2⟩ | ⟨h0, _⟩
      · exact absurd h2.symm h1
      · exact h0
    obtain ⟨n1, n6, hL, hg⟩ := HG.out rfl
    obtain ⟨a, rfl, -⟩ := H.out.rows 0 (by omega)
    have KS := hide (rs_all a n cap A C g n6 n 0 none 0 (fun _ => 0) (fun _ => 0) W1 (by omega) (by omega) (.inl ⟨rfl, rfl, rfl⟩) ((H.out.sq hL).step HB1.out) (fun k hk => absurd hk (Nat.not_lt_zero _)) ⟨fun k hk => absurd hk (Nat.not_lt_zero _), fun i k hi => absurd hi (Nat.not_lt_zero _)⟩)
    clear hL hg HC HG
    go_wp2_with fail
    refine KS.out.mono ?_
    rintro e W2 ⟨v, ok, rfl, hb2, hr⟩
    have HB2 := hide (HB1.out.trans (hb2.mono HB1.out.size))
    have HR := hide hr
    clear hb2 hr KS HB1
    cases ok
    · have hno : ¬ ∃ s t, Full2 n g s t := by
        rcases HR.out with ⟨h, _⟩ | ⟨_, h⟩
        · cases h
        · rintro ⟨s, t, hf⟩
          exact h ⟨s, t, hf, fun k hk => absurd hk (Nat.not_lt_zero _)⟩
      have HNO := hide hno
      clear hno
      go_wp2_with fail
      go_ret2
      exact ⟨_, 12, fun _ => 0, fun _ => 0, rfl, HB2.out, .inr ⟨rfl, n1, n6, .inl ⟨rfl, HNO.out⟩⟩, .inl ⟨by decide, rfl⟩⟩
    · obtain ⟨al, cl, s, t, rfl, hsp, hf, hl⟩ : ∃ al cl s t, v = .slice al n cl ∧ Sp al n (fun k => (s k : Int)) (fun k => (t k : Int)) W2 ∧ Full2 n g s t ∧ Least2 n g s t 0 := by
        rcases HR.out with ⟨_, al, cl, s, t, h1, h2, h3, _, h4⟩ | ⟨h, _⟩
        · exact ⟨al, cl, s, t, h1, h2, h3, h4⟩
        · cases h
      have HS := hide (And.intro hsp (And.intro hf hl))
      clear hsp hf hl HR
      go_wp2_with fail
      go_ret2
      exact ⟨_, 0, s, t, rfl, HB2.out, .inr ⟨rfl, n1, n6, .inr ⟨rfl, HS.out.2.1, HS.out.2.2⟩⟩, .inr ⟨rfl, al, cl, rfl, HS.out.1⟩⟩
  · have hki : ¬ (k : Int) = 0 := hk
    have HRR : Hid (SolR n g kc k (fun _ => 0) (fun _ => 0)) := by
      rcases HC.out with ⟨h1, h2⟩ | ⟨h0, N', h3, ⟨h5, h6⟩ | ⟨_, h6, _⟩⟩
      · exact .inl ⟨h1, h2⟩
      · obtain ⟨n1, n6, _, hg⟩ := HG.out h0
        exact .inr ⟨h0, n1, n6, .inl ⟨h6, no_full hg h3 h5⟩⟩
      · exact absurd h6 hk
    go_wp2_with fail
    go_ret2
    exact ⟨_, k, _, _, rfl, HB1.out, HRR.out, .inl ⟨hk, rfl⟩⟩
theorem SolR.one {n : Nat} {g : Nat → Nat → Int} {kc k k' : Int} {s t s' t' : Nat → Nat} (h : SolR n g kc k s t) (h' : SolR n g kc k' s' t') : k = k' ∧ (k = 0 → ∀ i, i < n → s i = s' i ∧ t i = t' i) := by
  rcases h with ⟨h1, h2⟩ | ⟨h1, _, _, h2⟩
  · rcases h' with ⟨_, g2⟩ | ⟨g1, _⟩
    · exact ⟨h2.trans g2.symm, fun e => absurd (h2.symm.trans e) h1⟩
    · exact absurd g1 h1
  · rcases h' with ⟨g1, _⟩ | ⟨_, _, _, g2⟩
    · exact absurd h1 g1
    · rcases h2 with ⟨rfl, h3⟩ | ⟨rfl, h3, h4⟩
      · rcases g2 with ⟨rfl, _⟩ | ⟨rfl, g3, _⟩
        · exact ⟨rfl, fun h => by cases h⟩
        · exact absurd ⟨s', t', g3⟩ h3
      · rcases g2 with ⟨rfl, g3⟩ | ⟨rfl, g3, g4⟩
        · exact absurd ⟨s, t, h3⟩ g3
        · exact ⟨rfl, fun _ => least_one h3 g3 h4 g4⟩
theorem lspan_w {n : Nat} {s t s' t' : Nat → Nat} {k : Int} {v v' : Value} {X : World} (hn : n ≤ 1000) (h : SolW v n k s t X) (h' : SolW v' n k s' t' X) (he : k = 0 → ∀ i, i < n → s i = s' i ∧ t i = t' i) :
    Calls Tryd.prog 7 #[v, v'] X fun e w' => e = .returned (.bool true) ∧ Below X.heap.size X w' := by
  rcases h with ⟨hk, rfl⟩ | ⟨hk, al, c, rfl, hA⟩
  · rcases h' with ⟨_, rfl⟩ | ⟨g1, _⟩
    · exact lspan_any none none 0 0 0 (fun _ => 0) (fun _ => 0) X (by omega) (fun k hk => absurd hk (Nat.not_lt_zero _)) (fun k hk => absurd hk (Nat.not_lt_zero _))
    · exact absurd g1 hk
  · rcases h' with ⟨g1, _⟩ | ⟨_, al', c', rfl, hB⟩
    · exact absurd hk g1
    · refine lspan_any al al' n c c' (fun k => (s k : Int)) (fun k => (t k : Int)) X hn hA (fun i hi => ?_)
      obtain ⟨a, ha, h1, h2⟩ := hB i hi
      have := he hk i hi
      exact ⟨a, ha, by rw [h1]; dsimp only; rw [this.1], by rw [h2]; dsimp only; rw [this.2]⟩
set_option maxRecDepth 100000 in
set_option maxHeartbeats 8000000 in
theorem ssolves_walk (ad : Option Addr) (n cap : Nat) (A : Nat → Option Addr) (L C : Nat → Nat) (g : Nat → Nat → Int) (w : World) (hf : FT w) (h : NetAt ad n A L C g w) :
    Calls Tryd.prog 3 #[.slice ad n cap] w fun e w' => e = .returned (.bool true) ∧ Below w.heap.size w w' := by
  have H := hide h
  have K1 := hide (psolve_any ad n cap A L C g w hf h)
  have K2 := hide (fun W (hb : Below w.heap.size w W) => rsolve_v ad n cap A L C g W (H.out.step hb))
  generalize chk n L g = kc at *
  clear h hf
  by_cases h1 : n > 20
  · have h1i : (n : Int) > 20 := by omega
    go_enter Tryd.func3, Tryd.ntmps3
    go_wp2
    go_ret
    exact ⟨rfl, Below.refl _ _⟩
  · have h1i : ¬ (n : Int) > 20 := by omega
    go_enter Tryd.func3, Tryd.ntmps3
    go_wp2_with fail
    refine K1.out.mono ?_
    rintro e W1 ⟨v, k, s, t, rfl, hb1, hr, hv⟩
    go_wp2_with fail
    refine (K2.out _ hb1).mono ?_
    rintro e W2 ⟨v', k', s', t', rfl, hb2, hr', hv'⟩
    obtain ⟨rfl, hone⟩ := hr.one hr'
    have HB2 := hide (hb1.trans (hb2.mono hb1.size))
    have HL := hide (lspan_w (by omega) ((hv.step hb2).w) hv' hone)
    clear hb1 hb2 hr hr' hv hv' hone K1 K2
    go_wp2_with fail
    refine HL.out.mono ?_
    rintro e W3 ⟨rfl, hb3⟩
    have HB3 := hide (HB2.out.trans (hb3.mono HB2.out.size))
    clear hb3 HL
    go_wp2
    go_ret
    exact ⟨rfl, HB3.out⟩
end Go.Proofs.YtnaggcadmfmibaaDoor
