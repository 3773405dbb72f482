/- SpanNets: the walk of the law. -/
import Derived.Test.YtnacplnddopomaaDoorSpoA
namespace Go.Proofs.YtnacplnddopomaaDoor
open Go.RowKit
set_option linter.unusedVariables false
set_option linter.unusedSimpArgs false

/-- what a closing tells -/
def CloR (n : Nat) (g : Nat → Nat → Int) (kc k : Int) (N : Nat → Nat → Nat) : Prop :=
  (¬ kc = 0 ∧ k = kc) ∨ (kc = 0 ∧ ∃ N', Great n (cpN n g n) N' ∧ ((noWay n N' n = true ∧ k = 12) ∨ (noWay n N' n = false ∧ k = 0 ∧ N = N')))
def VN (n : Nat) (M : Nat → Nat → Nat) (k : Int) (v : Value) (X : World) : Prop :=
  (¬ k = 0 ∧ v = .slice none 0 0) ∨ (k = 0 ∧ ∃ (b c : Nat) (G Cp : Nat → Nat), v = .slice (some ⟨b, 0, none⟩) n c ∧ NetAt (some ⟨b, 0, none⟩) n (fun i => some ⟨G i, 0, none⟩) (fun _ => n) Cp (fun i c => (M i c : Int)) X)
theorem VN.step {n : Nat} {M : Nat → Nat → Nat} {k : Int} {v : Value} {X Y : World} (h : VN n M k v X) (hb : Below X.heap.size X Y) : VN n M k v Y := by
  rcases h with h | ⟨hk, b, c, G, Cp, hv, hn⟩
  · exact .inl h
  · exact .inr ⟨hk, b, c, G, Cp, hv, hn.step hb⟩
theorem noWay_one {n : Nat} {S N N' : Nat → Nat → Nat} (h : Great n S N) (h' : Great n S N') : noWay n N n = noWay n N' n := by
  unfold noWay
  refine anyB_congr n fun a ha => anyB_congr n fun c hc => ?_
  rw [h.one h' a c ha hc]
theorem CloR.one {n : Nat} {g : Nat → Nat → Int} {kc k k' : Int} {N N' : Nat → Nat → Nat} (h : CloR n g kc k N) (h' : CloR n g kc k' N') : k = k' ∧ (k = 0 → ∀ i j, i < n → j < n → N i j = N' i j) := by
  rcases h with ⟨h1, h2⟩ | ⟨h1, A, hA, h2⟩
  · rcases h' with ⟨_, g2⟩ | ⟨g1, _⟩
    · exact ⟨h2.trans g2.symm, fun e => absurd (h2.symm.trans e) h1⟩
    · exact absurd g1 h1
  · rcases h' with ⟨g1, _⟩ | ⟨_, B, hB, g2⟩
    · exact absurd h1 g1
    · have e := noWay_one hA hB
      rcases h2 with ⟨a1, rfl⟩ | ⟨a1, rfl, rfl⟩
      · rcases g2 with ⟨_, rfl⟩ | ⟨b1, _⟩
        · exact ⟨rfl, fun h => by cases h⟩
        · rw [a1, b1] at e; cases e
      · rcases g2 with ⟨b1, _⟩ | ⟨_, rfl, rfl⟩
        · rw [a1, b1] at e; cases e
        · exact ⟨rfl, fun _ i j hi hj => hA.one hB i j hi hj⟩
theorem pclose_v (ad : Option Addr) (n cap : Nat) (A : Nat → Option Addr) (L C : Nat → Nat) (g : Nat → Nat → Int) (w : World) (hf : FT w) (h : NetAt ad n A L C g w) :
    Calls Tryd.prog 16 #[.slice ad n cap] w fun e w' => ∃ (v : Value) (M : Nat → Nat → Nat) (k : Int), e = .returned (.tuple #[v, .int .i64 k]) ∧ Below w.heap.size w w' ∧ CloR n g (chk n L g) k M ∧ VN n M k v w' := by
  refine (pclose_any ad n cap A L C g w hf h).mono ?_
  rintro e w' ⟨M, k, hb, hc, hv⟩
  have hc' : CloR n g (chk n L g) k M := by
    rcases hc with h1 | ⟨h1, _, _, N', h2, _, h3⟩
    · exact .inl h1
    · exact .inr ⟨h1, N', h2, h3⟩
  rcases hv with ⟨hk, rfl⟩ | ⟨hk, b, c, G, Cp, rfl, hn⟩
  · exact ⟨_, M, k, rfl, hb, hc', .inl ⟨hk, rfl⟩⟩
  · exact ⟨_, M, k, rfl, hb, hc', .inr ⟨hk, b, c, G, Cp, rfl, hn⟩⟩
theorem rclose_v (ad : Option Addr) (n cap : Nat) (A : Nat → Option Addr) (L C : Nat → Nat) (g : Nat → Nat → Int) (w : World) (h : NetAt ad n A L C g w) :
    Calls Tryd.prog 17 #[.slice ad n cap] w fun e w' => ∃ (v : Value) (M : Nat → Nat → Nat) (k : Int), e = .returned (.tuple #[v, .int .i64 k]) ∧ Below w.heap.size w w' ∧ CloR n g (chk n L g) k M ∧ VN n M k v w' := by
  refine (rclose_any ad n cap A L C g w h).mono ?_
  rintro e w' ⟨k, hb, ⟨hk, rfl, h1 | ⟨h1, rfl, N, hg, hn⟩⟩ | ⟨rfl, hz, M, b, c, G, Cp, hg, hnw, rfl, hn⟩⟩
  · exact ⟨_, fun _ _ => 0, k, rfl, hb, .inl h1, .inl ⟨hk, rfl⟩⟩
  · exact ⟨_, fun _ _ => 0, 12, rfl, hb, .inr ⟨h1, N, hg, .inl ⟨hn, rfl⟩⟩, .inl ⟨hk, rfl⟩⟩
  · exact ⟨_, M, 0, rfl, hb, .inr ⟨hz, M, hg, .inr ⟨hnw, rfl, rfl⟩⟩, .inr ⟨rfl, b, c, G, Cp, rfl, hn⟩⟩
theorem lists_v {n : Nat} {M M' : Nat → Nat → Nat} {k : Int} {v v' : Value} {X : World} (hn : n ≤ 1000) (h : VN n M k v X) (h' : VN n M' k v' X) (he : k = 0 → ∀ i j, i < n → j < n → M i j = M' i j) :
    Calls Tryd.prog 22 #[v, v'] X fun e w' => e = .returned (.bool true) ∧ Below X.heap.size X w' := by
  rcases h with ⟨hk, rfl⟩ | ⟨hk, b, c, G, Cp, rfl, hA⟩
  · rcases h' with ⟨_, rfl⟩ | ⟨g1, _⟩
    · exact lists_any none none 0 0 0 (fun _ => none) (fun _ => none) (fun _ => 0) (fun _ => 0) (fun _ _ => 0) X (by omega) ⟨fun k hk => absurd hk (Nat.not_lt_zero _), fun k hk => absurd hk (Nat.not_lt_zero _)⟩ ⟨fun k hk => absurd hk (Nat.not_lt_zero _), fun k hk => absurd hk (Nat.not_lt_zero _)⟩
    · exact absurd g1 hk
  · rcases h' with ⟨g1, _⟩ | ⟨_, b', c', G', Cp', rfl, hB⟩
    · exact absurd hk g1
    · refine lists_any _ _ n c c' _ _ Cp Cp' (fun i c => (M i c : Int)) X hn hA ⟨hB.rows, fun i hi j hj => ?_⟩
      obtain ⟨a, ha, hc⟩ := hB.sets i hi j hj
      exact ⟨a, ha, by rw [hc]; dsimp only; rw [he hk i j hi hj]⟩
set_option maxRecDepth 100000 in
set_option maxHeartbeats 8000000 in
theorem snets_walk (ad al : Option Addr) (n m cap capl : Nat) (A : Nat → Option Addr) (L C : Nat → Nat) (g : Nat → Nat → Int) (s t : Nat → Int) (w : World) (hf : FT w) (h : NetAt ad n A L C g w) (hs : Sp al m s t w) :
    Calls Tryd.prog 4 #[.slice ad n cap, .slice al m capl] w fun e w' => e = .returned (.bool true) ∧ Below w.heap.size w w' := by
  have HF := hide hf
  have H := hide h
  have HS := hide hs
  have K1 := hide (pclose_v ad n cap A L C g w hf h)
  have K2 := hide (fun W (hb : Below w.heap.size w W) => rclose_v ad n cap A L C g W (H.out.step hb))
  have K3 := hide (fun W (hb : Below w.heap.size w W) => pholds_any ad al n m cap capl A L C g s t W (HF.out.later hb).1 (H.out.step hb) (HS.out.step hb))
  have K4 := hide (fun W (hb : Below w.heap.size w W) => rholds_any ad al n m cap capl A L C g s t W (H.out.step hb) (HS.out.step hb))
  have K5 := hide (fun W (hb : Below w.heap.size w W) => pcheck_any ad n cap A L C g W (HF.out.later hb).1 (H.out.step hb))
  have K6 := hide (fun W (hb : Below w.heap.size w W) => rcheck_any ad n cap A L C g W (H.out.step hb))
  generalize chk n L g = kc at *
  generalize hldR n m L g s t = hr at *
  generalize hldE n m L g s t = he at *
  clear h hs hf
  by_cases h1 : n > 20
  · have h1i : (n : Int) > 20 := by omega
    go_enter Tryd.func4, Tryd.ntmps4
    go_wp2
    go_ret
    exact ⟨rfl, Below.refl _ _⟩
  · have h1i : ¬ (n : Int) > 20 := by omega
    by_cases h2 : m > 20
    · have h2i : (m : Int) > 20 := by omega
      go_enter Tryd.func4, Tryd.ntmps4
      go_wp2
      go_ret
      exact ⟨rfl, Below.refl _ _⟩
    · have h2i : ¬ (m : Int) > 20 := by omega
      go_enter Tryd.func4, Tryd.ntmps4
      go_wp2_with fail
      refine K1.out.mono ?_
      rintro e W1 ⟨v, M, k, rfl, hb1, hc, hv⟩
      go_wp2_with fail
      refine (K2.out _ hb1).mono ?_
      rintro e W2 ⟨v', M', k', rfl, hb2, hc', hv'⟩
      obtain ⟨rfl, hone⟩ := hc.one hc'
      have HB2 := hide (hb1.trans (hb2.mono hb1.size))
      have HL := hide (fun Y (hY : Below W2.heap.size W2 Y) => lists_v (by omega) ((hv.step hb2).step hY) (hv'.step hY) hone)
      clear hb1 hb2 hc hc' hv hv' hone K1 K2
      go_wp2_with fail
      refine (K3.out _ HB2.out).mono ?_
      rintro e W3 ⟨rfl, hb3⟩
      have HB3 := hide hb3
      clear hb3 K3
      go_wp2_with fail
      refine (K4.out _ (HB2.out.trans (HB3.out.mono HB2.out.size))).mono ?_
      rintro e W4 ⟨rfl, hb4⟩
      have HB4 := hide (HB3.out.trans (hb4.mono HB3.out.size))
      clear hb4 K4 HB3
      go_wp2_with fail
      refine (K5.out _ (HB2.out.trans (HB4.out.mono HB2.out.size))).mono ?_
      rintro e W5 ⟨rfl, hb5⟩
      have HB5 := hide (HB4.out.trans (hb5.mono HB4.out.size))
      clear hb5 K5 HB4
      go_wp2_with fail
      refine (K6.out _ (HB2.out.trans (HB5.out.mono HB2.out.size))).mono ?_
      rintro e W6 ⟨rfl, rfl⟩
      go_wp2_with fail
      refine (HL.out _ HB5.out).mono ?_
      rintro e W7 ⟨rfl, hb7⟩
      have HB7 := hide (HB5.out.trans (hb7.mono HB5.out.size))
      clear hb7 K6 HB5 HL
      go_wp2
      go_ret
      exact ⟨by simp, HB2.out.trans (HB7.out.mono HB2.out.size)⟩
end Go.Proofs.YtnacplnddopomaaDoor
