/- SpanNets: the walk of the law. -/
import Derived.Test.YtnaggcadmfmibaaDoorSpoA
namespace Go.Proofs.YtnaggcadmfmibaaDoor
open Go.RowKit
set_option linter.unusedVariables false
set_option linter.unusedSimpArgs false

/-- what a closing tells -/
def CloR (n : Nat) (g : Nat → Nat → Int) (kc k : Int) (N : Nat → Nat → Nat) : Prop :=
  (¬ kc = 0 ∧ k = kc) ∨ (kc = 0 ∧ ∃ N', Great n (cpN n g n) N' ∧ ((noWay n N' n = true ∧ k = 12) ∨ (noWay n N' n = false ∧ k = 0 ∧ N = N')))
def VN (n : Nat) (M : Nat → Nat → Nat) (k : Int) (v : Value) (X : World) : Prop :=
  (¬ k = 0 ∧ v = .slice none 0 0) ∨ (k = 0 ∧ ∃ (b c : Nat) (G Cp : Nat → Nat), v = .slice (some ⟨b, 0, none⟩) n c ∧ NetAt (some ⟨b, 0, none⟩) n (fun i => some ⟨G i, 0, none⟩) (fun _ => n) Cp (fun i c => (M i c : Int)) X)
theorem VN.step {n : Nat} {M : Nat → Nat → Nat} {k : Int} {v : Value} {X Y : World} (h : VN n M k v X) (hb : Below X.heap.size X Y) : VN n M k v Y := by
  rcases h with h | ⟨hk, b, c, G, Cp, hv, hn⟩
  · exact .inl h
  · exact .inr ⟨hk, b, c, G, Cp, hv, hn.step hb⟩
theorem noWay_one {n : Nat} {S N N' : Nat → Nat → Nat} (h : Great n S N) (h' : Great n S N') : noWay n N n = noWay n N' n := by
  unfold noWay
  refine anyB_congr n fun a ha => anyB_congr n fun c hc => ?_
  rw [h.one h' a c ha hc]
theorem CloR.one {n : Nat} {g : Nat → Nat → Int} {kc k k' : Int} {N N' : Nat → Nat → Nat} (h : CloR n g kc k N) (h' : CloR n g kc k' N') : k = k' ∧ (k = 0 → ∀ i j, i < n → j < n → N i j = N' i j) := by
  rcases h with ⟨h1, h2⟩ | ⟨h1, A, hA, h2⟩
  · rcases h' with ⟨_, g2⟩ | ⟨g1, _⟩
    · exact ⟨h2.trans g2.symm, fun e => absurd (h2.symm.trans e) h1⟩
    · exact absurd g1 h1
  · rcases h' with ⟨g1, _⟩ | ⟨_, B, hB, g2⟩
    · exact absurd h1 g1
    · have e := noWay_one hA hB
      rcases h2 with ⟨a1, rfl⟩ | ⟨a1, rfl, rfl⟩
      · rcases g2 with ⟨_, rfl⟩ | ⟨b1, _⟩
        · exact ⟨rfl, fun h => by cases h⟩
        · rw [a1, b1] at e; cases e
      · rcases g2 with ⟨b1, _⟩ | ⟨_, rfl, rfl⟩
        · rw [a1, b1] at e; cases e
        · exact ⟨rfl, fun _ i j hi hj => hA.one hB i j hi hj⟩
theorem pclose_v (ad : Option Addr) (n cap : Nat) (A : Nat → Option Addr) (L C : Nat → Nat) (g : Nat → Nat → Int) (w : World) (hf : FT w) (h : NetAt ad n A L C g w) :
    Calls Tryd.prog 9 #[.slice ad n cap] w fun e w' => ∃ (v : Value) (M : Nat → Nat → Nat) (k : Int), e = .returned (.tuple #[v, .int .i64 k]) ∧ Below w.heap.size w w' ∧ CloR n g (chk n L g) k M ∧ VN n M k v w' := by
  refine (pclose_any ad n cap A L C g w hf h).mono ?_
  rintro e w' ⟨M, k, hb, hc, hv⟩
  have hc' : CloR n g (chk n L g) k M := by
    rcases hc with h1 | ⟨h1, _, _, N', h2, _, h3⟩
    · exact .inl h1
    · exact .inr ⟨h1, N', h2, h3⟩
  rcases hv with ⟨hk, rfl⟩ | ⟨hk, b, c, G, Cp, rfl, hn⟩
  · exact ⟨_, M, k, rfl, hb, hc', .inl ⟨hk, rfl⟩⟩
  · exact ⟨_, M, k, rfl, hb, hc', .inr ⟨hk, b, c, G, Cp, rfl, hn⟩⟩
theorem rclose_v (ad : Option Addr) (n cap : Nat) (A : Nat → Option Addr) (L C : Nat → Nat) (g : Nat → Nat → Int) (w : World) (h : NetAt ad n A L C g w) :
    Calls Tryd.prog 12 #[.slice ad n cap] w fun e w' => ∃ (v : Value) (M : Nat → Nat → Nat) (k : Int), e = .returned (.tuple #[v, .int .i64 k]) ∧ Below w.heap.size w w' ∧ CloR n g (chk n L g) k M ∧ VN n M k v w' := by
  refine (rclose_any ad n cap A L C g w h).mono ?_
  rintro e w' ⟨k, hb, ⟨hk, rfl, h1 | ⟨h1, rfl, N, hg, hn⟩⟩ | ⟨rfl, hz, M, b, c, G, Cp, hg, hnw, rfl, hn⟩⟩
  · exact ⟨_, fun _ _ => 0, k, rfl, hb, .inl h1, .inl ⟨hk, rfl⟩⟩
  · exact ⟨_, fun _ _ => 0, 12, rfl, hb, .inr ⟨h1, N, hg, .inl ⟨hn, rfl⟩⟩, .inl ⟨hk, rfl⟩⟩
  · exact ⟨_, M, 0, rfl, hb, .inr ⟨hz, M, hg, .inr ⟨hnw, rfl, rfl⟩⟩, .inr ⟨rfl, b, c, G, Cp, rfl, hn⟩⟩
end Go.Proofs.YtnaggcadmfmibaaDoor
