/- package span: Holds; plain.SpanHolds; the reference's Holds. -/
import Derived.Test.YtnaggcadmfmibaaDoorSpnK
namespace Go.Proofs.YtnaggcadmfmibaaDoor
open Go.RowKit
set_option linter.unusedVariables false
set_option linter.unusedSimpArgs false

theorem anyB_false {b : Nat → Bool} : ∀ n, anyB b n = false → ∀ k, k < n → b k = false := fun n h k hk => by
  cases hb : b k with
  | false => rfl
  | true => rw [anyB_hit hb n hk] at h; cases h
theorem chkF_ok {n : Nat} {L : Nat → Nat} {g : Nat → Nat → Int} : ∀ k, chkF n L g k = 0 → ∀ r, n - k ≤ r → r < n → L r = n ∧ anyB (fun c => noSet (g r c)) n = false
  | 0, _, r, h1, h2 => by omega
  | k + 1, h, r, h1, h2 => by
    unfold chkF at h
    split at h
    · rename_i hL
      split at h
      · cases h
      · rename_i hb
        rcases Nat.eq_or_lt_of_le h1 with he | hl
        · rw [← he]; exact ⟨hL, by simpa using hb⟩
        · exact chkF_ok k h r (by omega) h2
    · cases h
theorem chk_ok {n : Nat} {L : Nat → Nat} {g : Nat → Nat → Int} (h : chk n L g = 0) : 1 ≤ n ∧ n ≤ 6 ∧ (∀ r, r < n → L r = n) ∧ ∀ r c, r < n → c < n → 0 ≤ g r c ∧ g r c ≤ 8191 := by
  unfold chk at h
  split at h
  · cases h
  · rename_i hl
    refine ⟨by omega, by omega, fun r hr => (chkF_ok n h r (by omega) hr).1, fun r c hr hc => ?_⟩
    have := anyB_false n (chkF_ok n h r (by omega) hr).2 c hc
    unfold noSet at this
    simpa using this
theorem NetAt.sq {ad : Option Addr} {n : Nat} {A : Nat → Option Addr} {L C : Nat → Nat} {g : Nat → Nat → Int} {X : World} (h : NetAt ad n A L C g X) (hL : ∀ r, r < n → L r = n) : NetAt ad n A (fun _ => n) C g X :=
  ⟨fun r hr => by obtain ⟨a, ha, hc⟩ := h.rows r hr; exact ⟨a, ha, by rw [hc]; dsimp only; rw [hL r hr]⟩, fun r hr => by have := h.sets r hr; rw [hL r hr] at this; exact this⟩
theorem chk_no {n : Nat} {L : Nat → Nat} {g : Nat → Nat → Int} : chk n L g = 0 ∨ chk n L g = 1 ∨ chk n L g = 5 ∨ chk n L g = 6 := by
  have h : ∀ k, chkF n L g k = 0 ∨ chkF n L g k = 1 ∨ chkF n L g k = 5 := by
    intro k
    induction k with
    | zero => exact .inl rfl
    | succ k ih =>
      unfold chkF
      split
      · split
        · exact .inr (.inl rfl)
        · exact ih
      · exact .inr (.inr rfl)
  unfold chk
  split
  · exact .inr (.inr (.inr rfl))
  · rcases h n with h | h | h
    · exact .inl h
    · exact .inr (.inl h)
    · exact .inr (.inr (.inl h))
/-- what Holds tells -/
def hldE (n m : Nat) (L : Nat → Nat) (g : Nat → Nat → Int) (s t : Nat → Int) : Int :=
  if chk n L g = 0 then (if m = n then (if anyB (fun c => decide (t c ≤ s c)) n then 13 else 0) else 5) else chk n L g
def hldR (n m : Nat) (L : Nat → Nat) (g : Nat → Nat → Int) (s t : Nat → Int) : Bool := decide (hldE n m L g s t = 0) && lieA g s t n n
set_option maxHeartbeats 4000000 in
theorem holds_any (ad al : Option Addr) (n m cap capl : Nat) (A : Nat → Option Addr) (L C : Nat → Nat) (g : Nat → Nat → Int) (s t : Nat → Int) (w : World)
    (h : NetAt ad n A L C g w) (hs : Sp al m s t w) :
    Calls Tryd.prog 14 #[.slice ad n cap, .slice al m capl] w fun e w' => e = .returned (.tuple #[.bool (hldR n m L g s t), ek (hldE n m L g s t)]) ∧ Below w.heap.size w w' := by
  have K1 := hide (check_any ad n cap A L C g w h)
  unfold hldR
  by_cases hz : chk n L g = 0
  · obtain ⟨n1, n6, hL, hg⟩ := chk_ok hz
    rw [hz, ek_0] at K1
    by_cases hm : m = n
    · subst hm
      have K2 := hide (conSpan al m capl s t w hs (by omega))
      by_cases hb : anyB (fun c => decide (t c ≤ s c)) m = true
      · have e1 : hldE m m L g s t = 13 := by unfold hldE; rw [if_pos hz, if_pos rfl, if_pos hb]
        rw [e1, ek_no (by decide)]
        rw [hb] at K2
        clear e1 hb hz hL hg h hs
        go_enter Tryd.func14, Tryd.ntmps14
        go_wp2_with fail
        refine K1.out.mono ?_
        rintro e W ⟨rfl, rfl⟩
        go_wp2_with fail
        refine K2.out.mono ?_
        rintro e W2 ⟨rfl, hB⟩
        go_wp2
        go_ret2
        exact ⟨rfl, hB⟩
      · have e1 : hldE m m L g s t = 0 := by unfold hldE; rw [if_pos hz, if_pos rfl, if_neg hb]
        rw [e1, ek_0]
        rw [show anyB (fun c => decide (t c ≤ s c)) m = false by simpa using hb] at K2
        have K3 := hide (fun W (hB : Below w.heap.size w W) => lieso_any ad al m cap capl A C g s t W (by omega) ((h.sq hL).step hB) (hs.step hB))
        generalize lieA g s t m m = x at *
        clear e1 hb hz hL hg h hs
        go_enter Tryd.func14, Tryd.ntmps14
        go_wp2_with fail
        refine K1.out.mono ?_
        rintro e W ⟨rfl, rfl⟩
        go_wp2_with fail
        refine K2.out.mono ?_
        rintro e W2 ⟨rfl, hB⟩
        go_wp2_with fail
        refine (K3.out _ hB).mono ?_
        rintro e W3 ⟨rfl, hB3⟩
        go_wp2
        go_ret2
        exact ⟨by simp, hB.trans (hB3.mono hB.size)⟩
    · have e1 : hldE n m L g s t = 5 := by unfold hldE; rw [if_pos hz, if_neg hm]
      rw [e1, ek_no (by decide)]
      have hmi : ¬ (m : Int) = n := by omega
      clear e1 hm hz hL hg h hs
      go_enter Tryd.func14, Tryd.ntmps14
      go_wp2_with fail
      refine K1.out.mono ?_
      rintro e W ⟨rfl, rfl⟩
      go_wp2
      go_ret2
      exact ⟨rfl, Below.refl _ _⟩
  · have e1 : hldE n m L g s t = chk n L g := by unfold hldE; rw [if_neg hz]
    rw [e1, ek_no hz, show decide (chk n L g = 0) = false from decide_eq_false hz]
    rw [ek_no hz] at K1
    generalize chk n L g = z at *
    clear e1 hz h hs
    go_enter Tryd.func14, Tryd.ntmps14
    go_wp2_with fail
    refine K1.out.mono ?_
    rintro e W ⟨rfl, rfl⟩
    go_wp2
    go_ret2
    exact ⟨rfl, Below.refl _ _⟩
theorem pholds_any (ad al : Option Addr) (n m cap capl : Nat) (A : Nat → Option Addr) (L C : Nat → Nat) (g : Nat → Nat → Int) (s t : Nat → Int) (w : World) (hd : Hd w)
    (h : NetAt ad n A L C g w) (hs : Sp al m s t w) :
    Calls Tryd.prog 8 #[.slice ad n cap, .slice al m capl] w fun e w' => e = .returned (.tuple #[.bool (hldR n m L g s t), .int .i64 (hldE n m L g s t)]) ∧ Below w.heap.size w w' := by
  have K := hide (holds_any ad al n m cap capl A L C g s t w h hs)
  have KT := hide (fun W (hB : Below w.heap.size w W) => tell_ek (hldE n m L g s t) W (hd.later hB))
  generalize hldR n m L g s t = x at *
  generalize hldE n m L g s t = z at *
  generalize ek z = E at *
  clear h hs hd
  go_enter Tryd.func8, Tryd.ntmps8
  go_wp2_with fail
  refine K.out.mono ?_
  rintro e W ⟨rfl, hB⟩
  go_wp2_with fail
  refine (KT.out _ hB).mono ?_
  rintro e W2 ⟨rfl, b2⟩
  go_wp2
  go_ret2
  exact ⟨rfl, hB.trans (b2.mono hB.size)⟩
end Go.Proofs.YtnaggcadmfmibaaDoor
