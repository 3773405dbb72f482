/- package span: Holds; plain.SpanHolds; the reference's Holds. -/
import Derived.Test.YtnacplnddopomaaDoorSpnK
namespace Go.Proofs.YtnacplnddopomaaDoor
open Go.RowKit
set_option linter.unusedVariables false
set_option linter.unusedSimpArgs false

theorem anyB_false {b : Nat → Bool} : ∀ n, anyB b n = false → ∀ k, k < n → b k = false := fun n h k hk => by
  cases hb : b k with
  | false => rfl
  | true => rw [anyB_hit hb n hk] at h; cases h
theorem chkF_ok {n : Nat} {L : Nat → Nat} {g : Nat → Nat → Int} : ∀ k, chkF n L g k = 0 → ∀ r, n - k ≤ r → r < n → L r = n ∧ anyB (fun c => noSet (g r c)) n = false
  | 0, _, r, h1, h2 => by omega
  | k + 1, h, r, h1, h2 => by
    unfold chkF at h
    split at h
    · rename_i hL
      split at h
      · cases h
      · rename_i hb
        rcases Nat.eq_or_lt_of_le h1 with he | hl
        · rw [← he]; exact ⟨hL, by simpa using hb⟩
        · exact chkF_ok k h r (by omega) h2
    · cases h
theorem chk_ok {n : Nat} {L : Nat → Nat} {g : Nat → Nat → Int} (h : chk n L g = 0) : 1 ≤ n ∧ n ≤ 6 ∧ (∀ r, r < n → L r = n) ∧ ∀ r c, r < n → c < n → 0 ≤ g r c ∧ g r c ≤ 8191 := by
  unfold chk at h
  split at h
  · cases h
  · rename_i hl
    refine ⟨by omega, by omega, fun r hr => (chkF_ok n h r (by omega) hr).1, fun r c hr hc => ?_⟩
    have := anyB_false n (chkF_ok n h r (by omega) hr).2 c hc
    unfold noSet at this
    simpa using this
theorem NetAt.sq {ad : Option Addr} {n : Nat} {A : Nat → Option Addr} {L C : Nat → Nat} {g : Nat → Nat → Int} {X : World} (h : NetAt ad n A L C g X) (hL : ∀ r, r < n → L r = n) : NetAt ad n A (fun _ => n) C g X :=
  ⟨fun r hr => by obtain ⟨a, ha, hc⟩ := h.rows r hr; exact ⟨a, ha, by rw [hc]; dsimp only; rw [hL r hr]⟩, fun r hr => by have := h.sets r hr; rw [hL r hr] at this; exact this⟩
theorem chk_no {n : Nat} {L : Nat → Nat} {g : Nat → Nat → Int} : chk n L g = 0 ∨ chk n L g = 1 ∨ chk n L g = 5 ∨ chk n L g = 6 := by
  have h : ∀ k, chkF n L g k = 0 ∨ chkF n L g k = 1 ∨ chkF n L g k = 5 := by
    intro k
    induction k with
    | zero => exact .inl rfl
    | succ k ih =>
      unfold chkF
      split
      · split
        · exact .inr (.inl rfl)
        · exact ih
      · exact .inr (.inr rfl)
  unfold chk
  split
  · exact .inr (.inr (.inr rfl))
  · rcases h n with h | h | h
    · exact .inl h
    · exact .inr (.inl h)
    · exact .inr (.inr (.inl h))
/-- what Holds tells -/
def hldE (n m : Nat) (L : Nat → Nat) (g : Nat → Nat → Int) (s t : Nat → Int) : Int :=
  if chk n L g = 0 then (if m = n then (if anyB (fun c => decide (t c ≤ s c)) n then 13 else 0) else 5) else chk n L g
def hldR (n m : Nat) (L : Nat → Nat) (g : Nat → Nat → Int) (s t : Nat → Int) : Bool := decide (hldE n m L g s t = 0) && lieA g s t n n
set_option maxHeartbeats 4000000 in
theorem holds_any (ad al : Option Addr) (n m cap capl : Nat) (A : Nat → Option Addr) (L C : Nat → Nat) (g : Nat → Nat → Int) (s t : Nat → Int) (w : World)
    (h : NetAt ad n A L C g w) (hs : Sp al m s t w) :
    Calls Tryd.prog 38 #[.slice ad n cap, .slice al m capl] w fun e w' => e = .returned (.tuple #[.bool (hldR n m L g s t), ek (hldE n m L g s t)]) ∧ Below w.heap.size w w' := by
  have K1 := hide (check_any ad n cap A L C g w h)
  unfold hldR
  by_cases hz : chk n L g = 0
  · obtain ⟨n1, n6, hL, hg⟩ := chk_ok hz
    rw [hz, ek_0] at K1
    by_cases hm : m = n
    · subst hm
      have K2 := hide (conSpan al m capl s t w hs (by omega))
      by_cases hb : anyB (fun c => decide (t c ≤ s c)) m = true
      · have e1 : hldE m m L g s t = 13 := by unfold hldE; rw [if_pos hz, if_pos rfl, if_pos hb]
        rw [e1, ek_no (by decide)]
        rw [hb] at K2
        clear e1 hb hz hL hg h hs
        go_enter Tryd.func38, Tryd.ntmps38
        go_wp2_with fail
        refine K1.out.mono ?_
        rintro e W ⟨rfl, rfl⟩
        go_wp2_with fail
        refine K2.out.mono ?_
        rintro e W2 ⟨rfl, hB⟩
        go_wp2
        go_ret2
        exact ⟨rfl, hB⟩
      · have e1 : hldE m m L g s t = 0 := by unfold hldE; rw [if_pos hz, if_pos rfl, if_neg hb]
        rw [e1, ek_0]
        rw [show anyB (fun c => decide (t c ≤ s c)) m = false by simpa using hb] at K2
        have K3 := hide (fun W (hB : Below w.heap.size w W) => lieso_any ad al m cap capl A C g s t W (by omega) ((h.sq hL).step hB) (hs.step hB))
        generalize lieA g s t m m = x at *
        clear e1 hb hz hL hg h hs
        go_enter Tryd.func38, Tryd.ntmps38
        go_wp2_with fail
        refine K1.out.mono ?_
        rintro e W ⟨rfl, rfl⟩
        go_wp2_with fail
        refine K2.out.mono ?_
        rintro e W2 ⟨rfl, hB⟩
        go_wp2_with fail
        refine (K3.out _ hB).mono ?_
        rintro e W3 ⟨rfl, hB3⟩
        go_wp2
        go_ret2
        exact ⟨by simp, hB.trans (hB3.mono hB.size)⟩
    · have e1 : hldE n m L g s t = 5 := by unfold hldE; rw [if_pos hz, if_neg hm]
      rw [e1, ek_no (by decide)]
      have hmi : ¬ (m : Int) = n := by omega
      clear e1 hm hz hL hg h hs
      go_enter Tryd.func38, Tryd.ntmps38
      go_wp2_with fail
      refine K1.out.mono ?_
      rintro e W ⟨rfl, rfl⟩
      go_wp2
      go_ret2
      exact ⟨rfl, Below.refl _ _⟩
  · have e1 : hldE n m L g s t = chk n L g := by unfold hldE; rw [if_neg hz]
    rw [e1, ek_no hz, show decide (chk n L g = 0) = false from decide_eq_false hz]
    rw [ek_no hz] at K1
    generalize chk n L g = z at *
    clear e1 hz h hs
    go_enter Tryd.func38, Tryd.ntmps38
    go_wp2_with fail
    refine K1.out.mono ?_
    rintro e W ⟨rfl, rfl⟩
    go_wp2
    go_ret2
    exact ⟨rfl, Below.refl _ _⟩
theorem pholds_any (ad al : Option Addr) (n m cap capl : Nat) (A : Nat → Option Addr) (L C : Nat → Nat) (g : Nat → Nat → Int) (s t : Nat → Int) (w : World) (hd : Hd w)
    (h : NetAt ad n A L C g w) (hs : Sp al m s t w) :
    Calls Tryd.prog 18 #[.slice ad n cap, .slice al m capl] w fun e w' => e = .returned (.tuple #[.bool (hldR n m L g s t), .int .i64 (hldE n m L g s t)]) ∧ Below w.heap.size w w' := by
  have K := hide (holds_any ad al n m cap capl A L C g s t w h hs)
  have KT := hide (fun W (hB : Below w.heap.size w W) => tell_ek (hldE n m L g s t) W (hd.later hB))
  generalize hldR n m L g s t = x at *
  generalize hldE n m L g s t = z at *
  generalize ek z = E at *
  clear h hs hd
  go_enter Tryd.func18, Tryd.ntmps18
  go_wp2_with fail
  refine K.out.mono ?_
  rintro e W ⟨rfl, hB⟩
  go_wp2_with fail
  refine (KT.out _ hB).mono ?_
  rintro e W2 ⟨rfl, b2⟩
  go_wp2
  go_ret2
  exact ⟨rfl, hB.trans (b2.mono hB.size)⟩
set_option maxHeartbeats 8000000 in
theorem rholds_any (ad al : Option Addr) (n m cap capl : Nat) (A : Nat → Option Addr) (L C : Nat → Nat) (g : Nat → Nat → Int) (s t : Nat → Int) (w : World)
    (h : NetAt ad n A L C g w) (hs : Sp al m s t w) :
    Calls Tryd.prog 19 #[.slice ad n cap, .slice al m capl] w fun e w' => e = .returned (.tuple #[.bool (hldR n m L g s t), .int .i64 (hldE n m L g s t)]) ∧ Below w.heap.size w w' := by
  have K1 := hide (rcheck_any ad n cap A L C g w h)
  unfold hldR
  by_cases hz : chk n L g = 0
  · obtain ⟨n1, n6, hL, hg⟩ := chk_ok hz
    rw [hz] at K1
    by_cases hm : m = n
    · subst hm
      have H := hide (h.sq hL)
      have HS := hide hs
      have HE : Hid (hldE m m L g s t = if anyB (fun c => decide (t c ≤ s c)) m then 13 else 0) := by unfold hldE; rw [if_pos hz, if_pos rfl]; trivial
      generalize hldE m m L g s t = z at *
      have KW := hide rway_any
      have KH := hide in_any
      clear hz hL hg h hs
      go_enter Tryd.func19, Tryd.ntmps19
      go_wp2_with fail
      refine K1.out.mono ?_
      rintro e W ⟨rfl, rfl⟩
      go_wp2_with fail
      go_loopw [7] (fun i wr => ∃ r : Nat, r ≤ m ∧ i = .int .i64 r ∧ anyB (fun c => decide (t c ≤ s c)) r = false ∧ Below W.heap.size W wr) (fun i _ => m - (intOf i).toNat)
      case atStart => exact ⟨0, by omega, rfl, rfl, Below.refl _ _⟩
      case round =>
        obtain ⟨r, hr, rfl, hno, hb⟩ := hrel
        have HNO := hide hno
        have HB := hide hb
        clear hno hb
        by_cases hlt : r < m
        · obtain ⟨a, rfl, hc, hc2⟩ := (Sp.step HS.out HB.out) r hlt
          rw [add_one] at hc2
          have hri : (r : Int) < m := by omega
          have HB1 : Hid (anyB (fun c => decide (t c ≤ s c)) (r + 1) = (anyB (fun c => decide (t c ≤ s c)) r || decide (t r ≤ s r))) := rfl
          have HH := hide (fun h : decide (t r ≤ s r) = true => anyB_hit (b := fun c => decide (t c ≤ s c)) h m hlt)
          go_wp2_with fail
          go_quiet (fail)
          have HBD := hide (below_dr HB.out nq)
          by_cases ht : t r ≤ s r
          · rw [decide_eq_true ht] at HH
            rw [HH.out rfl] at HE
            go_wp2
            go_ret2
            exact ⟨by rw [HE.out]; rfl, HBD.out⟩
          · rw [decide_eq_false ht] at HB1
            go_wp2
            go_roundw
            case rel => exact ⟨r + 1, by omega, by go_num, by rw [HB1.out, HNO.out]; rfl, HBD.out⟩
            case measure => simp [intOf]; omega
        · have hrm : r = m := by omega
          have hmi : (m : Int) ≤ r := by omega
          rw [hrm] at HNO
          rw [HNO.out] at HE
          have HLT : Hid (∀ k, k < m → s k < t k) := fun k hk => by have := anyB_false m HNO.out k hk; simpa using this
          clear HNO hr hlt hrm
          go_wp2_with fail
          clear hmi
          first | generalize decide (r < m) = b0 | generalize decide ((r : Int) < (m : Int)) = b0
          go_loopw [8] (fun i wr => ∃ r : Nat, r ≤ m ∧ i = .int .i64 r ∧ lieA g s t m r = true ∧ Below W.heap.size W wr) (fun i _ => m - (intOf i).toNat)
          case atStart => exact ⟨0, by omega, rfl, rfl, HB.out⟩
          case round =>
            clear HB
            obtain ⟨r, hr, rfl, hyes, hb⟩ := hrel
            have HY := hide hyes
            have HB := hide hb
            clear hyes hb
            by_cases hlt : r < m
            · have hri : (r : Int) < m := by omega
              go_wp2_with fail
              go_loopw [9] (fun i wr => ∃ k : Nat, k ≤ m ∧ i = .int .i64 k ∧ lieR g s t r k = true ∧ Below W.heap.size W wr) (fun i _ => m - (intOf i).toNat)
              case atStart => exact ⟨0, by omega, rfl, rfl, HB.out⟩
              case round =>
                clear HB
                obtain ⟨k, hk, rfl, hyes, hb⟩ := hrel
                have HY2 := hide hyes
                have HB := hide hb
                clear hyes hb
                by_cases hkt : k < m
                · have hki : (k : Int) < m := by omega
                  obtain ⟨a, rfl, c0⟩ := (H.out.step HB.out).rows r hlt
                  obtain ⟨a', ha', c1⟩ := (H.out.step HB.out).sets r hlt k hkt
                  obtain ⟨l, rfl, s0, s1⟩ := (HS.out.step HB.out) r hlt
                  obtain ⟨l2, hl2, t0, t1⟩ := (HS.out.step HB.out) k hkt
                  obtain rfl := Option.some.inj hl2
                  rw [add_one] at s1 t1
                  dsimp only at c0
                  rw [ha'] at c0
                  clear ha' hl2
                  have KQ := hide (fun W => KW.out (s r) (t r) (s k) (t k) W (HLT.out r hlt) (HLT.out k hkt))
                  have hq := Spn.way_lt (s r) (t r) (s k) (t k)
                  have HR : Hid (lieR g s t r (k + 1) = (lieR g s t r k && hasB (g r k) (Spn.way (s r) (t r) (s k) (t k)))) := rfl
                  have HN := hide (fun h : hasB (g r k) (Spn.way (s r) (t r) (s k) (t k)) = false => lieA_no (lieR_no h m hkt) m hlt)
                  generalize Spn.way (s r) (t r) (s k) (t k) = q at *
                  have KX := hide (fun W => KH.out (g r k) q W (by omega))
                  generalize hasB (g r k) q = x at *
                  go_wp2_with fail
                  have hS := keep6 (And.intro (And.intro (And.intro c0 c1) (And.intro (And.intro s0 s1) (And.intro t0 t1))) HB.out) (Below.drew (Below.refl _ wr))
                  go_region_held3 (fun X => ((X.cell? (a.add r) = some (.slice (some a') m (C r)) ∧ X.cell? (a'.add k) = some (.int .i64 (g r k))) ∧ (X.cell? (l.add (r * 2)) = some (.int .i64 (s r)) ∧ X.cell? ⟨(l.add (r * 2)).block, (l.add (r * 2)).off + 1, none⟩ = some (.int .i64 (t r))) ∧ (X.cell? (l.add (k * 2)) = some (.int .i64 (s k)) ∧ X.cell? ⟨(l.add (k * 2)).block, (l.add (k * 2)).off + 1, none⟩ = some (.int .i64 (t k)))) ∧ Below W.heap.size W X)
                    (first | (with_reducible exact hS))
                    (first
                      | (go_at_call 29; refine (KQ.out _).mono ?_; rintro e X ⟨rfl, hx⟩; have hS := keep6 hS hx)
                      | (go_at_call 32; refine (KX.out _).mono ?_; rintro e X ⟨rfl, rfl⟩))
                  have hB := hS.2
                  clear hS c0 c1 s0 s1 t0 t1
                  cases x
                  · go_wp2
                    go_ret2
                    exact ⟨by rw [HN.out trivial, HE.out]; rfl, hB⟩
                  · go_wp2
                    go_roundw
                    case rel => exact ⟨k + 1, by omega, by go_num, by rw [HR.out, HY2.out]; rfl, hB⟩
                    case measure => simp [intOf]; omega
                · have hkn : k = m := by omega
                  have hki : (m : Int) ≤ k := by omega
                  rw [hkn] at HY2
                  have HA : Hid (lieA g s t m (r + 1) = (lieA g s t m r && lieR g s t r m)) := rfl
                  go_wp2
                  go_roundw
                  case rel => exact ⟨r + 1, by omega, by go_num, by rw [HA.out, HY.out, HY2.out]; rfl, HB.out⟩
                  case measure => simp [intOf]; omega
            · have hrn : r = m := by omega
              have hni : (m : Int) ≤ r := by omega
              rw [hrn] at HY
              go_wp2
              go_ret2
              exact ⟨by rw [HY.out, HE.out]; rfl, HB.out⟩
    · have e1 : hldE n m L g s t = 5 := by unfold hldE; rw [if_pos hz, if_neg hm]
      rw [e1]
      have hmi : ¬ (m : Int) = n := by omega
      clear e1 hm hz hL hg h hs
      go_enter Tryd.func19, Tryd.ntmps19
      go_wp2_with fail
      refine K1.out.mono ?_
      rintro e W ⟨rfl, rfl⟩
      go_wp2
      go_ret2
      exact ⟨rfl, Below.refl _ _⟩
  · have e1 : hldE n m L g s t = chk n L g := by unfold hldE; rw [if_neg hz]
    rw [e1, show decide (chk n L g = 0) = false from decide_eq_false hz]
    generalize chk n L g = z at *
    have hzi : ¬ z = 0 := hz
    clear e1 hz h hs
    go_enter Tryd.func19, Tryd.ntmps19
    go_wp2_with fail
    refine K1.out.mono ?_
    rintro e W ⟨rfl, rfl⟩
    go_wp2
    go_ret2
    exact ⟨rfl, Below.refl _ _⟩
end Go.Proofs.YtnacplnddopomaaDoor
