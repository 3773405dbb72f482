/- package span: (*grid).lacks. -/
import Derived.Test.YtnaggcadmfmibaaDoorSpnQ
namespace Go.Proofs.YtnaggcadmfmibaaDoor
open Go.RowKit
set_option linter.unusedVariables false
set_option linter.unusedSimpArgs false

theorem anyB_iff {b : Nat → Bool} : ∀ n, anyB b n = true ↔ ∃ k, k < n ∧ b k = true
  | 0 => by unfold anyB; simp
  | n + 1 => by
    unfold anyB
    rw [Bool.or_eq_true, anyB_iff n]
    constructor
    · rintro (⟨k, hk, h⟩ | h)
      · exact ⟨k, by omega, h⟩
      · exact ⟨n, by omega, h⟩
    · rintro ⟨k, hk, h⟩
      rcases Nat.lt_or_ge k n with hl | hl
      · exact .inl ⟨k, hl, h⟩
      · have : k = n := by omega
        subst this; exact .inr h
set_option maxHeartbeats 2000000 in
theorem ixSet (ad : Addr) (n cap : Nat) (f : Nat → Int) (x : Int) (w : World) (h : ∀ k, k < n → w.cell? (ad.add k) = some (.int .i64 (f k))) (hn : n ≤ 1000) :
    Calls Tryd.prog 67 #[.slice (some ad) n cap, .int .i64 x] w fun e w' => ∃ i : Int, e = .returned (.int .i64 i) ∧ decide (0 ≤ i) = anyB (fun c => x == f c) n ∧ w' = w := by
  have H := hide h
  clear h
  go_enter Tryd.func67, Tryd.ntmps67
  go_wp2_with fail
  go_loop [8] (fun i => ∃ r : Nat, r ≤ n ∧ i = .int .i64 r ∧ anyB (fun c => x == f c) r = false) (fun i => n - (intOf i).toNat)
  case atStart => exact ⟨0, by omega, rfl, rfl⟩
  case round =>
    obtain ⟨r, hr, rfl, hno⟩ := hrel
    have HNO := hide hno
    clear hno
    by_cases hlt : r < n
    · have hc := H.out r hlt
      have hri : (r : Int) < n := by omega
      have HB : Hid (anyB (fun c => x == f c) (r + 1) = (anyB (fun c => x == f c) r || (x == f r))) := rfl
      have HH := hide (fun h : (x == f r) = true => anyB_hit (b := fun c => x == f c) h n hlt)
      by_cases hx : x = f r
      · subst hx
        have HHt := hide (HH.out (by simp))
        clear HH HB
        go_wp2
        go_ret
        exact ⟨r, rfl, by rw [HHt.out]; simp, rfl⟩
      · have hxb : (x == f r) = false := by simpa using hx
        rw [hxb] at HB
        clear HH
        go_wp2
        go_round
        case rel => exact ⟨r + 1, by omega, by go_num, by rw [HB.out, HNO.out]; rfl⟩
        case measure => simp [intOf]; omega
    · have hrn : r = n := by omega
      rw [hrn] at HNO
      have hni : (n : Int) ≤ r := by omega
      go_wp2
      go_ret
      exact ⟨-1, rfl, by rw [HNO.out]; rfl, rfl⟩
theorem coSet (ad : Addr) (n cap : Nat) (f : Nat → Int) (x : Int) (w : World) (h : ∀ k, k < n → w.cell? (ad.add k) = some (.int .i64 (f k))) (hn : n ≤ 1000) :
    Calls Tryd.prog 55 #[.slice (some ad) n cap, .int .i64 x] w fun e w' => e = .returned (.bool (anyB (fun c => x == f c) n)) ∧ w' = w := by
  have K := hide (ixSet ad n cap f x w h hn)
  generalize anyB (fun c => x == f c) n = y at *
  clear h
  go_enter Tryd.func55, Tryd.ntmps55
  go_wp2_with fail
  refine K.out.mono ?_
  rintro e W ⟨i, rfl, hi, rfl⟩
  have HI := hide hi
  clear hi
  go_wp2
  go_ret
  exact ⟨by rw [← HI.out]; rfl, rfl⟩
/-- is there a pair for which no way is left? in the first r rows -/
def noWay (n : Nat) (N : Nat → Nat → Nat) (r : Nat) : Bool := anyB (fun a => anyB (fun c => (0 : Int) == (N a c : Int)) n) r
set_option maxRecDepth 100000 in
set_option maxHeartbeats 4000000 in
theorem lacks_any (B n : Nat) (N : Nat → Nat → Nat) (w : World) (h1 : 1 ≤ n) (h6 : n ≤ 6) (h : Gr B n N w) :
    Calls Tryd.prog 35 #[.pointer (some ⟨B, 0, none⟩)] w fun e w' => e = .returned (.bool (noWay n N n)) ∧ Below w.heap.size w w' := by
  have H := hide h
  have hs := h.size
  clear h
  go_enter Tryd.func35, Tryd.ntmps35
  go_wp2_with fail
  clear hs
  go_loopw [8] (fun i wr => ∃ r : Nat, r ≤ n ∧ i = .int .i64 r ∧ noWay n N r = false ∧ Below w.heap.size w wr) (fun i _ => n - (intOf i).toNat)
  case atStart => exact ⟨0, by omega, rfl, rfl, Below.refl _ _⟩
  case round =>
    obtain ⟨r, hr, rfl, hno, hb⟩ := hrel
    have HNO := hide hno
    have HB := hide hb
    have hg := H.out.step hb
    have hs := hg.size
    clear hno hb
    by_cases hlt : r < n
    · have hri : (r : Int) < n := by omega
      have hri6 : (r : Int) < 6 := by omega
      have hn6 : (n : Int) ≤ 6 := by omega
      have HB1 : Hid (noWay n N (r + 1) = (noWay n N r || anyB (fun c => (0 : Int) == (N r c : Int)) n)) := rfl
      have HH := hide (fun h : anyB (fun c => (0 : Int) == (N r c : Int)) n = true => anyB_hit (b := fun a => anyB (fun c => (0 : Int) == (N a c : Int)) n) h n hlt)
      have KC := hide (fun q => coSet ⟨B, 1 + r * 6, none⟩ n 6 (fun c => (N r c : Int)) 0 (wr.drewN q) (fun k hk => by
        rw [Addr.add_lit]
        exact (Gr.at (show Gr B n N (wr.drewN q) from hg) r k (by omega) (by omega)).1) (by omega))
      generalize anyB (fun c => (0 : Int) == (N r c : Int)) n = y at *
      clear hg
      go_wp2_with fail
      go_quiet (first | (go_at_call 55; exact Calls.quiet_of_same (KC.out _)))
      have HBq := hide (below_dr HB.out nq)
      cases y
      · go_wp2
        go_roundw
        case rel => exact ⟨r + 1, by omega, by go_num, by rw [HB1.out, HNO.out]; rfl, HBq.out⟩
        case measure => simp [intOf]; omega
      · go_wp2
        go_ret
        refine ⟨?_, HBq.out⟩
        have := HH.out trivial
        unfold noWay
        rw [this]; rfl
    · have hrn : r = n := by omega
      have hni : (n : Int) ≤ r := by omega
      rw [hrn] at HNO
      clear hs hg
      go_wp2
      go_ret
      exact ⟨by rw [HNO.out]; rfl, HB.out⟩
end Go.Proofs.YtnaggcadmfmibaaDoor
