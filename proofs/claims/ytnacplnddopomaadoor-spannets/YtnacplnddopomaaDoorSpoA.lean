/- The reference's lists of sets, held against each other; CloseNet, whole. -/
import Derived.Test.YtnacplnddopomaaDoorSpnY
import Derived.Test.YtnacplnddopomaaDoorSpnZ
namespace Go.Proofs.YtnacplnddopomaaDoor
open Go.RowKit
set_option linter.unusedVariables false
set_option linter.unusedSimpArgs false

set_option maxHeartbeats 4000000 in
theorem lset_any (a1 a2 : Option Addr) (n c1 c2 : Nat) (f : Nat → Int) (w : World) (hn : n ≤ 1000) (h1 : Cs a1 n (fun k => .int .i64 (f k)) w) (h2 : Cs a2 n (fun k => .int .i64 (f k)) w) :
    Calls Tryd.prog 40 #[.slice a1 n c1, .slice a2 n c2] w fun e w' => e = .returned (.bool true) ∧ Below w.heap.size w w' := by
  have H1 := hide h1
  have H2 := hide h2
  clear h1 h2
  go_enter Tryd.func40, Tryd.ntmps40
  go_wp2_with fail
  go_loopw [5] (fun i wr => ∃ r : Nat, r ≤ n ∧ i = .int .i64 r ∧ Below w.heap.size w wr) (fun i _ => n - (intOf i).toNat)
  case atStart => exact ⟨0, by omega, rfl, Below.refl _ _⟩
  case round =>
    obtain ⟨r, hr, rfl, hb⟩ := hrel
    by_cases hlt : r < n
    · have hri : (r : Int) < n := by omega
      obtain ⟨b1, rfl, hc1⟩ := (H1.out.step hb) r hlt
      obtain ⟨b2, rfl, hc2⟩ := (H2.out.step hb) r hlt
      have HB := hide hb
      clear hb
      go_wp2_with fail
      go_region
      have hb9 := HB.out.drew
      clear HB hc1 hc2
      go_wp2
      go_roundw
      case rel => exact ⟨r + 1, by omega, by go_num, hb9⟩
      case measure => simp [intOf]; omega
    · have hri : ¬ (r : Int) < n := by omega
      go_wp2
      go_ret
      exact ⟨rfl, hb⟩
set_option maxHeartbeats 4000000 in
theorem lists_any (a1 a2 : Option Addr) (n c1 c2 : Nat) (A1 A2 : Nat → Option Addr) (C1 C2 : Nat → Nat) (g : Nat → Nat → Int) (w : World) (hn : n ≤ 1000) (h1 : NetAt a1 n A1 (fun _ => n) C1 g w) (h2 : NetAt a2 n A2 (fun _ => n) C2 g w) :
    Calls Tryd.prog 22 #[.slice a1 n c1, .slice a2 n c2] w fun e w' => e = .returned (.bool true) ∧ Below w.heap.size w w' := by
  have H1 := hide h1
  have H2 := hide h2
  clear h1 h2
  go_enter Tryd.func22, Tryd.ntmps22
  go_wp2_with fail
  go_loopw [5] (fun i wr => ∃ r : Nat, r ≤ n ∧ i = .int .i64 r ∧ Below w.heap.size w wr) (fun i _ => n - (intOf i).toNat)
  case atStart => exact ⟨0, by omega, rfl, Below.refl _ _⟩
  case round =>
    obtain ⟨r, hr, rfl, hb⟩ := hrel
    by_cases hlt : r < n
    · have hri : (r : Int) < n := by omega
      have m1 := H1.out.step hb
      have m2 := H2.out.step hb
      obtain ⟨b1, rfl, hc1⟩ := m1.rows r hlt
      obtain ⟨b2, rfl, hc2⟩ := m2.rows r hlt
      have hS : wr.drew.cell? (b1.add r) = some (.slice (A1 r) n (C1 r)) ∧ wr.drew.cell? (b2.add r) = some (.slice (A2 r) n (C2 r)) := ⟨hc1, hc2⟩
      have HD := hide ((Below.refl wr.heap.size wr).drew)
      have KL := hide (lset_any (A1 r) (A2 r) n (C1 r) (C2 r) (g r) wr.drew hn ((m1.sets r hlt).step HD.out) ((m2.sets r hlt).step HD.out))
      have HB := hide hb
      have HS := hide (And.intro (lt_of_cell hc1) (lt_of_cell hc2))
      clear hb m1 m2 hc1 hc2
      go_wp2_with fail
      go_region_held3 (fun X => X.cell? (b1.add r) = some (.slice (A1 r) n (C1 r)) ∧ X.cell? (b2.add r) = some (.slice (A2 r) n (C2 r)))
        (first | (with_reducible exact hS))
        (first | (go_at_call 40; refine KL.out.mono ?_; rintro e X ⟨rfl, hx⟩; have hS := And.intro ((hx.cell (p := b1.add r) HS.out.1).trans hS.1) ((hx.cell (p := b2.add r) HS.out.2).trans hS.2)))
      have hb9 : Below w.heap.size w X := HB.out.drew.trans (hx.mono HB.out.size)
      clear HB hS hx
      go_wp2
      go_roundw
      case rel => exact ⟨r + 1, by omega, by go_num, hb9⟩
      case measure => simp [intOf]; omega
    · have hri : ¬ (r : Int) < n := by omega
      go_wp2
      go_ret
      exact ⟨rfl, hb⟩
set_option maxHeartbeats 4000000 in
theorem rclose_no (ad : Option Addr) (n cap : Nat) (A : Nat → Option Addr) (L C : Nat → Nat) (g : Nat → Nat → Int) (w : World) (hz : ¬ chk n L g = 0) (h : NetAt ad n A L C g w) :
    Calls Tryd.prog 17 #[.slice ad n cap] w fun e w' => e = .returned (.tuple #[.slice none 0 0, .int .i64 (chk n L g)]) ∧ Below w.heap.size w w' := by
  have K1 := hide (rcheck_any ad n cap A L C g w h)
  generalize chk n L g = k at *
  clear h
  go_enter Tryd.func17, Tryd.ntmps17
  go_wp2_with fail
  refine K1.out.mono ?_
  rintro e X ⟨rfl, rfl⟩
  go_wp2
  go_ret2
  exact ⟨rfl, Below.refl _ _⟩
theorem rclose_any (ad : Option Addr) (n cap : Nat) (A : Nat → Option Addr) (L C : Nat → Nat) (g : Nat → Nat → Int) (w : World) (h : NetAt ad n A L C g w) :
    Calls Tryd.prog 17 #[.slice ad n cap] w fun e w' => ∃ (k : Int), Below w.heap.size w w' ∧
      ((¬ k = 0 ∧ e = .returned (.tuple #[.slice none 0 0, .int .i64 k]) ∧ ((¬ chk n L g = 0 ∧ k = chk n L g) ∨ (chk n L g = 0 ∧ k = 12 ∧ ∃ N, Great n (cpN n g n) N ∧ noWay n N n = true))) ∨
       (k = 0 ∧ chk n L g = 0 ∧ ∃ (M : Nat → Nat → Nat) (b c : Nat) (G Cp : Nat → Nat), Great n (cpN n g n) M ∧ noWay n M n = false ∧ e = .returned (.tuple #[.slice (some ⟨b, 0, none⟩) n c, .int .i64 k]) ∧ NetAt (some ⟨b, 0, none⟩) n (fun i => some ⟨G i, 0, none⟩) (fun _ => n) Cp (fun i c => (M i c : Int)) w')) := by
  by_cases hz : chk n L g = 0
  · obtain ⟨n1, n6, hL, hg⟩ := chk_ok hz
    obtain ⟨a, rfl, -⟩ := h.rows 0 (by omega)
    have hz' : chk n (fun _ => n) g = 0 := by rw [← hz]; exact (chk_sq n1 hL).symm
    refine (rclose_ok a n cap A C g w hz' (h.sq hL)).mono ?_
    rintro e w' ⟨hb, N, hgr, ⟨hnw, rfl⟩ | ⟨hnw, b, c, G, Cp, rfl, hn⟩⟩
    · exact ⟨12, hb, .inl ⟨by decide, rfl, .inr ⟨hz, rfl, N, hgr, hnw⟩⟩⟩
    · exact ⟨0, hb, .inr ⟨rfl, hz, N, b, c, G, Cp, hgr, hnw, rfl, hn⟩⟩
  · refine (rclose_no ad n cap A L C g w hz h).mono ?_
    rintro e w' ⟨rfl, hb⟩
    exact ⟨_, hb, .inl ⟨hz, rfl, .inl ⟨hz, rfl⟩⟩⟩
end Go.Proofs.YtnacplnddopomaaDoor
