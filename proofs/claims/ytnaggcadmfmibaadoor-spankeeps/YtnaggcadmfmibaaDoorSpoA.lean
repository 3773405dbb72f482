/- The reference's lists of sets, held against each other; CloseNet, whole. -/
import Derived.Test.YtnaggcadmfmibaaDoorSpnY
import Derived.Test.YtnaggcadmfmibaaDoorSpnZ
namespace Go.Proofs.YtnaggcadmfmibaaDoor
open Go.RowKit
set_option linter.unusedVariables false
set_option linter.unusedSimpArgs false

set_option maxHeartbeats 4000000 in
theorem rclose_no (ad : Option Addr) (n cap : Nat) (A : Nat → Option Addr) (L C : Nat → Nat) (g : Nat → Nat → Int) (w : World) (hz : ¬ chk n L g = 0) (h : NetAt ad n A L C g w) :
    Calls Tryd.prog 12 #[.slice ad n cap] w fun e w' => e = .returned (.tuple #[.slice none 0 0, .int .i64 (chk n L g)]) ∧ Below w.heap.size w w' := by
  have K1 := hide (rcheck_any ad n cap A L C g w h)
  generalize chk n L g = k at *
  clear h
  go_enter Tryd.func12, Tryd.ntmps12
  go_wp2_with fail
  refine K1.out.mono ?_
  rintro e X ⟨rfl, rfl⟩
  go_wp2
  go_ret2
  exact ⟨rfl, Below.refl _ _⟩
theorem rclose_any (ad : Option Addr) (n cap : Nat) (A : Nat → Option Addr) (L C : Nat → Nat) (g : Nat → Nat → Int) (w : World) (h : NetAt ad n A L C g w) :
    Calls Tryd.prog 12 #[.slice ad n cap] w fun e w' => ∃ (k : Int), Below w.heap.size w w' ∧
      ((¬ k = 0 ∧ e = .returned (.tuple #[.slice none 0 0, .int .i64 k]) ∧ ((¬ chk n L g = 0 ∧ k = chk n L g) ∨ (chk n L g = 0 ∧ k = 12 ∧ ∃ N, Great n (cpN n g n) N ∧ noWay n N n = true))) ∨
       (k = 0 ∧ chk n L g = 0 ∧ ∃ (M : Nat → Nat → Nat) (b c : Nat) (G Cp : Nat → Nat), Great n (cpN n g n) M ∧ noWay n M n = false ∧ e = .returned (.tuple #[.slice (some ⟨b, 0, none⟩) n c, .int .i64 k]) ∧ NetAt (some ⟨b, 0, none⟩) n (fun i => some ⟨G i, 0, none⟩) (fun _ => n) Cp (fun i c => (M i c : Int)) w')) := by
  by_cases hz : chk n L g = 0
  · obtain ⟨n1, n6, hL, hg⟩ := chk_ok hz
    obtain ⟨a, rfl, -⟩ := h.rows 0 (by omega)
    have hz' : chk n (fun _ => n) g = 0 := by rw [← hz]; exact (chk_sq n1 hL).symm
    refine (rclose_ok a n cap A C g w hz' (h.sq hL)).mono ?_
    rintro e w' ⟨hb, N, hgr, ⟨hnw, rfl⟩ | ⟨hnw, b, c, G, Cp, rfl, hn⟩⟩
    · exact ⟨12, hb, .inl ⟨by decide, rfl, .inr ⟨hz, rfl, N, hgr, hnw⟩⟩⟩
    · exact ⟨0, hb, .inr ⟨rfl, hz, N, b, c, G, Cp, hgr, hnw, rfl, hn⟩⟩
  · refine (rclose_no ad n cap A L C g w hz h).mono ?_
    rintro e w' ⟨rfl, hb⟩
    exact ⟨_, hb, .inl ⟨hz, rfl, .inl ⟨hz, rfl⟩⟩⟩
end Go.Proofs.YtnaggcadmfmibaaDoor
