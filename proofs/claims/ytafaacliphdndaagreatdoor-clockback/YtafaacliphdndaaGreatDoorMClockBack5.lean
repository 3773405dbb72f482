/- sort.Search over a function that only reads: the least number of which it holds. -/
import Derived.Test.YtafaacliphdndaaGreatDoorMClockBack4
import Derived.Deep.LoopGhost
namespace Go.Proofs.YtafaacliphdndaaGreatDoor
open Go.RowKit Go.Shelf

theorem search_any (g : Nat) (lb : Array Value) (p : Int → Bool) (n k : Int) (S : Nat → Prop) (w : World) (hf : FnIs (fv g lb) (fun y => .bool (p y)) 0 n S w) (hn : 0 ≤ n) (hn2 : n ≤ 1000000) (hk0 : 0 ≤ k) (hk1 : k ≤ n)
    (h1 : ∀ i, 0 ≤ i → i < k → p i = false) (h2 : ∀ i, k ≤ i → i < n → p i = true) :
    Calls Tryz.prog 132 #[.int .i64 n, fv g lb] w fun e w' => e = .returned (.int .i64 k) ∧ ∃ q, w' = w.drewN q := by
  have en := hf.enters
  have hk := hide (fun (q : Nat) (z : Int) => hf.calls (w.drewN q) z ((Since.refl _ _).drewN q))
  clear hf
  have H1 := hide h1
  have H2 := hide h2
  clear h1 h2
  go_enter Tryz.func132, Tryz.ntmps132
  go_wp2_with fail
  go_loopw [5, 6] (fun i j wr => ∃ a b : Int, i = .int .i64 a ∧ j = .int .i64 b ∧ 0 ≤ a ∧ a ≤ k ∧ k ≤ b ∧ b ≤ n ∧ ∃ q, wr = w.drewN q) (fun i j _ => (intOf j - intOf i).toNat)
  case atStart => exact ⟨0, n, rfl, rfl, by omega, hk0, hk1, by omega, 0, rfl⟩
  case round =>
    obtain ⟨a, b, rfl, rfl, ha, hak, hkb, hbn, q, rfl⟩ := hrel
    by_cases hlt : a < b
    · have hm1 : a ≤ (a + b) / 2 := by omega
      have hm2 : (a + b) / 2 < b := by omega
      have hkm := hk.out q ((a + b) / 2) (by omega) (by omega)
      by_cases hp : (a + b) / 2 < k
      · rw [H1.out _ (by omega) hp] at hkm
        go_wp2_with (go_at_fn g; refine hkm.mono ?_; rintro e w' ⟨rfl, q2, rfl⟩)
        go_roundw
        case rel => exact ⟨(a + b) / 2 + 1, b, rfl, rfl, by omega, by omega, by omega, by omega, q + q2, by simp⟩
        case measure => simp [intOf]; omega
      · rw [H2.out _ (by omega) (by omega)] at hkm
        go_wp2_with (go_at_fn g; refine hkm.mono ?_; rintro e w' ⟨rfl, q2, rfl⟩)
        go_roundw
        case rel => exact ⟨a, (a + b) / 2, rfl, rfl, by omega, by omega, by omega, by omega, q + q2, by simp⟩
        case measure => simp [intOf]; omega
    · go_wp2
      go_ret
      exact ⟨ret_int (by omega), _, rfl⟩
end Go.Proofs.YtafaacliphdndaaGreatDoor
