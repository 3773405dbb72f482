/- The empty period, read. -/
import Derived.Test.YtcffomellimmiaaGreatDoorPerL
namespace Go.Proofs.YtcffomellimmiaaGreatDoor
open Go.RowKit Go.Shelf
set_option linter.unusedVariables false
set_option linter.unusedSimpArgs false

theorem zero_back (w : World) (hw : Hd w) : Calls Tryz.prog 15 #[.string ⟨#[80, 84, 48, 83]⟩] w fun e w' => ∃ k2 : Int, e = .returned (.tuple #[.agg #[.int .i64 0, .int .i64 0, .int .i64 0, .int .i64 0, .int .i64 0], .int .i64 0, .int .i64 k2]) ∧ Below w.heap.size w w' := by
  have hl : segL (ps2 none none (some 0)) = [48, 83] := by simp [segL, ps2, ptL, Lib.decDigits]
  have hl0 : segL (ps1 none none none none) = [] := by simp [segL, ps1, ptL]
  have hseg : Tx.Seg ⟨#[80, 84, 48, 83]⟩ 0 (80 :: (segL (ps1 none none none none) ++ 84 :: segL (ps2 none none (some 0)))) := by
    rw [hl, hl0]; exact Tx.Seg.whole ⟨#[80, 84, 48, 83]⟩
  have hnx : Nx ⟨#[80, 84, 48, 83]⟩ 0 45 false := Nx.no hseg (by decide)
  have hp := fun b W hW => period_secs b ⟨#[80, 84, 48, 83]⟩ 0 none none none none none none (some 0) W hW (by decide) hseg (.inl (by rw [hl, hl0]; decide)) (by rw [hl]; decide)
  have hpo := pperiod_ok ⟨#[80, 84, 48, 83]⟩ false 4 0 0 0 0 0
  refine ppp_gen _ _ _ _ _ _ 0 (fun _ => .nilIface) (fun _ _ => True) (fun _ _ _ _ _ => trivial) w hw (fun W => ?_) (fun B X hX _ => tell_nil X) (fun B X hX _ => (where_nil X).mono fun e w' ⟨he, hB⟩ => ⟨-1, he, hB⟩)
  refine (hpo W (by decide) (by decide) hnx (by omega) (by omega) (by omega) (by omega) (by omega) (fun b V hV => (hp b V hV).mono fun e w' g => ?_)).mono fun e w' ⟨he, hB⟩ => ⟨0, by rw [he]; rfl, trivial, hB⟩
  rcases g with ⟨_, g5, g6, g7⟩ | ⟨g, _⟩
  · rw [hl, hl0] at g6
    exact ⟨by rw [g5]; rfl, g6, g7⟩
  · exfalso
    obtain ⟨p, hp, v, hv, hb⟩ := g
    simp only [ps1, ps2, List.cons_append, List.nil_append, List.mem_cons, List.not_mem_nil, or_false] at hp
    rcases hp with rfl | rfl | rfl | rfl | rfl | rfl | rfl <;> simp at hv <;> omega
