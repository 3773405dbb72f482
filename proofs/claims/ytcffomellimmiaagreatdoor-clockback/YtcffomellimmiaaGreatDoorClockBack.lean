/- ClockBack: a time's text tells the time; so do a stamp's, and a period's. -/
import Derived.Test.YtcffomellimmiaaGreatDoorBackA
namespace Go.Proofs.YtcffomellimmiaaGreatDoor
open Go.RowKit Go.Shelf
set_option linter.unusedVariables false
set_option linter.unusedSimpArgs false

/-- the law's two arguments, in their boxes -/
def EB (t z o y m n d x : Int) (w X : World) : Prop :=
  (X.cell? ⟨w.heap.size, 0, none⟩ = some (.int .i64 t) ∧ X.cell? ⟨w.heap.size, 1, none⟩ = some (.int .i64 z) ∧ X.cell? ⟨w.heap.size, 2, none⟩ = some (.int .i64 o)) ∧
  (X.cell? ⟨w.heap.size + 1, 0, none⟩ = some (.int .i64 y) ∧ X.cell? ⟨w.heap.size + 1, 1, none⟩ = some (.int .i64 m) ∧ X.cell? ⟨w.heap.size + 1, 2, none⟩ = some (.int .i64 n) ∧ X.cell? ⟨w.heap.size + 1, 3, none⟩ = some (.int .i64 d) ∧ X.cell? ⟨w.heap.size + 1, 4, none⟩ = some (.int .i64 x)) ∧ w.heap.size + 1 < X.heap.size ∧ Below w.heap.size w X
theorem EB.step {t z o y m n d x : Int} {w X X' : World} (h : EB t z o y m n d x w X) (hb : Below X.heap.size X X') : EB t z o y m n d x w X' := by
  obtain ⟨⟨a0, a1, a2⟩, ⟨c0, c1, c2, c3, c4⟩, hl, hB⟩ := h
  have g : ∀ k j, k ≤ w.heap.size + 1 → X'.cell? ⟨k, j, none⟩ = X.cell? ⟨k, j, none⟩ := fun k j hk => hb.cell (p := ⟨k, j, none⟩) (show k < X.heap.size by omega)
  exact ⟨⟨(g _ _ (by omega)).trans a0, (g _ _ (by omega)).trans a1, (g _ _ (by omega)).trans a2⟩, ⟨(g _ _ (by omega)).trans c0, (g _ _ (by omega)).trans c1, (g _ _ (by omega)).trans c2, (g _ _ (by omega)).trans c3, (g _ _ (by omega)).trans c4⟩, Nat.lt_of_lt_of_le hl hb.size, hB.trans (hb.mono hB.size)⟩
set_option maxRecDepth 100000 in
set_option maxHeartbeats 16000000 in
theorem cback_steps (t z o y m n d x k j : Int) (T R : ByteArray) (w : World) (hd : HT w)
    (p1 : ∀ W, HT W → Calls Tryz.prog 10 #[.agg #[.int .i64 t, .int .i64 z, .int .i64 o]] W fun e w' => e = .returned (.tuple #[.string T, .int .i64 k]) ∧ Below W.heap.size W w')
    (p2 : (k != 0) = true ∨ (k = 0 ∧ ∀ W, HT W → Calls Tryz.prog 12 #[.string T] W fun e w' => e = .returned (.tuple #[.agg #[.int .i64 t, .int .i64 z, .int .i64 o], .int .i64 0, .int .i64 (-1)]) ∧ Below W.heap.size W w'))
    (p3 : ∀ W, HT W → Calls Tryz.prog 14 #[.agg #[.int .i64 y, .int .i64 m, .int .i64 n, .int .i64 d, .int .i64 x]] W fun e w' => e = .returned (.tuple #[.string R, .int .i64 j]) ∧ Below W.heap.size W w')
    (p4 : ((j != 0) = true ∧ R = ⟨#[]⟩) ∨ (j = 0 ∧ ((∀ W, HT W → Calls Tryz.prog 15 #[.string R] W fun e w' => ∃ k2 : Int, e = .returned (.tuple #[.agg #[.int .i64 y, .int .i64 m, .int .i64 n, .int .i64 d, .int .i64 x], .int .i64 0, .int .i64 k2]) ∧ Below W.heap.size W w') ∨
      (Gr y m n d x ∧ ∀ W, HT W → Calls Tryz.prog 15 #[.string R] W fun e w' => ∃ k2 : Int, e = .returned (.tuple #[.agg #[.int .i64 0, .int .i64 0, .int .i64 0, .int .i64 0, .int .i64 0], .int .i64 6, .int .i64 k2]) ∧ Below W.heap.size W w')))) :
    Calls Tryz.prog 5 #[.agg #[.int .i64 t, .int .i64 z, .int .i64 o], .agg #[.int .i64 y, .int .i64 m, .int .i64 n, .int .i64 d, .int .i64 x]] w fun r w' => r = .returned (.bool true) ∧ Below w.heap.size w w' := by
  have P1 := hide p1
  have P2 := hide p2
  have P3 := hide p3
  have P4 := hide p4
  have HD := hide (fun W (h : Below w.heap.size w W) => hd.later h)
  have h0 : EB t z o y m n d x w ((w.alloc (.cells #[.int .i64 t, .int .i64 z, .int .i64 o] 24)).alloc (.cells #[.int .i64 y, .int .i64 m, .int .i64 n, .int .i64 d, .int .i64 x] 39)) :=
    ⟨⟨by simp [go_sem], by simp [go_sem], by simp [go_sem]⟩, ⟨by simp [go_sem], by simp [go_sem], by simp [go_sem], by simp [go_sem], by simp [go_sem]⟩, by simp, ((Below.refl _ w).alloc (Nat.le_refl _) _).alloc (by simp) _⟩
  clear p1 p2 p3 p4 hd
  go_enter Tryz.func5, Tryz.ntmps5
  go_wp2_with fail
  refine (P1.out _ (HD.out _ h0.2.2.2)).mono ?_
  rintro r W1 ⟨rfl, b1⟩
  have h1 := h0.step b1
  clear h0 b1 P1
  have h1' := h1
  obtain ⟨⟨a0, a1, a2⟩, ⟨c0, c1, c2, c3, c4⟩, hl1, hB1⟩ := h1'
  refine Or.elim P2.out ?g1 ?g2
  case' g1 =>
    intro hk
    clear P2
    go_wp2_with fail
    have hE := h1
    clear h1 a0 a1 a2 c0 c1 c2 c3 c4 hl1 hB1
  case' g2 =>
    rintro ⟨rfl, hk⟩
    have PK := hide hk
    clear P2 hk
    go_wp2_with fail
    refine (PK.out _ (HD.out _ hB1)).mono ?_
    rintro r W2 ⟨rfl, b2⟩
    have h2 := h1.step b2
    have h3 := h2.step ((Below.refl _ W2).alloc (Nat.le_refl _) (.cells #[.int .i64 t, .int .i64 z, .int .i64 o] 24))
    clear h1 b2 PK a0 a1 a2 c0 c1 c2 c3 c4 hl1 hB1
    have h3' := h3
    obtain ⟨⟨a0, a1, a2⟩, ⟨c0, c1, c2, c3, c4⟩, hl2, hB2⟩ := h3'
    go_wp2_with fail
    have hE := h3
    clear h2 h3 a0 a1 a2 c0 c1 c2 c3 c4 hl2 hB2
  all_goals
    refine (P3.out _ (HD.out _ hE.2.2.2)).mono ?_
    rintro r W3 ⟨rfl, b3⟩
    have h4 := hE.step b3
    clear hE b3
    have h4' := h4
    obtain ⟨⟨a0, a1, a2⟩, ⟨c0, c1, c2, c3, c4⟩, hl4, hB4⟩ := h4'
    clear a0 a1 a2
    rcases P4.out with ⟨hj, rfl⟩ | ⟨rfl, hp⟩
    · go_wp2
      go_ret
      exact ⟨rfl, hB4⟩
    · have PP := hide hp
      clear hp P4 P3
      go_wp2_with fail
      all_goals
        clear c0 c1 c2 c3 c4 hl4
        rcases PP.out with hp | ⟨hG, hp⟩
        · clear PP
          refine (hp _ (HD.out _ hB4)).mono ?_
          rintro r W5 ⟨k2, rfl, b5⟩
          have h6 := (h4.step b5).step ((Below.refl _ W5).alloc (Nat.le_refl _) (.cells #[.int .i64 y, .int .i64 m, .int .i64 n, .int .i64 d, .int .i64 x] 39))
          obtain ⟨⟨a0, a1, a2⟩, ⟨c0, c1, c2, c3, c4⟩, hl6, hB6⟩ := h6
          clear hp h4 b5 hB4 a0 a1 a2
          go_wp2
          all_goals go_ret
          all_goals first | exact ⟨rfl, hB6⟩ | (refine ⟨?_, hB6⟩; simp)
        · have HG := hide hG
          clear PP hG
          refine (hp _ (HD.out _ hB4)).mono ?_
          rintro r W5 ⟨k2, rfl, b5⟩
          have h6 := (h4.step b5).step ((Below.refl _ W5).alloc (Nat.le_refl _) (.cells #[.int .i64 0, .int .i64 0, .int .i64 0, .int .i64 0, .int .i64 0] 39))
          obtain ⟨⟨a0, a1, a2⟩, ⟨c0, c1, c2, c3, c4⟩, hl6, hB6⟩ := h6
          clear hp h4 b5 hB4 a0 a1 a2
          go_wp2
          all_goals go_ret
          all_goals first | exact ⟨rfl, hB6⟩ | (refine ⟨?_, hB6⟩; simp; have g := HG.out; unfold Gr at g; omega)
theorem cback_walk (t z o y m n d x : Int) (w : World) (hd : HT w) :
    Calls Tryz.prog 5 #[.agg #[.int .i64 t, .int .i64 z, .int .i64 o], .agg #[.int .i64 y, .int .i64 m, .int .i64 n, .int .i64 d, .int .i64 x]] w fun r w' => r = .returned (.bool true) ∧ Below w.heap.size w w' := by
  obtain ⟨T, k, p1, p2⟩ := stamp_back t z o w
  obtain ⟨R, j, p3, p4⟩ := period_back y m n d x
  refine cback_steps t z o y m n d x k j T R w hd (fun W hW => pcstamp_gen t z o k T W (HT.hd hW) (fun V hV => p1 V (HT.later hW hV).tab)) ?_ (fun W hW => pcper_gen y m n d x j R W (HT.hd hW) (fun V hV => p3 V (HT.later hW hV).tab)) ?_
  · rcases p2 with h | ⟨h, hp⟩
    · exact .inl h
    · exact .inr ⟨h, fun W hW => pcparse_steps T t z o W hp⟩
  · rcases p4 with h | ⟨h, hp | ⟨hg, hp⟩⟩
    · exact .inl h
    · exact .inr ⟨h, .inl fun W hW => hp W hW.hd⟩
    · exact .inr ⟨h, .inr ⟨hg, fun W hW => hp W hW.hd⟩⟩
end Go.Proofs.YtcffomellimmiaaGreatDoor
