/- SpanComposes: Allen's composition. -/
import Derived.Test.YtnacplnddopomaaDoorSpnC
import Derived.WalkKit
import Derived.Deep.AppendLies
namespace Go.Proofs.YtnacplnddopomaaDoor
open Go.RowKit
set_option linter.unusedVariables false
set_option linter.unusedSimpArgs false

theorem infoSpan : (Tryd.prog.info? 23).map (fun i => (i.zero, i.size, i.bytes)) = some (some (.agg #[.int .i64 0, .int .i64 0]), 2, 16) := by kernel_rfl
/-- three boxes of two cells, and what was -/
def E3 (a b c d e f : Int) (w X : World) : Prop :=
  ((X.cell? ⟨w.heap.size, 0, none⟩ = some (.int .i64 a) ∧ X.cell? ⟨w.heap.size, 1, none⟩ = some (.int .i64 b)) ∧ (X.cell? ⟨w.heap.size + 1, 0, none⟩ = some (.int .i64 c) ∧ X.cell? ⟨w.heap.size + 1, 1, none⟩ = some (.int .i64 d)) ∧
    (X.cell? ⟨w.heap.size + 1 + 1, 0, none⟩ = some (.int .i64 e) ∧ X.cell? ⟨w.heap.size + 1 + 1, 1, none⟩ = some (.int .i64 f))) ∧ w.heap.size + 1 + 1 < X.heap.size ∧ Below w.heap.size w X
theorem E3.step {a b c d e f : Int} {w X X' : World} (h : E3 a b c d e f w X) (hb : Below X.heap.size X X') : E3 a b c d e f w X' := by
  obtain ⟨⟨⟨a0, a1⟩, ⟨b0, b1⟩, ⟨c0, c1⟩⟩, hl, hB⟩ := h
  have g : ∀ k j, k ≤ w.heap.size + 1 + 1 → X'.cell? ⟨k, j, none⟩ = X.cell? ⟨k, j, none⟩ := fun k j hk => hb.cell (p := ⟨k, j, none⟩) (show k < X.heap.size by omega)
  exact ⟨⟨⟨(g _ _ (by omega)).trans a0, (g _ _ (by omega)).trans a1⟩, ⟨(g _ _ (by omega)).trans b0, (g _ _ (by omega)).trans b1⟩, ⟨(g _ _ (by omega)).trans c0, (g _ _ (by omega)).trans c1⟩⟩, Nat.lt_of_lt_of_le hl hb.size, hB.trans (hb.mono hB.size)⟩
/-- what plain.SpanOf tells, of whatever spans -/
def ofE (a b c d : Int) : Int := if a < b ∧ c < d then 0 else 13
def ofR (a b c d : Int) : Int := if a < b ∧ c < d then (Spn.way a b c d : Nat) else 0
theorem pof_any (a b c d : Int) (w : World) (hd : Hd w) :
    Calls Tryd.prog 8 #[.agg #[.int .i64 a, .int .i64 b], .agg #[.int .i64 c, .int .i64 d]] w fun e w' => e = .returned (.tuple #[.int .i64 (ofR a b c d), .int .i64 (ofE a b c d)]) ∧ Below w.heap.size w w' := by
  unfold ofE ofR
  by_cases h : a < b ∧ c < d
  · rw [if_pos h, if_pos h]; exact pof_ok a b c d w hd h.1 h.2
  · rw [if_neg h, if_neg h]; exact pof_no a b c d w hd (by omega)
theorem wrap_pow (x : Nat) (h : x < 13) : IntKind.i64.wrap (2 ^ x) = ((2 ^ x : Nat) : Int) := by
  have g : ∀ x : Fin 13, IntKind.i64.wrap (2 ^ x.1) = ((2 ^ x.1 : Nat) : Int) := by decide +kernel
  exact g ⟨x, h⟩
theorem pjoin_pow (x y : Nat) (hx : x < 13) (hy : y < 13) (w : World) (hf : FT w) :
    Calls Tryd.prog 12 #[.int .i64 (IntKind.i64.wrap (2 ^ x)), .int .i64 (IntKind.i64.wrap (2 ^ y))] w fun e w' => e = .returned (.tuple #[.int .i64 (Spn.fol x y : Nat), .int .i64 0]) ∧ Below w.heap.size w w' := by
  have g : ∀ x : Fin 13, 2 ^ x.1 ≤ 8191 := by decide +kernel
  have g1 : (2 : Nat) ^ x ≤ 8191 := g ⟨x, hx⟩
  have g2 : (2 : Nat) ^ y ≤ 8191 := g ⟨y, hy⟩
  rw [wrap_pow x hx, wrap_pow y hy, ← joinN_pow x y hx hy]
  generalize 2 ^ x = A at *
  generalize 2 ^ y = B at *
  exact pjoin_ok _ _ w hf ⟨by omega, by omega⟩ ⟨by omega, by omega⟩
theorem bit_and (s z : Nat) (h : s.testBit z = true) : bits .and .i64 ((s : Int) / 2 ^ z) 1 = 1 := by
  rw [i64_and1]
  have := hasB_bit s z
  rw [h] at this
  unfold hasB at this
  simpa using this
/-- spans as cells; how many spans begin ahead of a number -/
def spC (L : List (Nat × Nat)) : List Value := L.flatMap fun u => [.int .i64 (u.1 : Int), .int .i64 (u.2 : Int)]
def cnt (i : Nat) : Nat := [0, 5, 9, 12, 14, 15, 15].getD i 0
theorem cnt_next (n m : Nat) (h : n < m) (k : m < 6) : spC (Spn.sp6.take (cnt n + (m - n - 1))) ++ [.int .i64 (n : Int), .int .i64 (m : Int)] = spC (Spn.sp6.take (cnt n + (m + 1 - n - 1))) ∧ cnt n + (m - n - 1) < 15 := by
  have g : ∀ n : Fin 6, ∀ m : Fin 6, n.1 < m.1 → Spn.sp6.take (cnt n.1 + (m.1 - n.1 - 1)) ++ [(n.1, m.1)] = Spn.sp6.take (cnt n.1 + (m.1 + 1 - n.1 - 1)) ∧ cnt n.1 + (m.1 - n.1 - 1) < 15 := by decide +kernel
  obtain ⟨g1, g2⟩ := g ⟨n, by omega⟩ ⟨m, k⟩ h
  refine ⟨?_, g2⟩
  rw [← g1]
  unfold spC
  simp
theorem cnt_end (n : Nat) (h : n < 6) : cnt n + (6 - n - 1) = cnt (n + 1) := by
  have g : ∀ n : Fin 6, cnt n.1 + (6 - n.1 - 1) = cnt (n.1 + 1) := by decide +kernel
  exact g ⟨n, h⟩
/-- the k-th span; a box that holds a span -/
def sp (k : Nat) : Nat × Nat := Spn.sp6.getD k (0, 0)
theorem sp_cell (k : Nat) (h : k < 15) : (spC Spn.sp6)[k * 2]? = some (.int .i64 ((sp k).1 : Int)) ∧ (spC Spn.sp6)[k * 2 + 1]? = some (.int .i64 ((sp k).2 : Int)) := by
  have g : ∀ k : Fin 15, (spC Spn.sp6)[k.1 * 2]? = some (.int .i64 ((sp k.1).1 : Int)) ∧ (spC Spn.sp6)[k.1 * 2 + 1]? = some (.int .i64 ((sp k.1).2 : Int)) := by
    intro k
    match k with
    | 0 | 1 | 2 | 3 | 4 | 5 | 6 | 7 | 8 | 9 | 10 | 11 | 12 | 13 | 14 => exact ⟨rfl, rfl⟩
  exact g ⟨k, h⟩
theorem sp_lt (k : Nat) (h : k < 15) : (sp k).1 < (sp k).2 := by
  have g : ∀ k : Fin 15, (sp k.1).1 < (sp k.1).2 := by decide +kernel
  exact g ⟨k, h⟩
theorem sp_take (k : Nat) (h : k < 15) : Spn.sp6.take (k + 1) = Spn.sp6.take k ++ [sp k] := by
  have g : ∀ k : Fin 15, Spn.sp6.take (k.1 + 1) = Spn.sp6.take k.1 ++ [sp k.1] := by decide +kernel
  exact g ⟨k, h⟩
def Bx (b : Nat) (u : Nat × Nat) (X : World) : Prop := b < X.heap.size ∧ X.cell? ⟨b, 0, none⟩ = some (.int .i64 (u.1 : Int)) ∧ X.cell? ⟨b, 1, none⟩ = some (.int .i64 (u.2 : Int))
theorem Bx.step {b : Nat} {u : Nat × Nat} {X X' : World} (h : Bx b u X) (hb : Below X.heap.size X X') : Bx b u X' :=
  ⟨Nat.lt_of_lt_of_le h.1 hb.size, (hb.cell (p := ⟨b, 0, none⟩) h.1).trans h.2.1, (hb.cell (p := ⟨b, 1, none⟩) h.1).trans h.2.2⟩
theorem pof_sp (u v : Nat × Nat) (hu : u.1 < u.2) (hv : v.1 < v.2) (w : World) (hd : Hd w) :
    Calls Tryd.prog 8 #[.agg #[.int .i64 (u.1 : Int), .int .i64 (u.2 : Int)], .agg #[.int .i64 (v.1 : Int), .int .i64 (v.2 : Int)]] w fun e w' => e = .returned (.tuple #[.int .i64 (Spn.wayP u v : Nat), .int .i64 0]) ∧ Below w.heap.size w w' :=
  pof_ok _ _ _ _ w hd (by omega) (by omega)
theorem wayP_lt (u v : Nat × Nat) : Spn.wayP u v < 13 := Spn.way_lt _ _ _ _
theorem or_lt (s k : Nat) (hs : s < 8192) (hk : k < 13) : s ||| 2 ^ k < 8192 :=
  Nat.or_lt_two_pow (n := 13) hs (Nat.pow_lt_pow_right (by omega) hk)
theorem fin1_lt (u v : Nat × Nat) (q : Nat) : ∀ (l : List (Nat × Nat)) (s : Nat), s < 8192 → Spn.fin1 u v q l s < 8192 := by
  intro l
  induction l with
  | nil => intro s h; exact h
  | cons w l ih =>
    intro s h
    show Spn.fin1 u v q l (if Spn.wayP v w = q then s ||| 2 ^ Spn.wayP u w else s) < 8192
    refine ih _ ?_
    split
    · exact or_lt _ _ h (wayP_lt u w)
    · exact h
theorem fin2_lt (u : Nat × Nat) (p q : Nat) : ∀ (l : List (Nat × Nat)) (s : Nat), s < 8192 → Spn.fin2 u p q l s < 8192 := by
  intro l
  induction l with
  | nil => intro s h; exact h
  | cons v l ih =>
    intro s h
    show Spn.fin2 u p q l (if Spn.wayP u v = p then Spn.fin1 u v q Spn.sp6 s else s) < 8192
    refine ih _ ?_
    split
    · exact fin1_lt _ _ _ _ _ h
    · exact h
theorem fin3_lt (p q : Nat) : ∀ (l : List (Nat × Nat)) (s : Nat), s < 8192 → Spn.fin3 p q l s < 8192 := by
  intro l
  induction l with
  | nil => intro s h; exact h
  | cons u l ih => intro s h; exact ih _ (fin2_lt _ _ _ _ _ h)
theorem fin1_next (u v : Nat × Nat) (q k s : Nat) (h : k < 15) : Spn.fin1 u v q (Spn.sp6.take (k + 1)) s = if Spn.wayP v (sp k) = q then Spn.fin1 u v q (Spn.sp6.take k) s ||| 2 ^ Spn.wayP u (sp k) else Spn.fin1 u v q (Spn.sp6.take k) s := by
  rw [sp_take k h]; unfold Spn.fin1; rw [List.foldl_append]; rfl
theorem fin2_next (u : Nat × Nat) (p q k s : Nat) (h : k < 15) : Spn.fin2 u p q (Spn.sp6.take (k + 1)) s = if Spn.wayP u (sp k) = p then Spn.fin1 u (sp k) q Spn.sp6 (Spn.fin2 u p q (Spn.sp6.take k) s) else Spn.fin2 u p q (Spn.sp6.take k) s := by
  rw [sp_take k h]; unfold Spn.fin2; rw [List.foldl_append]; rfl
theorem fin3_next (p q k s : Nat) (h : k < 15) : Spn.fin3 p q (Spn.sp6.take (k + 1)) s = Spn.fin2 (sp k) p q Spn.sp6 (Spn.fin3 p q (Spn.sp6.take k) s) := by
  rw [sp_take k h]; unfold Spn.fin3; rw [List.foldl_append]; rfl
theorem wrap64_pow (x : Nat) (h : x < 13) : wrap64 (2 ^ x) = ((2 ^ x : Nat) : Int) := by
  have g : ∀ x : Fin 13, wrap64 (2 ^ x.1) = ((2 ^ x.1 : Nat) : Int) := by decide +kernel
  exact g ⟨x, h⟩
theorem or_pow (s k : Nat) (hs : s < 8192) (hk : k < 13) : bits .or .i64 (s : Int) (wrap64 (2 ^ k)) = ((s ||| 2 ^ k : Nat) : Int) := by
  have g : (2 : Nat) ^ k ≤ 2 ^ 13 := Nat.pow_le_pow_right (by omega) (by omega)
  rw [wrap64_pow k hk]
  exact i64_or_nat _ _ (by omega) (by omega)
theorem bx_new (w : World) (u : Nat × Nat) : Bx w.heap.size u (w.alloc (.cells #[.int .i64 (u.1 : Int), .int .i64 (u.2 : Int)] 23)) := ⟨by simp, by simp [go_sem], by simp [go_sem]⟩
theorem Bx.alloc {b : Nat} {u : Nat × Nat} {X : World} (h : Bx b u X) (o : Obj) : Bx b u (X.alloc o) := h.step ((Below.refl _ _).alloc (Nat.le_refl _) _)
theorem take15 : Spn.sp6.take 15 = Spn.sp6 := rfl
set_option maxRecDepth 100000 in
set_option maxHeartbeats 16000000 in
theorem comp_walk (a b c d e f p q : Int) (w : World) (hd : FT w) (p1 : -9223372036854775808 ≤ p) (p2 : p < 9223372036854775808) (q1 : -9223372036854775808 ≤ q) (q2 : q < 9223372036854775808) :
    Calls Tryd.prog 6 #[.agg #[.int .i64 a, .int .i64 b], .agg #[.int .i64 c, .int .i64 d], .agg #[.int .i64 e, .int .i64 f], .int .i64 p, .int .i64 q] w fun r w' => r = .returned (.bool true) ∧ Below w.heap.size w w' := by
  have HD := hide (fun W (h : Below w.heap.size w W) => hd.later h)
  have h0 : E3 a b c d e f w (((w.alloc (.cells #[.int .i64 a, .int .i64 b] 23)).alloc (.cells #[.int .i64 c, .int .i64 d] 23)).alloc (.cells #[.int .i64 e, .int .i64 f] 23)) :=
    ⟨⟨⟨by simp [go_sem], by simp [go_sem]⟩, ⟨by simp [go_sem], by simp [go_sem]⟩, ⟨by simp [go_sem], by simp [go_sem]⟩⟩, by simp, (((Below.refl _ w).alloc (Nat.le_refl _) _).alloc (by simp) _).alloc (by simp; omega) _⟩
  have Kp := hide (fun W => pick_any p 13 W (by omega) (by omega) p1 (by omega))
  have Kq := hide (fun W => pick_any q 13 W (by omega) (by omega) q1 (by omega))
  obtain ⟨P, hP⟩ : ∃ P : Nat, p % 13 = P := ⟨(p % 13).toNat, by omega⟩
  obtain ⟨Q, hQ⟩ : ∃ Q : Nat, q % 13 = Q := ⟨(q % 13).toNat, by omega⟩
  have lP : P < 13 := by omega
  have lQ : Q < 13 := by omega
  rw [hP] at Kp
  rw [hQ] at Kq
  have K6 := hide (pjoin_pow P Q lP lQ)
  have HF := hide (Spn.fin_fol P Q lP lQ)
  have lG := Spn.fol_lt _ _ lP lQ
  generalize Spn.fol P Q = G at *
  clear hP hQ p1 p2 q1 q2 hd
  have h0' := h0
  obtain ⟨⟨⟨a0, a1⟩, ⟨c0, c1⟩, ⟨e0, e1⟩⟩, hl, hB⟩ := h0'
  refine Or.elim (show (a < b ∧ c < d ∧ e < f) ∨ ¬ (a < b ∧ c < d) ∨ (a < b ∧ c < d ∧ ¬ e < f) by omega) ?g1 fun hx => Or.elim hx ?g2 ?g3
  case' g1 =>
    rintro ⟨h1, h2, h3⟩
    have K1 := hide (fun W hW => pof_ok a b c d W hW h1 h2)
    have K2 := hide (fun W hW => pof_ok c d e f W hW h2 h3)
    have K3 := hide (fun W hW => pof_ok a b e f W hW h1 h3)
    have hb := Spn.way_back a b c d h1 h2
    have hc := bit_and _ _ (Spn.comp a b c d e f h1 h2 h3)
    have l1 := Spn.way_lt a b c d
    have l2 := Spn.way_lt c d e f
    have l3 := Spn.way_lt a b e f
    have hv : (Spn.way c d a b : Nat) = (12 : Int) - (Spn.way a b c d : Nat) := by omega
    have k4 := fun W hW => pof_ok c d a b W hW h2 h1
    rw [hv] at k4
    have K4 := hide k4
    clear k4
    have K5 := hide (pjoin_pow _ _ l1 l2)
    have lF := Spn.fol_lt _ _ l1 l2
    generalize Spn.fol (Spn.way a b c d) (Spn.way c d e f) = F at *
    generalize Spn.way a b c d = x at *
    generalize Spn.way c d e f = y at *
    generalize Spn.way a b e f = z at *
    clear h1 h2 h3 hb hv
    go_enter Tryd.func6, Tryd.ntmps6
    go_wp2_with fail
    refine (K1.out _ (HD.out _ hB).hd).mono ?_
    rintro r W1 ⟨rfl, hx1⟩
    have h1 := h0.step hx1
    clear h0 hx1 a0 a1 c0 c1 e0 e1 hl hB
    have h1' := h1
    obtain ⟨⟨⟨a0, a1⟩, ⟨c0, c1⟩, ⟨e0, e1⟩⟩, hl, hB⟩ := h1'
    go_wp2_with fail
    refine (K2.out _ (HD.out _ hB).hd).mono ?_
    rintro r W2 ⟨rfl, hx2⟩
    have h2 := h1.step hx2
    clear h1 hx2 a0 a1 c0 c1 e0 e1 hl hB
    have h2' := h2
    obtain ⟨⟨⟨a0, a1⟩, ⟨c0, c1⟩, ⟨e0, e1⟩⟩, hl, hB⟩ := h2'
    go_wp2_with fail
    refine (K3.out _ (HD.out _ hB).hd).mono ?_
    rintro r W3 ⟨rfl, hx3⟩
    have h3 := h2.step hx3
    clear h2 hx3 a0 a1 c0 c1 e0 e1 hl hB
    have h3' := h3
    obtain ⟨⟨⟨a0, a1⟩, ⟨c0, c1⟩, ⟨e0, e1⟩⟩, hl, hB⟩ := h3'
    go_wp2_with fail
    go_region_held3 (fun X => E3 a b c d e f w X)
      (first | (refine h3.step (Below.drew (Below.refl _ _))) | (exact (‹E3 a b c d e f w _›).step hx))
      (first | (go_at_call 12; refine (K5.out _ (HD.out _ (‹E3 a b c d e f w _›).2.2)).mono ?_; rintro e X ⟨rfl, hx⟩))
    have h4 := ‹E3 a b c d e f w X›
    clear hx h3 a0 a1 c0 c1 e0 e1 hl hB
    have h4' := h4
    obtain ⟨⟨⟨a0, a1⟩, ⟨c0, c1⟩, ⟨e0, e1⟩⟩, hl, hB⟩ := h4'
    go_wp2_with fail
    refine (K4.out _ (HD.out _ hB).hd).mono ?_
    rintro r W5 ⟨rfl, hx5⟩
    have hB5 := (h4.step hx5).2.2
    clear h4 hx5 a0 a1 c0 c1 e0 e1 hl hB K1 K2 K3 K4 K5
    go_wp2_with fail
    clear hc
  case' g2 =>
    intro hno
    have K1 := hide (fun W hW => pof_no a b c d W hW (by omega))
    have K2 := hide (fun W hW => pof_any c d e f W hW)
    have K3 := hide (fun W hW => pof_any a b e f W hW)
    generalize ofR c d e f = r2 at *
    generalize ofE c d e f = g2 at *
    generalize ofR a b e f = r3 at *
    generalize ofE a b e f = g3 at *
    clear hno
    go_enter Tryd.func6, Tryd.ntmps6
    go_wp2_with fail
    refine (K1.out _ (HD.out _ hB).hd).mono ?_
    rintro r W1 ⟨rfl, hx1⟩
    have h1 := h0.step hx1
    clear h0 hx1 a0 a1 c0 c1 e0 e1 hl hB
    have h1' := h1
    obtain ⟨⟨⟨a0, a1⟩, ⟨c0, c1⟩, ⟨e0, e1⟩⟩, hl, hB⟩ := h1'
    go_wp2_with fail
    refine (K2.out _ (HD.out _ hB).hd).mono ?_
    rintro r W2 ⟨rfl, hx2⟩
    have h2 := h1.step hx2
    clear h1 hx2 a0 a1 c0 c1 e0 e1 hl hB
    have h2' := h2
    obtain ⟨⟨⟨a0, a1⟩, ⟨c0, c1⟩, ⟨e0, e1⟩⟩, hl, hB⟩ := h2'
    go_wp2_with fail
    refine (K3.out _ (HD.out _ hB).hd).mono ?_
    rintro r W3 ⟨rfl, hx3⟩
    have h3 := h2.step hx3
    clear h2 hx3 a0 a1 c0 c1 e0 e1 hl hB
    have h3' := h3
    obtain ⟨⟨⟨a0, a1⟩, ⟨c0, c1⟩, ⟨e0, e1⟩⟩, hl, hB⟩ := h3'
    go_wp2_with fail
    have hB5 := h3.2.2
    clear h3 a0 a1 c0 c1 e0 e1 hl hB K1 K2 K3
  case' g3 =>
    rintro ⟨h1, h2, h3⟩
    have K1 := hide (fun W hW => pof_ok a b c d W hW h1 h2)
    have K2 := hide (fun W hW => pof_no c d e f W hW (.inr h3))
    have K3 := hide (fun W hW => pof_no a b e f W hW (.inr h3))
    generalize Spn.way a b c d = x at *
    clear h1 h2 h3
    go_enter Tryd.func6, Tryd.ntmps6
    go_wp2_with fail
    refine (K1.out _ (HD.out _ hB).hd).mono ?_
    rintro r W1 ⟨rfl, hx1⟩
    have h1 := h0.step hx1
    clear h0 hx1 a0 a1 c0 c1 e0 e1 hl hB
    have h1' := h1
    obtain ⟨⟨⟨a0, a1⟩, ⟨c0, c1⟩, ⟨e0, e1⟩⟩, hl, hB⟩ := h1'
    go_wp2_with fail
    refine (K2.out _ (HD.out _ hB).hd).mono ?_
    rintro r W2 ⟨rfl, hx2⟩
    have h2 := h1.step hx2
    clear h1 hx2 a0 a1 c0 c1 e0 e1 hl hB
    have h2' := h2
    obtain ⟨⟨⟨a0, a1⟩, ⟨c0, c1⟩, ⟨e0, e1⟩⟩, hl, hB⟩ := h2'
    go_wp2_with fail
    refine (K3.out _ (HD.out _ hB).hd).mono ?_
    rintro r W3 ⟨rfl, hx3⟩
    have h3 := h2.step hx3
    clear h2 hx3 a0 a1 c0 c1 e0 e1 hl hB
    have h3' := h3
    obtain ⟨⟨⟨a0, a1⟩, ⟨c0, c1⟩, ⟨e0, e1⟩⟩, hl, hB⟩ := h3'
    go_wp2_with fail
    have hB5 := h3.2.2
    clear h3 a0 a1 c0 c1 e0 e1 hl hB K1 K2 K3
  all_goals
    refine (Kp.out _).mono ?_
    rintro e W6 ⟨rfl, rfl⟩
    go_wp2_with fail
    refine (Kq.out _).mono ?_
    rintro e W6 ⟨rfl, rfl⟩
    go_wp2_with fail
    clear Kp Kq
    go_region_held3 (fun X => Below w.heap.size w X)
      (first | (refine hB5.trans ((Below.drew (Below.refl _ _)).mono hB5.size)) | (exact (‹Below w.heap.size w _›).trans (hx.mono (‹Below w.heap.size w _›).size)))
      (first | (go_at_call 12; refine (K6.out _ (HD.out _ (‹Below w.heap.size w _›))).mono ?_; rintro e X ⟨rfl, hx⟩))
    have hB6 := ‹Below w.heap.size w X›
    clear hx hB5
    go_wp2_with fail
    obtain ⟨i0, hi, hz0, hz1, hz2⟩ := info_parts infoSpan
    go_loopw [22, 23] (fun v i wr => ∃ n : Nat, n ≤ 6 ∧ i = .int .i64 n ∧ wr.ownsRow w.heap.size 23 2 v (cnt n) (spC (Spn.sp6.take (cnt n))) ∧ Below w.heap.size w wr) (fun _ i _ => 6 - (intOf i).toNat)
    case atStart => exact ⟨0, by omega, rfl, World.ownsRow_nil _ _ _ _, hB6⟩
    case round =>
      obtain ⟨n, hn, rfl, hown, hBr⟩ := hrel
      by_cases hlt : n < 6
      · have hlti : (n : Int) < 6 := by omega
        go_wp2_with fail
        go_loopw [22, 24] (fun v k wr => ∃ m : Nat, n < m ∧ m ≤ 6 ∧ k = .int .i64 m ∧ wr.ownsRow w.heap.size 23 2 v (cnt n + (m - n - 1)) (spC (Spn.sp6.take (cnt n + (m - n - 1)))) ∧ Below w.heap.size w wr) (fun _ k _ => 6 - (intOf k).toNat)
        case atStart => exact ⟨n + 1, by omega, by omega, by go_num, by simpa using hown, hBr⟩
        case round =>
          obtain ⟨m, hnm, hm, rfl, hown1, hBr1⟩ := hrel
          by_cases hmt : m < 6
          · obtain ⟨hnext, hbd⟩ := cnt_next n m hnm hmt
            go_wp2_with (first
              | (at_builtin; refine wpList_append_own _ rfl (.tmp 121) (.tmp 125) 34 rfl w.heap.size 23 i0 (.agg #[.int .i64 0, .int .i64 0]) 2 16 Tryd.underlying34 hi hz0 hz1 hz2 rfl (by decide) _ _ _ rfl (hown1.alloc _) ⟨wr.heap.size, 0, none⟩ 1 1 [.int .i64 n, .int .i64 m] rfl rfl ?c1 ?c2 ?c3 ?c4 ?c5 ?_))
            case c1 =>
              intro j u hj
              match j, hj with
              | 0, hj => simp at hj; subst hj; simp [Addr.add, go_sem]
              | 1, hj => simp at hj; subst hj; simp [Addr.add, go_sem]
            case c2 => intro u hu; simp at hu; rcases hu with rfl | rfl <;> rfl
            case c3 => unfold maxLen; omega
            case c4 => omega
            case c5 => have := hBr1.size; simp; omega
            intro v' w1 hown' hgrow _
            have hB1 := (hBr1.alloc (by have := hBr1.size; omega) _).grown hgrow (by have := hBr1.size; simp; omega) (fun j hj => (hown1.lt j hj).1)
            clear hown1 hgrow hBr1 hown hBr hnext
            go_wp2
            go_roundw
            case rel =>
              exact ⟨m + 1, by omega, by omega, by go_num, by rw [show cnt n + (m + 1 - n - 1) = cnt n + (m - n - 1) + 1 by omega] at *; exact hown', hB1⟩
            case measure => simp [intOf]; omega
          · go_wp2
            go_roundw
            obtain rfl : m = 6 := by omega
            case rel => exact ⟨n + 1, by omega, by go_num, by rw [← cnt_end n hlt]; exact hown1, hBr1⟩
            case measure => simp [intOf]; omega
      · have h6 : n = 6 := by omega
        have hni : 6 ≤ (n : Int) := by omega
        rw [h6] at hown
        clear hlt h6 hn
        obtain ⟨g, cap, rfl, hg0, hg1⟩ := World.ownsRow.form hown (by decide)
        have hcell : ∀ X, Below wr.heap.size wr X → ∀ k, k < 15 → X.cell? ⟨g, k * 2, none⟩ = some (.int .i64 ((sp k).1 : Int)) ∧ X.cell? ⟨g, k * 2 + 1, none⟩ = some (.int .i64 ((sp k).2 : Int)) := fun X hX k hk =>
          ⟨(hX.cell (p := ⟨g, k * 2, none⟩) hg1).trans ((World.ownsRow.cellAt hown (k * 2) (by have : cnt 6 = 15 := rfl; omega)).trans (sp_cell k hk).1),
           (hX.cell (p := ⟨g, k * 2 + 1, none⟩) hg1).trans ((World.ownsRow.cellAt hown (k * 2 + 1) (by have : cnt 6 = 15 := rfl; omega)).trans (sp_cell k hk).2)⟩
        have HC := hide hcell
        clear hcell hown hi hz0 hz1 hz2 hB6
        have hcnt : cnt 6 = 15 := rfl
        rw [hcnt]
        clear hcnt
        go_wp2_with fail
        generalize wr = wl at *
        go_loopw [25, 129] (fun s i wr => ∃ n : Nat, n ≤ 15 ∧ i = .int .i64 n ∧ s = .int .i64 (Spn.fin3 P Q (Spn.sp6.take n) 0 : Nat) ∧ Below wl.heap.size wl wr) (fun _ i _ => 15 - (intOf i).toNat)
        case atStart => exact ⟨0, by omega, rfl, rfl, Below.refl _ _⟩
        case round =>
          obtain ⟨n, hn, rfl, rfl, hBl⟩ := hrel
          by_cases hlt : n < 15
          · obtain ⟨u0, u1⟩ := HC.out wr hBl n hlt
            have hlti : (n : Int) < 15 := by omega
            go_wp2_with fail
            have hbu := bx_new wr (sp n)
            have hBu : Below wl.heap.size wl (wr.alloc (.cells #[.int .i64 ((sp n).1 : Int), .int .i64 ((sp n).2 : Int)] 23)) := hBl.alloc hBl.size _
            have hUlt := sp_lt n hlt
            have HN := hide (fin3_next P Q n 0 hlt)
            have hs0 := fin3_lt P Q (Spn.sp6.take n) 0 (by decide)
            clear u0 u1
            generalize sp n = U at *
            generalize Spn.fin3 P Q (Spn.sp6.take n) 0 = s0 at *
            generalize hbU : wr.heap.size = bU at *
            go_loopw [25, 135] (fun s i wr => ∃ m : Nat, m ≤ 15 ∧ i = .int .i64 m ∧ s = .int .i64 (Spn.fin2 U P Q (Spn.sp6.take m) s0 : Nat) ∧ Bx bU U wr ∧ Below wl.heap.size wl wr) (fun _ i _ => 15 - (intOf i).toNat)
            case atStart => exact ⟨0, by omega, rfl, rfl, hbu, hBu⟩
            case round =>
              clear hbU hbu hBu
              obtain ⟨m, hm, rfl, rfl, hbu, hBm⟩ := hrel
              by_cases hmt : m < 15
              · obtain ⟨v0, v1⟩ := HC.out wr hBm m hmt
                have hmti : (m : Int) < 15 := by omega
                have hVlt := sp_lt m hmt
                have HM := hide (fin2_next U P Q m s0 hmt)
                have hs1 := fin2_lt U P Q (Spn.sp6.take m) s0 hs0
                have hbv := bx_new wr (sp m)
                have hbu2 := hbu.alloc (.cells #[.int .i64 ((sp m).1 : Int), .int .i64 ((sp m).2 : Int)] 23)
                have hBv : Below wl.heap.size wl (wr.alloc (.cells #[.int .i64 ((sp m).1 : Int), .int .i64 ((sp m).2 : Int)] 23)) := hBm.alloc hBm.size _
                generalize sp m = V at *
                generalize Spn.fin2 U P Q (Spn.sp6.take m) s0 = s1 at *
                generalize hbV : wr.heap.size = bV at *
                have KO := hide (fun W hW => pof_sp U V hUlt hVlt W hW)
                generalize hr : Spn.wayP U V = r at *
                obtain ⟨bl, b0, b1⟩ := hbu
                obtain ⟨cl, c0, c1⟩ := hbv
                obtain ⟨bl2, d0, d1⟩ := hbu2
                go_wp2_with fail
                have hbu2 : Bx bU U (wr.alloc (.cells #[.int .i64 (V.1 : Int), .int .i64 (V.2 : Int)] 23)) := ⟨bl2, d0, d1⟩
                have hbv : Bx bV V (wr.alloc (.cells #[.int .i64 (V.1 : Int), .int .i64 (V.2 : Int)] 23)) := ⟨cl, c0, c1⟩
                refine (KO.out _ (HD.out _ (hBr.trans (hBv.mono hBr.size))).hd).mono ?_
                rintro e X ⟨rfl, hx⟩
                have hbu := hbu2.step hx
                have hbv := hbv.step hx
                have hBx := hBv.trans (hx.mono hBv.size)
                clear hx hbu2 hBv bl b0 b1 cl c0 c1 bl2 d0 d1 v0 v1 hbV
                by_cases hp : r = P
                · have hpi : (r : Int) = P := by omega
                  have HM' : Hid (Spn.fin2 U P Q (Spn.sp6.take (m + 1)) s0 = Spn.fin1 U V Q Spn.sp6 s1) := by rw [HM.out, if_pos hp]; trivial
                  clear HM hp
                  go_wp2_with fail
                  go_loopw [25, 150] (fun s i wr => ∃ k : Nat, k ≤ 15 ∧ i = .int .i64 k ∧ s = .int .i64 (Spn.fin1 U V Q (Spn.sp6.take k) s1 : Nat) ∧ Bx bU U wr ∧ Bx bV V wr ∧ Below wl.heap.size wl wr) (fun _ i _ => 15 - (intOf i).toNat)
                  case atStart => exact ⟨0, by omega, rfl, rfl, hbu, hbv, hBx⟩
                  case round =>
                    clear hbu hbv hBx
                    obtain ⟨k, hk, rfl, rfl, hbu, hbv, hBx⟩ := hrel
                    by_cases hkt : k < 15
                    · obtain ⟨x0, x1⟩ := HC.out wr hBx k hkt
                      have hkti : (k : Int) < 15 := by omega
                      have hZlt := sp_lt k hkt
                      have HK := hide (fin1_next U V Q k s1 hkt)
                      have hs2 := fin1_lt U V Q (Spn.sp6.take k) s1 hs1
                      have hbz := bx_new wr (sp k)
                      have hbu2 := hbu.alloc (.cells #[.int .i64 ((sp k).1 : Int), .int .i64 ((sp k).2 : Int)] 23)
                      have hbv2 := hbv.alloc (.cells #[.int .i64 ((sp k).1 : Int), .int .i64 ((sp k).2 : Int)] 23)
                      have hBz : Below wl.heap.size wl (wr.alloc (.cells #[.int .i64 ((sp k).1 : Int), .int .i64 ((sp k).2 : Int)] 23)) := hBx.alloc hBx.size _
                      generalize sp k = Z at *
                      generalize Spn.fin1 U V Q (Spn.sp6.take k) s1 = s2 at *
                      have KV := hide (fun W hW => pof_sp V Z hVlt hZlt W hW)
                      have KU := hide (fun W hW => pof_sp U Z hUlt hZlt W hW)
                      have hOR := hide (or_pow s2 (Spn.wayP U Z) hs2 (wayP_lt U Z))
                      have hul := wayP_lt U Z
                      generalize Spn.wayP V Z = rv at *
                      generalize Spn.wayP U Z = ru at *
                      generalize hbZ : wr.heap.size = bZ at *
                      obtain ⟨ol, o0, o1⟩ := hbv
                      obtain ⟨bl, b0, b1⟩ := hbv2
                      obtain ⟨cl, c0, c1⟩ := hbz
                      clear hbu
                      go_wp2_with fail
                      have hbv2 : Bx bV V (wr.alloc (.cells #[.int .i64 (Z.1 : Int), .int .i64 (Z.2 : Int)] 23)) := ⟨bl, b0, b1⟩
                      have hbz : Bx bZ Z (wr.alloc (.cells #[.int .i64 (Z.1 : Int), .int .i64 (Z.2 : Int)] 23)) := ⟨cl, c0, c1⟩
                      refine (KV.out _ (HD.out _ (hBr.trans (hBz.mono hBr.size))).hd).mono ?_
                      rintro e X ⟨rfl, hx⟩
                      have hbu := hbu2.step hx
                      have hbv := hbv2.step hx
                      have hbz := hbz.step hx
                      have hBx := hBz.trans (hx.mono hBz.size)
                      clear hx hbu2 hbv2 hBz bl b0 b1 cl c0 c1 ol o0 o1 x0 x1 hbZ KV
                      by_cases hq : rv = Q
                      · have hqi : (rv : Int) = Q := by omega
                        have HK' : Hid (Spn.fin1 U V Q (Spn.sp6.take (k + 1)) s1 = s2 ||| 2 ^ ru) := by rw [HK.out, if_pos hq]; trivial
                        clear HK hq
                        obtain ⟨bl, b0, b1⟩ := hbu
                        obtain ⟨cl, c0, c1⟩ := hbz
                        go_wp2_with fail
                        have hbu : Bx bU U X := ⟨bl, b0, b1⟩
                        refine (KU.out _ (HD.out _ (hBr.trans (hBx.mono hBr.size))).hd).mono ?_
                        rintro e X2 ⟨rfl, hx⟩
                        have hbu := hbu.step hx
                        have hbv := hbv.step hx
                        have hBx := hBx.trans (hx.mono hBx.size)
                        clear hx bl b0 b1 cl c0 c1
                        go_wp2
                        go_roundw
                        case rel => exact ⟨k + 1, by omega, by go_num, by rw [HK'.out, ← hOR.out], hbu, hbv, hBx⟩
                        case measure => simp [intOf]; omega
                      · have hqi : ¬ (rv : Int) = Q := by omega
                        go_wp2
                        go_roundw
                        case rel => exact ⟨k + 1, by omega, by go_num, by rw [HK.out, if_neg hq], hbu, hbv, hBx⟩
                        case measure => simp [intOf]; omega
                    · obtain rfl : k = 15 := by omega
                      go_wp2
                      go_roundw
                      case rel => exact ⟨m + 1, by omega, by go_num, by rw [HM'.out, take15], hbu, hBx⟩
                      case measure => simp [intOf]; omega
                · have hpi : ¬ (r : Int) = P := by omega
                  go_wp2
                  go_roundw
                  case rel => exact ⟨m + 1, by omega, by go_num, by rw [HM.out, if_neg hp], hbu, hBx⟩
                  case measure => simp [intOf]; omega
              · obtain rfl : m = 15 := by omega
                go_wp2
                go_roundw
                case rel => exact ⟨n + 1, by omega, by go_num, by rw [HN.out, take15], hBm⟩
                case measure => simp [intOf]; omega
          · obtain rfl : n = 15 := by omega
            go_wp2
            go_ret
            exact ⟨by rw [← HF.out, take15]; simp, hBr.trans (hBl.mono hBr.size)⟩
end Go.Proofs.YtnacplnddopomaaDoor
