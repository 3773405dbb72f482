/- the law MomentsAlgebra, walked: at most 512 times. -/
import Derived.Test.YtmdghaaahknocaaMomW
import Derived.Test.YtmdghaaahknocaaLin
namespace Go.Proofs.Ytmdghaaahknocaa
open Go.RowKit Go.Shelf
set_option linter.unusedVariables false
set_option linter.unusedSimpArgs false

set_option maxRecDepth 100000 in
set_option maxHeartbeats 40000000 in
theorem malg_s (sv1 sv2 sv3 sv4 : Value) (z1 z2 z3 : List (Int × Int)) (ts : List Int) (w : World) (k1 : SpsW w sv1 z1) (k2 : SpsW w sv2 z2) (k3 : SpsW w sv3 z3) (k4 : IntsW w sv4 ts) (hts : ts.length ≤ 512) :
    Calls Try.prog 3 #[sv1, sv2, sv3, sv4] w fun e w' => e = .returned (.bool true) ∧ Below w.heap.size w w' := by
  have e1 := k1
  have e2 := k2
  have e3 := k3
  have e4 := k4
  obtain ⟨p1, q1, rfl, _⟩ := e1
  obtain ⟨p2, q2, rfl, _⟩ := e2
  obtain ⟨p3, q3, rfl, _⟩ := e3
  obtain ⟨p4, q4, rfl, m4⟩ := e4
  by_cases b1 : 64 < z1.length
  · have hi : (64 : Int) < z1.length := by omega
    clear k1 k2 k3 k4 m4
    go_enter Try.func3, Try.ntmps3
    go_wp2
    go_ret
    exact ⟨rfl, Below.refl _ _⟩
  have hi1 : ¬ (64 : Int) < z1.length := by omega
  by_cases b2 : 64 < z2.length
  · have hi : (64 : Int) < z2.length := by omega
    clear k1 k2 k3 k4 m4
    go_enter Try.func3, Try.ntmps3
    go_wp2
    go_ret
    exact ⟨rfl, Below.refl _ _⟩
  have hi2 : ¬ (64 : Int) < z2.length := by omega
  by_cases b3 : 64 < z3.length
  · have hi : (64 : Int) < z3.length := by omega
    clear k1 k2 k3 k4 m4
    go_enter Try.func3, Try.ntmps3
    go_wp2
    go_ret
    exact ⟨rfl, Below.refl _ _⟩
  have hi3 : ¬ (64 : Int) < z3.length := by omega
  have T1 := hide (timesOf_in (.slice p1 z1.length q1) z1 (by omega) w k1)
  have T2 := hide (fun X (hb : Below w.heap.size w X) => timesOf_in (.slice p2 z2.length q2) z2 (by omega) X (k2.below hb))
  have T3 := hide (fun X (hb : Below w.heap.size w X) => timesOf_in (.slice p3 z3.length q3) z3 (by omega) X (k3.below hb))
  have K1 := hide k1
  have M4 := hide m4
  clear k1 k2 k3 k4 m4
  go_enter Try.func3, Try.ntmps3
  go_wp2_with fail
  refine T1.out.mono ?_
  rintro e wa ⟨aA, lA, cA, LA, rfl, okA, sA, hbA, _, inA⟩
  clear T1
  go_wp2_with fail
  refine (T2.out wa hbA).mono ?_
  rintro e wb ⟨aB, lB, cB, LB, rfl, okB, sB, hbB, _, inB⟩
  have hbB' := hbA.trans (hbB.mono hbA.size)
  clear T2
  go_wp2_with fail
  refine (T3.out wb hbB').mono ?_
  rintro e wc ⟨aC, lC, cC, LC, rfl, okC, sC, hbC, _, inC⟩
  have hbC' := hbB'.trans (hbC.mono hbB'.size)
  clear T3
  go_wp2_with fail
  have hb3 : Below wc.heap.size wc (((wc.alloc (.cells #[.slice aA lA cA] 27)).alloc (.cells #[.slice aB lB cB] 27)).alloc (.cells #[.slice aC lC cC] 27)) := (((Below.refl _ wc).alloc (Nat.le_refl _) _).alloc (by simp) _).alloc (by simp; omega) _
  have xA := ((Boxed.new wc 27 (.slice aA lA cA)).alloc (.cells #[.slice aB lB cB] 27)).alloc (.cells #[.slice aC lC cC] 27)
  have xB := (Boxed.new (wc.alloc (.cells #[.slice aA lA cA] 27)) 27 (.slice aB lB cB)).alloc (.cells #[.slice aC lC cC] 27)
  have xC := Boxed.new ((wc.alloc (.cells #[.slice aA lA cA] 27)).alloc (.cells #[.slice aB lB cB] 27)) 27 (.slice aC lC cC)
  simp only [World.size_alloc] at xB xC
  obtain ⟨W0, hW0⟩ : ∃ W0, (((wc.alloc (.cells #[.slice aA lA cA] 27)).alloc (.cells #[.slice aB lB cB] 27)).alloc (.cells #[.slice aC lC cC] 27)) = W0 := ⟨_, rfl⟩
  rw [hW0] at hb3 xA xB xC ⊢
  clear hW0
  have sA3 := ((sA.below hbB).below hbC).below hb3
  have sB3 := (sB.below hbC).below hb3
  have sC3 := sC.below hb3
  have hB3 := hbC'.trans (hb3.mono hbC'.size)
  have hnw := hbC'.size
  generalize wc.heap.size = n at xA xB xC hnw ⊢
  have hABC0 : ABC w W0 n (.slice aA lA cA) (.slice aB lB cB) (.slice aC lC cC) LA LB LC := ⟨hB3, xA, xB, xC, sA3, sB3, sC3⟩
  have O := hide (And.intro (okA.mono (m := 64) (by omega)) (And.intro (okB.mono (m := 64) (by omega)) (okC.mono (m := 64) (by omega))))
  have IN := hide (And.intro inA (And.intro inB inC))
  have HK1 : Hid (∀ j, j < z1.length → ∃ ad, p1 = some ad ∧ w.cell? (ad.add (j * 2)) = some (.int .i64 (z1.getD j (0, 0)).1) ∧ w.cell? (ad.add (j * 2 + 1)) = some (.int .i64 (z1.getD j (0, 0)).2)) := by
    obtain ⟨a, cap, e, hc⟩ := K1.out
    cases e
    exact hide hc
  have iA : InvL LA := O.out.1.1
  have iB : InvL LB := O.out.2.1.1
  have iC : InvL LC := O.out.2.2.1
  have nA : LA.length ≤ 1000000 := by have := O.out.1.2; omega
  have nB : LB.length ≤ 1000000 := by have := O.out.2.1.2; omega
  have HOR := hide por_set
  have HAN := hide pand_set
  have HLS := hide pless_set
  have HNT := hide pnot_set
  have HHAS := hide phas_set
  have HEQ := hide eq_set
  clear hbA hbB hbB' hbC hbC' sA sB sC okA okB okC inA inB inC hb3 xA xB xC sA3 sB3 sC3 hB3
  go_loopw [12] (fun i wr => ∃ k : Nat, k ≤ ts.length ∧ k ≤ 512 ∧ i = .int .i64 k ∧ ABC w wr n (.slice aA lA cA) (.slice aB lB cB) (.slice aC lC cC) LA LB LC) (fun i _ => ts.length - (intOf i).toNat)
  case atStart => exact ⟨0, by omega, by omega, rfl, hABC0⟩
  case round =>
    obtain ⟨k, hk, hk5, rfl, hABC⟩ := hrel
    clear hABC0
    by_cases hk1 : k < ts.length
    · have hki : (k : Int) < ts.length := by omega
      by_cases hk2 : k < 512
      · have hki2 : (k : Int) < 512 := by omega
        obtain ⟨ad, rfl, hct⟩ := M4.out k hk1
        have hct := (hABC.below.cell (World.block_lt_of_cell? w _ hct)).trans hct
        generalize ts.getD k 0 = t at hct
        go_wp2_with fail
        have hABCd : ABC w wr.drew n (.slice aA lA cA) (.slice aB lB cB) (.slice aC lC cC) LA LB LC := hABC.step (Below.refl _ _).drew
        have hS : (wr.drew.cell? ⟨n, 0, none⟩ = some (.slice aA lA cA) ∧ wr.drew.cell? ⟨n + 1, 0, none⟩ = some (.slice aB lB cB)) ∧ ABC w wr.drew n (.slice aA lA cA) (.slice aB lB cB) (.slice aC lC cC) LA LB LC := ⟨⟨hABCd.cells.1, hABCd.cells.2.1⟩, hABCd⟩
        clear hABC hABCd
        go_region_held3 (fun X => (X.cell? ⟨n, 0, none⟩ = some (.slice aA lA cA) ∧ X.cell? ⟨n + 1, 0, none⟩ = some (.slice aB lB cB)) ∧ ABC w X n (.slice aA lA cA) (.slice aB lB cB) (.slice aC lC cC) LA LB LC)
          (first | (with_reducible exact hS))
          (first
            | (go_at_call 5; (with_reducible refine (HHAS.out LA iA nA aA lA cA t _ hS.2.sa).mono ?_); rintro e X ⟨x, hx, rfl, hb⟩; have hS := abcS hS hb)
            | (go_at_call 5; (with_reducible refine (HHAS.out LB iB nB aB lB cB t _ hS.2.sb).mono ?_); rintro e X ⟨y, hy, rfl, hb⟩; have hS := abcS hS hb)
            | fail)
        have hABC := hS.2
        clear hS hct
        have HX := hide hx
        have HY := hide hy
        clear hx hy
        have fOr : ∀ b : Bool, (b = true ↔ InS (orL LA LB) t) → b = (x || y) := fun b h => bool_of_iff (h.trans (orL_in iA iB t)) (Bool.or_eq_true_iff.trans (or_congr HX.out HY.out)) Iff.rfl
        have fAn : ∀ b : Bool, (b = true ↔ InS (anL LA LB) t) → b = (x && y) := fun b h => bool_of_iff (h.trans (anL_in iA iB t)) (Bool.and_eq_true_iff.trans (and_congr HX.out HY.out)) Iff.rfl
        have fLs : ∀ b : Bool, (b = true ↔ InS (lsL LA LB) t) → b = (x && !y) := fun b h => bool_of_iff (h.trans (lsL_in iA iB t)) (Bool.and_eq_true_iff.trans (and_congr HX.out (not_of_iff HY.out))) Iff.rfl
        have fNt : ∀ b : Bool, (b = true ↔ InS (ntL LA) t) → b = (decide (-1152921504606846976 ≤ t ∧ t < 1152921504606846976) && !x) := fun b h => bool_of_iff (h.trans (ntL_in iA t)) (Bool.and_eq_true_iff.trans (and_congr decide_eq_true_iff (not_of_iff HX.out))) ⟨fun h => ⟨⟨h.1, h.2.1⟩, h.2.2⟩, fun h => ⟨h.1.1, h.1.2, h.2⟩⟩
        have F := hide (And.intro fOr (And.intro fAn (And.intro fLs fNt)))
        clear fOr fAn fLs fNt
        by_cases hlo : -1152921504606846976 ≤ t
        · by_cases hhi : t < 1152921504606846976
          · have hin := And.intro hlo hhi
            go_wp2_with fail
            go_loopw [17, 18] (fun vb i wr' => ∃ (m : Nat) (ib : Bool), m ≤ z1.length ∧ i = .int .i64 m ∧ vb = .bool ib ∧ (ib = true ↔ (-1152921504606846976 ≤ t ∧ t < 1152921504606846976) ∧ InS (z1.take m) t) ∧ ABC w wr' n (.slice aA lA cA) (.slice aB lB cB) (.slice aC lC cC) LA LB LC) (fun _ i _ => z1.length - (intOf i).toNat)
            case atStart => exact ⟨0, false, by omega, rfl, rfl, ⟨fun h => (by cases h), fun h => absurd h.2 (inS_nil t)⟩, hABC⟩
            case round =>
              clear hABC
              obtain ⟨m, ib, hm, rfl, rfl, hib, hABC⟩ := hrel
              by_cases hml : m < z1.length
              · have hmi : (m : Int) < z1.length := by omega
                obtain ⟨az, rfl, hc0, hc1⟩ := HK1.out m hml
                have hx0 := (hABC.below.cell (World.block_lt_of_cell? w _ hc0)).trans hc0
                have hx1 := (hABC.below.cell (World.block_lt_of_cell? w _ hc1)).trans hc1
                clear hc0 hc1
                have hnx := inS_next z1 m hml t
                generalize z1.getD m (0, 0) = p at hx0 hx1 hnx
                have hae : az.add (m * 2 + 1) = ⟨az.block, az.off + m * 2 + 1, none⟩ := by unfold Addr.add; rw [if_neg (by omega)]; rfl
                have haf : (az.add (m * 2)).add 1 = ⟨(az.add (m * 2)).block, (az.add (m * 2)).off + 1, none⟩ := by show (if 1 = 0 then _ else _) = _; rw [if_neg (by omega)]
                have hx2 : wr.cell? ⟨az.block, az.off + m * 2 + 1, none⟩ = some (.int .i64 p.2) := by rw [← hae]; exact hx1
                have hx3 : wr.cell? ⟨(az.add (m * 2)).block, (az.add (m * 2)).off + 1, none⟩ = some (.int .i64 p.2) := by rw [← haf, Addr.add_add]; exact hx1
                clear hae haf
                have HQ := hide (And.intro hib hnx)
                clear hib hnx
                cases ib
                · by_cases h0 : p.1 ≤ t
                  · by_cases h1 : t < p.2
                    · have hok := And.intro h0 h1
                      go_wp2
                      go_roundw
                      case rel => exact ⟨m + 1, true, by omega, by go_num, rfl, ib_next HQ.out.1 HQ.out.2 true (by simp <;> first | done | omega | (intros; omega)), hABC⟩
                      case measure => simp [intOf]; omega
                    · have hok := h1
                      go_wp2
                      go_roundw
                      case rel => exact ⟨m + 1, false, by omega, by go_num, rfl, ib_next HQ.out.1 HQ.out.2 false (by simp <;> first | done | omega | (intros; omega)), hABC⟩
                      case measure => simp [intOf]; omega
                  · have hok := h0
                    go_wp2
                    go_roundw
                    case rel => exact ⟨m + 1, false, by omega, by go_num, rfl, ib_next HQ.out.1 HQ.out.2 false (by simp <;> first | done | omega | (intros; omega)), hABC⟩
                    case measure => simp [intOf]; omega
                · have hok := hlo
                  go_wp2
                  go_roundw
                  case rel => exact ⟨m + 1, true, by omega, by go_num, rfl, ib_next HQ.out.1 HQ.out.2 true (by simp <;> first | done | omega | (intros; omega)), hABC⟩
                  case measure => simp [intOf]; omega
              · obtain rfl : m = z1.length := by omega
                have hmi : ¬ (z1.length : Int) < z1.length := by omega
                rw [List.take_length] at hib
                have hix : ib = x := bool_of_iff hib HX.out (by rw [IN.out.1 t]; exact ⟨fun h => ⟨h.1.1, h.1.2, h.2⟩, fun h => ⟨⟨h.1, h.2.1⟩, h.2.2⟩⟩)
                obtain rfl := hix
                clear hib
                obtain ⟨xcA, xcB, xcC⟩ := hABC.cells
                have FN0 : decide (-1152921504606846976 ≤ t ∧ t < 1152921504606846976) = true := decide_eq_true ⟨hlo, hhi⟩
                cases ib
                · cases y
                  · have FN : ∀ b : Bool, (b = true ↔ InS (ntL LA) t) → b = true := fun b h => by rw [F.out.2.2.2 b h, FN0]; rfl
                    clear FN0
                    go_wp2_with fail
                    refine (HOR.out aA lA cA LA (O.out.1.mono (by omega)) aB lB cB LB (O.out.2.1.mono (by omega)) _ hABC.sa hABC.sb).mono ?_
                    rintro e Z10_1 ⟨aq1, lq1, cq1, rfl, q1, hb⟩
                    have hN := hABC.step hb
                    clear hABC xcA xcB xcC
                    have hABC := hN
                    clear hN
                    obtain ⟨xcA, xcB, xcC⟩ := hABC.cells
                    clear hb
                    go_wp2_with fail
                    refine (HHAS.out (orL LA LB) (O.out.1.or O.out.2.1).1 (by have := (O.out.1.or O.out.2.1).2; omega) _ _ _ t _ q1).mono ?_
                    rintro e Z10_2 ⟨b, hbb, rfl, hb⟩
                    clear q1
                    obtain rfl : b = false := F.out.1 b hbb
                    clear hbb
                    have hN := hABC.step hb
                    clear hABC xcA xcB xcC
                    have hABC := hN
                    clear hN
                    obtain ⟨xcA, xcB, xcC⟩ := hABC.cells
                    clear hb
                    go_wp2_with fail
                    refine (HAN.out aA lA cA LA (O.out.1.mono (by omega)) aB lB cB LB (O.out.2.1.mono (by omega)) _ hABC.sa hABC.sb).mono ?_
                    rintro e Z10_3 ⟨aq2, lq2, cq2, rfl, q2, hb⟩
                    have hN := hABC.step hb
                    clear hABC xcA xcB xcC
                    have hABC := hN
                    clear hN
                    obtain ⟨xcA, xcB, xcC⟩ := hABC.cells
                    clear hb
                    go_wp2_with fail
                    refine (HHAS.out (anL LA LB) (O.out.1.and O.out.2.1).1 (by have := (O.out.1.and O.out.2.1).2; omega) _ _ _ t _ q2).mono ?_
                    rintro e Z10_4 ⟨b, hbb, rfl, hb⟩
                    clear q2
                    obtain rfl : b = false := F.out.2.1 b hbb
                    clear hbb
                    have hN := hABC.step hb
                    clear hABC xcA xcB xcC
                    have hABC := hN
                    clear hN
                    obtain ⟨xcA, xcB, xcC⟩ := hABC.cells
                    clear hb
                    go_wp2_with fail
                    refine (HLS.out aA lA cA LA (O.out.1.mono (by omega)) aB lB cB LB (O.out.2.1.mono (by omega)) _ hABC.sa hABC.sb).mono ?_
                    rintro e Z10_5 ⟨aq3, lq3, cq3, rfl, q3, hb⟩
                    have hN := hABC.step hb
                    clear hABC xcA xcB xcC
                    have hABC := hN
                    clear hN
                    obtain ⟨xcA, xcB, xcC⟩ := hABC.cells
                    clear hb
                    go_wp2_with fail
                    refine (HHAS.out (lsL LA LB) (O.out.1.less O.out.2.1).1 (by have := (O.out.1.less O.out.2.1).2; omega) _ _ _ t _ q3).mono ?_
                    rintro e Z10_6 ⟨b, hbb, rfl, hb⟩
                    clear q3
                    obtain rfl : b = false := F.out.2.2.1 b hbb
                    clear hbb
                    have hN := hABC.step hb
                    clear hABC xcA xcB xcC
                    have hABC := hN
                    clear hN
                    obtain ⟨xcA, xcB, xcC⟩ := hABC.cells
                    clear hb
                    go_wp2_with fail
                    refine (HNT.out aA lA cA LA (O.out.1.mono (by omega)) _ hABC.sa).mono ?_
                    rintro e Z10_7 ⟨aq4, lq4, cq4, rfl, q4, hb⟩
                    have hN := hABC.step hb
                    clear hABC xcA xcB xcC
                    have hABC := hN
                    clear hN
                    obtain ⟨xcA, xcB, xcC⟩ := hABC.cells
                    clear hb
                    go_wp2_with fail
                    refine (HHAS.out (ntL LA) (O.out.1.not).1 (by have := (O.out.1.not).2; omega) _ _ _ t _ q4).mono ?_
                    rintro e Z10_8 ⟨b, hbb, rfl, hb⟩
                    clear q4
                    obtain rfl : b = true := FN b hbb
                    clear hbb
                    have hN := hABC.step hb
                    clear hABC xcA xcB xcC
                    have hABC := hN
                    clear hN
                    obtain ⟨xcA, xcB, xcC⟩ := hABC.cells
                    clear hb
                    go_wp2
                    go_roundw
                    case rel => exact ⟨k + 1, by omega, by omega, by go_num, hABC⟩
                    case measure => simp [intOf]; omega
                  · have FN : ∀ b : Bool, (b = true ↔ InS (ntL LA) t) → b = true := fun b h => by rw [F.out.2.2.2 b h, FN0]; rfl
                    clear FN0
                    go_wp2_with fail
                    refine (HOR.out aA lA cA LA (O.out.1.mono (by omega)) aB lB cB LB (O.out.2.1.mono (by omega)) _ hABC.sa hABC.sb).mono ?_
                    rintro e Z10_1 ⟨aq1, lq1, cq1, rfl, q1, hb⟩
                    have hN := hABC.step hb
                    clear hABC xcA xcB xcC
                    have hABC := hN
                    clear hN
                    obtain ⟨xcA, xcB, xcC⟩ := hABC.cells
                    clear hb
                    go_wp2_with fail
                    refine (HHAS.out (orL LA LB) (O.out.1.or O.out.2.1).1 (by have := (O.out.1.or O.out.2.1).2; omega) _ _ _ t _ q1).mono ?_
                    rintro e Z10_2 ⟨b, hbb, rfl, hb⟩
                    clear q1
                    obtain rfl : b = true := F.out.1 b hbb
                    clear hbb
                    have hN := hABC.step hb
                    clear hABC xcA xcB xcC
                    have hABC := hN
                    clear hN
                    obtain ⟨xcA, xcB, xcC⟩ := hABC.cells
                    clear hb
                    go_wp2_with fail
                    refine (HAN.out aA lA cA LA (O.out.1.mono (by omega)) aB lB cB LB (O.out.2.1.mono (by omega)) _ hABC.sa hABC.sb).mono ?_
                    rintro e Z10_3 ⟨aq2, lq2, cq2, rfl, q2, hb⟩
                    have hN := hABC.step hb
                    clear hABC xcA xcB xcC
                    have hABC := hN
                    clear hN
                    obtain ⟨xcA, xcB, xcC⟩ := hABC.cells
                    clear hb
                    go_wp2_with fail
                    refine (HHAS.out (anL LA LB) (O.out.1.and O.out.2.1).1 (by have := (O.out.1.and O.out.2.1).2; omega) _ _ _ t _ q2).mono ?_
                    rintro e Z10_4 ⟨b, hbb, rfl, hb⟩
                    clear q2
                    obtain rfl : b = false := F.out.2.1 b hbb
                    clear hbb
                    have hN := hABC.step hb
                    clear hABC xcA xcB xcC
                    have hABC := hN
                    clear hN
                    obtain ⟨xcA, xcB, xcC⟩ := hABC.cells
                    clear hb
                    go_wp2_with fail
                    refine (HLS.out aA lA cA LA (O.out.1.mono (by omega)) aB lB cB LB (O.out.2.1.mono (by omega)) _ hABC.sa hABC.sb).mono ?_
                    rintro e Z10_5 ⟨aq3, lq3, cq3, rfl, q3, hb⟩
                    have hN := hABC.step hb
                    clear hABC xcA xcB xcC
                    have hABC := hN
                    clear hN
                    obtain ⟨xcA, xcB, xcC⟩ := hABC.cells
                    clear hb
                    go_wp2_with fail
                    refine (HHAS.out (lsL LA LB) (O.out.1.less O.out.2.1).1 (by have := (O.out.1.less O.out.2.1).2; omega) _ _ _ t _ q3).mono ?_
                    rintro e Z10_6 ⟨b, hbb, rfl, hb⟩
                    clear q3
                    obtain rfl : b = false := F.out.2.2.1 b hbb
                    clear hbb
                    have hN := hABC.step hb
                    clear hABC xcA xcB xcC
                    have hABC := hN
                    clear hN
                    obtain ⟨xcA, xcB, xcC⟩ := hABC.cells
                    clear hb
                    go_wp2_with fail
                    refine (HNT.out aA lA cA LA (O.out.1.mono (by omega)) _ hABC.sa).mono ?_
                    rintro e Z10_7 ⟨aq4, lq4, cq4, rfl, q4, hb⟩
                    have hN := hABC.step hb
                    clear hABC xcA xcB xcC
                    have hABC := hN
                    clear hN
                    obtain ⟨xcA, xcB, xcC⟩ := hABC.cells
                    clear hb
                    go_wp2_with fail
                    refine (HHAS.out (ntL LA) (O.out.1.not).1 (by have := (O.out.1.not).2; omega) _ _ _ t _ q4).mono ?_
                    rintro e Z10_8 ⟨b, hbb, rfl, hb⟩
                    clear q4
                    obtain rfl : b = true := FN b hbb
                    clear hbb
                    have hN := hABC.step hb
                    clear hABC xcA xcB xcC
                    have hABC := hN
                    clear hN
                    obtain ⟨xcA, xcB, xcC⟩ := hABC.cells
                    clear hb
                    go_wp2
                    go_roundw
                    case rel => exact ⟨k + 1, by omega, by omega, by go_num, hABC⟩
                    case measure => simp [intOf]; omega
                · cases y
                  · have FN : ∀ b : Bool, (b = true ↔ InS (ntL LA) t) → b = false := fun b h => by rw [F.out.2.2.2 b h, FN0]; rfl
                    clear FN0
                    go_wp2_with fail
                    refine (HOR.out aA lA cA LA (O.out.1.mono (by omega)) aB lB cB LB (O.out.2.1.mono (by omega)) _ hABC.sa hABC.sb).mono ?_
                    rintro e Z10_1 ⟨aq1, lq1, cq1, rfl, q1, hb⟩
                    have hN := hABC.step hb
                    clear hABC xcA xcB xcC
                    have hABC := hN
                    clear hN
                    obtain ⟨xcA, xcB, xcC⟩ := hABC.cells
                    clear hb
                    go_wp2_with fail
                    refine (HHAS.out (orL LA LB) (O.out.1.or O.out.2.1).1 (by have := (O.out.1.or O.out.2.1).2; omega) _ _ _ t _ q1).mono ?_
                    rintro e Z10_2 ⟨b, hbb, rfl, hb⟩
                    clear q1
                    obtain rfl : b = true := F.out.1 b hbb
                    clear hbb
                    have hN := hABC.step hb
                    clear hABC xcA xcB xcC
                    have hABC := hN
                    clear hN
                    obtain ⟨xcA, xcB, xcC⟩ := hABC.cells
                    clear hb
                    go_wp2_with fail
                    refine (HAN.out aA lA cA LA (O.out.1.mono (by omega)) aB lB cB LB (O.out.2.1.mono (by omega)) _ hABC.sa hABC.sb).mono ?_
                    rintro e Z10_3 ⟨aq2, lq2, cq2, rfl, q2, hb⟩
                    have hN := hABC.step hb
                    clear hABC xcA xcB xcC
                    have hABC := hN
                    clear hN
                    obtain ⟨xcA, xcB, xcC⟩ := hABC.cells
                    clear hb
                    go_wp2_with fail
                    refine (HHAS.out (anL LA LB) (O.out.1.and O.out.2.1).1 (by have := (O.out.1.and O.out.2.1).2; omega) _ _ _ t _ q2).mono ?_
                    rintro e Z10_4 ⟨b, hbb, rfl, hb⟩
                    clear q2
                    obtain rfl : b = false := F.out.2.1 b hbb
                    clear hbb
                    have hN := hABC.step hb
                    clear hABC xcA xcB xcC
                    have hABC := hN
                    clear hN
                    obtain ⟨xcA, xcB, xcC⟩ := hABC.cells
                    clear hb
                    go_wp2_with fail
                    refine (HLS.out aA lA cA LA (O.out.1.mono (by omega)) aB lB cB LB (O.out.2.1.mono (by omega)) _ hABC.sa hABC.sb).mono ?_
                    rintro e Z10_5 ⟨aq3, lq3, cq3, rfl, q3, hb⟩
                    have hN := hABC.step hb
                    clear hABC xcA xcB xcC
                    have hABC := hN
                    clear hN
                    obtain ⟨xcA, xcB, xcC⟩ := hABC.cells
                    clear hb
                    go_wp2_with fail
                    refine (HHAS.out (lsL LA LB) (O.out.1.less O.out.2.1).1 (by have := (O.out.1.less O.out.2.1).2; omega) _ _ _ t _ q3).mono ?_
                    rintro e Z10_6 ⟨b, hbb, rfl, hb⟩
                    clear q3
                    obtain rfl : b = true := F.out.2.2.1 b hbb
                    clear hbb
                    have hN := hABC.step hb
                    clear hABC xcA xcB xcC
                    have hABC := hN
                    clear hN
                    obtain ⟨xcA, xcB, xcC⟩ := hABC.cells
                    clear hb
                    go_wp2_with fail
                    refine (HNT.out aA lA cA LA (O.out.1.mono (by omega)) _ hABC.sa).mono ?_
                    rintro e Z10_7 ⟨aq4, lq4, cq4, rfl, q4, hb⟩
                    have hN := hABC.step hb
                    clear hABC xcA xcB xcC
                    have hABC := hN
                    clear hN
                    obtain ⟨xcA, xcB, xcC⟩ := hABC.cells
                    clear hb
                    go_wp2_with fail
                    refine (HHAS.out (ntL LA) (O.out.1.not).1 (by have := (O.out.1.not).2; omega) _ _ _ t _ q4).mono ?_
                    rintro e Z10_8 ⟨b, hbb, rfl, hb⟩
                    clear q4
                    obtain rfl : b = false := FN b hbb
                    clear hbb
                    have hN := hABC.step hb
                    clear hABC xcA xcB xcC
                    have hABC := hN
                    clear hN
                    obtain ⟨xcA, xcB, xcC⟩ := hABC.cells
                    clear hb
                    go_wp2
                    go_roundw
                    case rel => exact ⟨k + 1, by omega, by omega, by go_num, hABC⟩
                    case measure => simp [intOf]; omega
                  · have FN : ∀ b : Bool, (b = true ↔ InS (ntL LA) t) → b = false := fun b h => by rw [F.out.2.2.2 b h, FN0]; rfl
                    clear FN0
                    go_wp2_with fail
                    refine (HOR.out aA lA cA LA (O.out.1.mono (by omega)) aB lB cB LB (O.out.2.1.mono (by omega)) _ hABC.sa hABC.sb).mono ?_
                    rintro e Z10_1 ⟨aq1, lq1, cq1, rfl, q1, hb⟩
                    have hN := hABC.step hb
                    clear hABC xcA xcB xcC
                    have hABC := hN
                    clear hN
                    obtain ⟨xcA, xcB, xcC⟩ := hABC.cells
                    clear hb
                    go_wp2_with fail
                    refine (HHAS.out (orL LA LB) (O.out.1.or O.out.2.1).1 (by have := (O.out.1.or O.out.2.1).2; omega) _ _ _ t _ q1).mono ?_
                    rintro e Z10_2 ⟨b, hbb, rfl, hb⟩
                    clear q1
                    obtain rfl : b = true := F.out.1 b hbb
                    clear hbb
                    have hN := hABC.step hb
                    clear hABC xcA xcB xcC
                    have hABC := hN
                    clear hN
                    obtain ⟨xcA, xcB, xcC⟩ := hABC.cells
                    clear hb
                    go_wp2_with fail
                    refine (HAN.out aA lA cA LA (O.out.1.mono (by omega)) aB lB cB LB (O.out.2.1.mono (by omega)) _ hABC.sa hABC.sb).mono ?_
                    rintro e Z10_3 ⟨aq2, lq2, cq2, rfl, q2, hb⟩
                    have hN := hABC.step hb
                    clear hABC xcA xcB xcC
                    have hABC := hN
                    clear hN
                    obtain ⟨xcA, xcB, xcC⟩ := hABC.cells
                    clear hb
                    go_wp2_with fail
                    refine (HHAS.out (anL LA LB) (O.out.1.and O.out.2.1).1 (by have := (O.out.1.and O.out.2.1).2; omega) _ _ _ t _ q2).mono ?_
                    rintro e Z10_4 ⟨b, hbb, rfl, hb⟩
                    clear q2
                    obtain rfl : b = true := F.out.2.1 b hbb
                    clear hbb
                    have hN := hABC.step hb
                    clear hABC xcA xcB xcC
                    have hABC := hN
                    clear hN
                    obtain ⟨xcA, xcB, xcC⟩ := hABC.cells
                    clear hb
                    go_wp2_with fail
                    refine (HLS.out aA lA cA LA (O.out.1.mono (by omega)) aB lB cB LB (O.out.2.1.mono (by omega)) _ hABC.sa hABC.sb).mono ?_
                    rintro e Z10_5 ⟨aq3, lq3, cq3, rfl, q3, hb⟩
                    have hN := hABC.step hb
                    clear hABC xcA xcB xcC
                    have hABC := hN
                    clear hN
                    obtain ⟨xcA, xcB, xcC⟩ := hABC.cells
                    clear hb
                    go_wp2_with fail
                    refine (HHAS.out (lsL LA LB) (O.out.1.less O.out.2.1).1 (by have := (O.out.1.less O.out.2.1).2; omega) _ _ _ t _ q3).mono ?_
                    rintro e Z10_6 ⟨b, hbb, rfl, hb⟩
                    clear q3
                    obtain rfl : b = false := F.out.2.2.1 b hbb
                    clear hbb
                    have hN := hABC.step hb
                    clear hABC xcA xcB xcC
                    have hABC := hN
                    clear hN
                    obtain ⟨xcA, xcB, xcC⟩ := hABC.cells
                    clear hb
                    go_wp2_with fail
                    refine (HNT.out aA lA cA LA (O.out.1.mono (by omega)) _ hABC.sa).mono ?_
                    rintro e Z10_7 ⟨aq4, lq4, cq4, rfl, q4, hb⟩
                    have hN := hABC.step hb
                    clear hABC xcA xcB xcC
                    have hABC := hN
                    clear hN
                    obtain ⟨xcA, xcB, xcC⟩ := hABC.cells
                    clear hb
                    go_wp2_with fail
                    refine (HHAS.out (ntL LA) (O.out.1.not).1 (by have := (O.out.1.not).2; omega) _ _ _ t _ q4).mono ?_
                    rintro e Z10_8 ⟨b, hbb, rfl, hb⟩
                    clear q4
                    obtain rfl : b = false := FN b hbb
                    clear hbb
                    have hN := hABC.step hb
                    clear hABC xcA xcB xcC
                    have hABC := hN
                    clear hN
                    obtain ⟨xcA, xcB, xcC⟩ := hABC.cells
                    clear hb
                    go_wp2
                    go_roundw
                    case rel => exact ⟨k + 1, by omega, by omega, by go_num, hABC⟩
                    case measure => simp [intOf]; omega
          · have hin := hhi
            go_wp2_with fail
            go_loopw [17, 18] (fun vb i wr' => ∃ (m : Nat) (ib : Bool), m ≤ z1.length ∧ i = .int .i64 m ∧ vb = .bool ib ∧ (ib = true ↔ (-1152921504606846976 ≤ t ∧ t < 1152921504606846976) ∧ InS (z1.take m) t) ∧ ABC w wr' n (.slice aA lA cA) (.slice aB lB cB) (.slice aC lC cC) LA LB LC) (fun _ i _ => z1.length - (intOf i).toNat)
            case atStart => exact ⟨0, false, by omega, rfl, rfl, ⟨fun h => (by cases h), fun h => absurd h.2 (inS_nil t)⟩, hABC⟩
            case round =>
              clear hABC
              obtain ⟨m, ib, hm, rfl, rfl, hib, hABC⟩ := hrel
              by_cases hml : m < z1.length
              · have hmi : (m : Int) < z1.length := by omega
                obtain ⟨az, rfl, hc0, hc1⟩ := HK1.out m hml
                have hx0 := (hABC.below.cell (World.block_lt_of_cell? w _ hc0)).trans hc0
                have hx1 := (hABC.below.cell (World.block_lt_of_cell? w _ hc1)).trans hc1
                clear hc0 hc1
                have hnx := inS_next z1 m hml t
                generalize z1.getD m (0, 0) = p at hx0 hx1 hnx
                have hae : az.add (m * 2 + 1) = ⟨az.block, az.off + m * 2 + 1, none⟩ := by unfold Addr.add; rw [if_neg (by omega)]; rfl
                have haf : (az.add (m * 2)).add 1 = ⟨(az.add (m * 2)).block, (az.add (m * 2)).off + 1, none⟩ := by show (if 1 = 0 then _ else _) = _; rw [if_neg (by omega)]
                have hx2 : wr.cell? ⟨az.block, az.off + m * 2 + 1, none⟩ = some (.int .i64 p.2) := by rw [← hae]; exact hx1
                have hx3 : wr.cell? ⟨(az.add (m * 2)).block, (az.add (m * 2)).off + 1, none⟩ = some (.int .i64 p.2) := by rw [← haf, Addr.add_add]; exact hx1
                clear hae haf
                have HQ := hide (And.intro hib hnx)
                clear hib hnx
                cases ib
                · have hok := hlo
                  go_wp2
                  go_roundw
                  case rel => exact ⟨m + 1, false, by omega, by go_num, rfl, ib_next HQ.out.1 HQ.out.2 false (by simp <;> first | done | omega | (intros; omega)), hABC⟩
                  case measure => simp [intOf]; omega
                · have hok := hlo
                  go_wp2
                  go_roundw
                  case rel => exact ⟨m + 1, true, by omega, by go_num, rfl, ib_next HQ.out.1 HQ.out.2 true (by simp <;> first | done | omega | (intros; omega)), hABC⟩
                  case measure => simp [intOf]; omega
              · obtain rfl : m = z1.length := by omega
                have hmi : ¬ (z1.length : Int) < z1.length := by omega
                rw [List.take_length] at hib
                have hix : ib = x := bool_of_iff hib HX.out (by rw [IN.out.1 t]; exact ⟨fun h => ⟨h.1.1, h.1.2, h.2⟩, fun h => ⟨⟨h.1, h.2.1⟩, h.2.2⟩⟩)
                obtain rfl := hix
                obtain rfl : ib = false := by
                  cases ib with
                  | false => rfl
                  | true => exact absurd (hib.1 rfl).1 (by omega)
                obtain rfl : y = false := by
                  cases y with
                  | false => rfl
                  | true => exact absurd ((IN.out.2.1 t).1 (HY.out.1 rfl)) (by omega)
                clear hib
                obtain ⟨xcA, xcB, xcC⟩ := hABC.cells
                have FN0 : decide (-1152921504606846976 ≤ t ∧ t < 1152921504606846976) = false := decide_eq_false (by omega)
                have FN : ∀ b : Bool, (b = true ↔ InS (ntL LA) t) → b = false := fun b h => by rw [F.out.2.2.2 b h, FN0]; rfl
                clear FN0
                go_wp2_with fail
                refine (HOR.out aA lA cA LA (O.out.1.mono (by omega)) aB lB cB LB (O.out.2.1.mono (by omega)) _ hABC.sa hABC.sb).mono ?_
                rintro e Z8_1 ⟨aq1, lq1, cq1, rfl, q1, hb⟩
                have hN := hABC.step hb
                clear hABC xcA xcB xcC
                have hABC := hN
                clear hN
                obtain ⟨xcA, xcB, xcC⟩ := hABC.cells
                clear hb
                go_wp2_with fail
                refine (HHAS.out (orL LA LB) (O.out.1.or O.out.2.1).1 (by have := (O.out.1.or O.out.2.1).2; omega) _ _ _ t _ q1).mono ?_
                rintro e Z8_2 ⟨b, hbb, rfl, hb⟩
                clear q1
                obtain rfl : b = false := F.out.1 b hbb
                clear hbb
                have hN := hABC.step hb
                clear hABC xcA xcB xcC
                have hABC := hN
                clear hN
                obtain ⟨xcA, xcB, xcC⟩ := hABC.cells
                clear hb
                go_wp2_with fail
                refine (HAN.out aA lA cA LA (O.out.1.mono (by omega)) aB lB cB LB (O.out.2.1.mono (by omega)) _ hABC.sa hABC.sb).mono ?_
                rintro e Z8_3 ⟨aq2, lq2, cq2, rfl, q2, hb⟩
                have hN := hABC.step hb
                clear hABC xcA xcB xcC
                have hABC := hN
                clear hN
                obtain ⟨xcA, xcB, xcC⟩ := hABC.cells
                clear hb
                go_wp2_with fail
                refine (HHAS.out (anL LA LB) (O.out.1.and O.out.2.1).1 (by have := (O.out.1.and O.out.2.1).2; omega) _ _ _ t _ q2).mono ?_
                rintro e Z8_4 ⟨b, hbb, rfl, hb⟩
                clear q2
                obtain rfl : b = false := F.out.2.1 b hbb
                clear hbb
                have hN := hABC.step hb
                clear hABC xcA xcB xcC
                have hABC := hN
                clear hN
                obtain ⟨xcA, xcB, xcC⟩ := hABC.cells
                clear hb
                go_wp2_with fail
                refine (HLS.out aA lA cA LA (O.out.1.mono (by omega)) aB lB cB LB (O.out.2.1.mono (by omega)) _ hABC.sa hABC.sb).mono ?_
                rintro e Z8_5 ⟨aq3, lq3, cq3, rfl, q3, hb⟩
                have hN := hABC.step hb
                clear hABC xcA xcB xcC
                have hABC := hN
                clear hN
                obtain ⟨xcA, xcB, xcC⟩ := hABC.cells
                clear hb
                go_wp2_with fail
                refine (HHAS.out (lsL LA LB) (O.out.1.less O.out.2.1).1 (by have := (O.out.1.less O.out.2.1).2; omega) _ _ _ t _ q3).mono ?_
                rintro e Z8_6 ⟨b, hbb, rfl, hb⟩
                clear q3
                obtain rfl : b = false := F.out.2.2.1 b hbb
                clear hbb
                have hN := hABC.step hb
                clear hABC xcA xcB xcC
                have hABC := hN
                clear hN
                obtain ⟨xcA, xcB, xcC⟩ := hABC.cells
                clear hb
                go_wp2_with fail
                refine (HNT.out aA lA cA LA (O.out.1.mono (by omega)) _ hABC.sa).mono ?_
                rintro e Z8_7 ⟨aq4, lq4, cq4, rfl, q4, hb⟩
                have hN := hABC.step hb
                clear hABC xcA xcB xcC
                have hABC := hN
                clear hN
                obtain ⟨xcA, xcB, xcC⟩ := hABC.cells
                clear hb
                go_wp2_with fail
                refine (HHAS.out (ntL LA) (O.out.1.not).1 (by have := (O.out.1.not).2; omega) _ _ _ t _ q4).mono ?_
                rintro e Z8_8 ⟨b, hbb, rfl, hb⟩
                clear q4
                obtain rfl : b = false := FN b hbb
                clear hbb
                have hN := hABC.step hb
                clear hABC xcA xcB xcC
                have hABC := hN
                clear hN
                obtain ⟨xcA, xcB, xcC⟩ := hABC.cells
                clear hb
                go_wp2
                go_roundw
                case rel => exact ⟨k + 1, by omega, by omega, by go_num, hABC⟩
                case measure => simp [intOf]; omega
        · have hin := hlo
          go_wp2_with fail
          go_loopw [17, 18] (fun vb i wr' => ∃ (m : Nat) (ib : Bool), m ≤ z1.length ∧ i = .int .i64 m ∧ vb = .bool ib ∧ (ib = true ↔ (-1152921504606846976 ≤ t ∧ t < 1152921504606846976) ∧ InS (z1.take m) t) ∧ ABC w wr' n (.slice aA lA cA) (.slice aB lB cB) (.slice aC lC cC) LA LB LC) (fun _ i _ => z1.length - (intOf i).toNat)
          case atStart => exact ⟨0, false, by omega, rfl, rfl, ⟨fun h => (by cases h), fun h => absurd h.2 (inS_nil t)⟩, hABC⟩
          case round =>
            clear hABC
            obtain ⟨m, ib, hm, rfl, rfl, hib, hABC⟩ := hrel
            by_cases hml : m < z1.length
            · have hmi : (m : Int) < z1.length := by omega
              obtain ⟨az, rfl, hc0, hc1⟩ := HK1.out m hml
              have hx0 := (hABC.below.cell (World.block_lt_of_cell? w _ hc0)).trans hc0
              have hx1 := (hABC.below.cell (World.block_lt_of_cell? w _ hc1)).trans hc1
              clear hc0 hc1
              have hnx := inS_next z1 m hml t
              generalize z1.getD m (0, 0) = p at hx0 hx1 hnx
              have hae : az.add (m * 2 + 1) = ⟨az.block, az.off + m * 2 + 1, none⟩ := by unfold Addr.add; rw [if_neg (by omega)]; rfl
              have haf : (az.add (m * 2)).add 1 = ⟨(az.add (m * 2)).block, (az.add (m * 2)).off + 1, none⟩ := by show (if 1 = 0 then _ else _) = _; rw [if_neg (by omega)]
              have hx2 : wr.cell? ⟨az.block, az.off + m * 2 + 1, none⟩ = some (.int .i64 p.2) := by rw [← hae]; exact hx1
              have hx3 : wr.cell? ⟨(az.add (m * 2)).block, (az.add (m * 2)).off + 1, none⟩ = some (.int .i64 p.2) := by rw [← haf, Addr.add_add]; exact hx1
              clear hae haf
              have HQ := hide (And.intro hib hnx)
              clear hib hnx
              cases ib
              · have hok := hlo
                go_wp2
                go_roundw
                case rel => exact ⟨m + 1, false, by omega, by go_num, rfl, ib_next HQ.out.1 HQ.out.2 false (by simp <;> first | done | omega | (intros; omega)), hABC⟩
                case measure => simp [intOf]; omega
              · have hok := hlo
                go_wp2
                go_roundw
                case rel => exact ⟨m + 1, true, by omega, by go_num, rfl, ib_next HQ.out.1 HQ.out.2 true (by simp <;> first | done | omega | (intros; omega)), hABC⟩
                case measure => simp [intOf]; omega
            · obtain rfl : m = z1.length := by omega
              have hmi : ¬ (z1.length : Int) < z1.length := by omega
              rw [List.take_length] at hib
              have hix : ib = x := bool_of_iff hib HX.out (by rw [IN.out.1 t]; exact ⟨fun h => ⟨h.1.1, h.1.2, h.2⟩, fun h => ⟨⟨h.1, h.2.1⟩, h.2.2⟩⟩)
              obtain rfl := hix
              obtain rfl : ib = false := by
                cases ib with
                | false => rfl
                | true => exact absurd (hib.1 rfl).1 (by omega)
              obtain rfl : y = false := by
                cases y with
                | false => rfl
                | true => exact absurd ((IN.out.2.1 t).1 (HY.out.1 rfl)) (by omega)
              clear hib
              obtain ⟨xcA, xcB, xcC⟩ := hABC.cells
              have FN0 : decide (-1152921504606846976 ≤ t ∧ t < 1152921504606846976) = false := decide_eq_false (by omega)
              have FN : ∀ b : Bool, (b = true ↔ InS (ntL LA) t) → b = false := fun b h => by rw [F.out.2.2.2 b h, FN0]; rfl
              clear FN0
              go_wp2_with fail
              refine (HOR.out aA lA cA LA (O.out.1.mono (by omega)) aB lB cB LB (O.out.2.1.mono (by omega)) _ hABC.sa hABC.sb).mono ?_
              rintro e Z7_1 ⟨aq1, lq1, cq1, rfl, q1, hb⟩
              have hN := hABC.step hb
              clear hABC xcA xcB xcC
              have hABC := hN
              clear hN
              obtain ⟨xcA, xcB, xcC⟩ := hABC.cells
              clear hb
              go_wp2_with fail
              refine (HHAS.out (orL LA LB) (O.out.1.or O.out.2.1).1 (by have := (O.out.1.or O.out.2.1).2; omega) _ _ _ t _ q1).mono ?_
              rintro e Z7_2 ⟨b, hbb, rfl, hb⟩
              clear q1
              obtain rfl : b = false := F.out.1 b hbb
              clear hbb
              have hN := hABC.step hb
              clear hABC xcA xcB xcC
              have hABC := hN
              clear hN
              obtain ⟨xcA, xcB, xcC⟩ := hABC.cells
              clear hb
              go_wp2_with fail
              refine (HAN.out aA lA cA LA (O.out.1.mono (by omega)) aB lB cB LB (O.out.2.1.mono (by omega)) _ hABC.sa hABC.sb).mono ?_
              rintro e Z7_3 ⟨aq2, lq2, cq2, rfl, q2, hb⟩
              have hN := hABC.step hb
              clear hABC xcA xcB xcC
              have hABC := hN
              clear hN
              obtain ⟨xcA, xcB, xcC⟩ := hABC.cells
              clear hb
              go_wp2_with fail
              refine (HHAS.out (anL LA LB) (O.out.1.and O.out.2.1).1 (by have := (O.out.1.and O.out.2.1).2; omega) _ _ _ t _ q2).mono ?_
              rintro e Z7_4 ⟨b, hbb, rfl, hb⟩
              clear q2
              obtain rfl : b = false := F.out.2.1 b hbb
              clear hbb
              have hN := hABC.step hb
              clear hABC xcA xcB xcC
              have hABC := hN
              clear hN
              obtain ⟨xcA, xcB, xcC⟩ := hABC.cells
              clear hb
              go_wp2_with fail
              refine (HLS.out aA lA cA LA (O.out.1.mono (by omega)) aB lB cB LB (O.out.2.1.mono (by omega)) _ hABC.sa hABC.sb).mono ?_
              rintro e Z7_5 ⟨aq3, lq3, cq3, rfl, q3, hb⟩
              have hN := hABC.step hb
              clear hABC xcA xcB xcC
              have hABC := hN
              clear hN
              obtain ⟨xcA, xcB, xcC⟩ := hABC.cells
              clear hb
              go_wp2_with fail
              refine (HHAS.out (lsL LA LB) (O.out.1.less O.out.2.1).1 (by have := (O.out.1.less O.out.2.1).2; omega) _ _ _ t _ q3).mono ?_
              rintro e Z7_6 ⟨b, hbb, rfl, hb⟩
              clear q3
              obtain rfl : b = false := F.out.2.2.1 b hbb
              clear hbb
              have hN := hABC.step hb
              clear hABC xcA xcB xcC
              have hABC := hN
              clear hN
              obtain ⟨xcA, xcB, xcC⟩ := hABC.cells
              clear hb
              go_wp2_with fail
              refine (HNT.out aA lA cA LA (O.out.1.mono (by omega)) _ hABC.sa).mono ?_
              rintro e Z7_7 ⟨aq4, lq4, cq4, rfl, q4, hb⟩
              have hN := hABC.step hb
              clear hABC xcA xcB xcC
              have hABC := hN
              clear hN
              obtain ⟨xcA, xcB, xcC⟩ := hABC.cells
              clear hb
              go_wp2_with fail
              refine (HHAS.out (ntL LA) (O.out.1.not).1 (by have := (O.out.1.not).2; omega) _ _ _ t _ q4).mono ?_
              rintro e Z7_8 ⟨b, hbb, rfl, hb⟩
              clear q4
              obtain rfl : b = false := FN b hbb
              clear hbb
              have hN := hABC.step hb
              clear hABC xcA xcB xcC
              have hABC := hN
              clear hN
              obtain ⟨xcA, xcB, xcC⟩ := hABC.cells
              clear hb
              go_wp2
              go_roundw
              case rel => exact ⟨k + 1, by omega, by omega, by go_num, hABC⟩
              case measure => simp [intOf]; omega
      · exact absurd hk2 (by omega)
    · have hki : ¬ (k : Int) < ts.length := by omega
      have oA : Ok 64 LA := O.out.1
      have oB : Ok 64 LB := O.out.2.1
      have oC : Ok 64 LC := O.out.2.2
      have HTM := hide (fun X => timesOf_in (.slice none 0 0) [] (by simp) X ⟨none, 0, rfl, fun j hj => absurd hj (by simp)⟩)
      go_wp2_with fail
      have hABCd := hABC.step (Below.refl _ _).drew
      have hS : (wr.drew.cell? ⟨n, 0, none⟩ = some (.slice aA lA cA) ∧ wr.drew.cell? ⟨n + 1, 0, none⟩ = some (.slice aB lB cB) ∧ wr.drew.cell? ⟨n + 1 + 1, 0, none⟩ = some (.slice aC lC cC)) ∧ ABC w wr.drew n (.slice aA lA cA) (.slice aB lB cB) (.slice aC lC cC) LA LB LC := ⟨hABCd.cells, hABCd⟩
      clear hABC hABCd M4 K1 HHAS HLS IN nA nB HK1 O
      refine wp_region_noPanic ?_
      refine wp_region_linM (S := fun X => (X.cell? ⟨n, 0, none⟩ = some (.slice aA lA cA) ∧ X.cell? ⟨n + 1, 0, none⟩ = some (.slice aB lB cB) ∧ X.cell? ⟨n + 1 + 1, 0, none⟩ = some (.slice aC lC cC)) ∧ ABC w X n (.slice aA lA cA) (.slice aB lB cB) (.slice aC lC cC) LA LB LC) (by kernel_rfl) (by kernel_rfl) [(0, none, false), (1, none, false), (2, none, false), (4, none, false), (5, none, false), (3, none, true), (6, none, true), (7, none, true), (8, none, false), (9, some (153, true), false), (10, some (153, true), false), (11, some (153, true), false), (13, some (153, true), false), (14, some (153, true), false), (12, some (153, true), true), (15, some (153, true), true), (16, some (153, true), true), (17, none, false), (18, none, false), (19, some (163, true), false), (20, some (163, true), false), (21, some (163, true), false), (22, some (163, true), false), (25, some (163, true), false), (26, some (163, true), false), (28, some (163, true), false), (23, some (163, true), true), (24, some (163, true), true), (27, some (163, true), true), (29, some (163, true), true), (30, some (163, true), true), (31, none, false), (32, none, false), (33, some (177, true), false), (34, some (177, true), false), (35, some (177, true), false), (36, some (177, true), false), (39, some (177, true), false), (40, some (177, true), false), (42, some (177, true), false), (37, some (177, true), true), (38, some (177, true), true), (41, some (177, true), true), (43, some (177, true), true), (44, some (177, true), true), (45, none, false), (46, none, false), (47, some (191, true), false), (48, some (191, true), false), (49, some (191, true), false), (50, some (191, true), false), (53, some (191, true), false), (54, some (191, true), false), (56, some (191, true), false), (57, some (191, true), false), (51, some (191, true), true), (52, some (191, true), true), (55, some (191, true), true), (58, some (191, true), true), (59, some (191, true), true), (60, some (191, true), true), (61, none, false), (62, none, false), (63, some (207, true), false), (64, some (207, true), false), (65, some (207, true), false), (66, some (207, true), false), (69, some (207, true), false), (70, some (207, true), false), (72, some (207, true), false), (73, some (207, true), false), (67, some (207, true), true), (68, some (207, true), true), (71, some (207, true), true), (74, some (207, true), true), (75, some (207, true), true), (76, some (207, true), true), (77, none, false), (78, none, false), (79, some (223, true), false), (80, some (223, true), false), (81, some (223, true), false), (84, some (223, true), false), (86, some (223, true), false), (82, some (223, true), true), (83, some (223, true), true), (85, some (223, true), true), (87, some (223, true), true), (88, some (223, true), true), (89, some (223, true), true), (90, none, false), (91, none, false), (92, some (236, true), false), (93, some (236, true), false), (96, some (236, true), false), (94, some (236, true), true), (95, some (236, true), true), (97, some (236, true), true), (98, none, false), (99, none, false), (100, some (244, true), false), (101, some (244, true), false), (102, some (244, true), false), (103, some (244, true), true), (104, some (244, true), true), (105, some (244, true), true), (106, some (244, true), true), (107, none, false), (108, none, false), (109, some (253, true), false), (110, some (253, true), false), (111, some (253, true), false), (112, some (253, true), false), (115, some (253, true), false), (113, some (253, true), true), (114, some (253, true), true), (116, some (253, true), true), (117, none, false), (118, none, false)] (by kernel_rfl) (by kernel_rfl) (fun _ _ _ _ _ h => h) (fun ops' Q' hops hQ' => ?_)
      refine wpLin_quiet (o := { dst := some 145, op := Go.Op.move (Go.Operand.tmp 19), type := 37, pos := "keep.go:290", after := #[], guard := none }) (v := ?v0) (by rw [hops]; rfl) (by first | exact trivial | rfl) hS ?hv0 ?h0
      case hv0 => intro w' hw'; obtain ⟨⟨z1, z2, z3⟩, _⟩ := hw'; go_simp; (try rfl)
      (try simp only [Act.put, List.setIfInBounds_toArray, List.set_cons_zero, List.set_cons_succ])
      refine wpLin_quiet (o := { dst := some 146, op := Go.Op.load 27 (Go.Operand.tmp 9), type := 27, pos := "keep.go:290", after := #[], guard := none }) (v := ?v1) (by rw [hops]; rfl) (by first | exact trivial | rfl) hS ?hv1 ?h1
      case hv1 => intro w' hw'; obtain ⟨⟨z1, z2, z3⟩, _⟩ := hw'; go_simp; (try rfl)
      (try simp only [Act.put, List.setIfInBounds_toArray, List.set_cons_zero, List.set_cons_succ])
      refine wpLin_quiet (o := { dst := some 147, op := Go.Op.load 27 (Go.Operand.tmp 10), type := 27, pos := "keep.go:290", after := #[], guard := none }) (v := ?v2) (by rw [hops]; rfl) (by first | exact trivial | rfl) hS ?hv2 ?h2
      case hv2 => intro w' hw'; obtain ⟨⟨z1, z2, z3⟩, _⟩ := hw'; go_simp; (try rfl)
      (try simp only [Act.put, List.setIfInBounds_toArray, List.set_cons_zero, List.set_cons_succ])
      refine wpLin_quiet (o := { dst := some 149, op := Go.Op.load 27 (Go.Operand.tmp 10), type := 27, pos := "keep.go:290", after := #[], guard := none }) (v := ?v4) (by rw [hops]; rfl) (by first | exact trivial | rfl) hS ?hv4 ?h4
      case hv4 => intro w' hw'; obtain ⟨⟨z1, z2, z3⟩, _⟩ := hw'; go_simp; (try rfl)
      (try simp only [Act.put, List.setIfInBounds_toArray, List.set_cons_zero, List.set_cons_succ])
      refine wpLin_quiet (o := { dst := some 150, op := Go.Op.load 27 (Go.Operand.tmp 9), type := 27, pos := "keep.go:290", after := #[], guard := none }) (v := ?v5) (by rw [hops]; rfl) (by first | exact trivial | rfl) hS ?hv5 ?h5
      case hv5 => intro w' hw'; obtain ⟨⟨z1, z2, z3⟩, _⟩ := hw'; go_simp; (try rfl)
      (try simp only [Act.put, List.setIfInBounds_toArray, List.set_cons_zero, List.set_cons_succ])
      refine wpLin_do (o := { dst := some 148, op := Go.Op.call { callee := Go.Callee.value (Go.Operand.func 6), args := #[Go.Operand.tmp 146, Go.Operand.tmp 147], argTypes := #[27, 27] }, type := 27, pos := "keep.go:290", after := #[{ on := 1, ground := Go.Ground.data }, { on := 2, ground := Go.Ground.data }], guard := none }) (by rw [hops]; rfl) (by first | exact trivial | rfl) hS (fun K hK => ?_)
      go_simp
      refine (HOR.out aA lA cA LA (Ok.mono oA (by decide)) aB lB cB LB (Ok.mono oB (by decide)) _ hS.2.sa hS.2.sb).mono ?_
      rintro e X1 ⟨ax1, lx1, cx1, rfl, q1, hb⟩
      replace hS := abc3S hS hb
      clear hb
      refine hK _ _ hS ?_
      clear hK K
      (try simp only [Act.put, List.setIfInBounds_toArray, List.set_cons_zero, List.set_cons_succ])
      refine wpLin_do (o := { dst := some 151, op := Go.Op.call { callee := Go.Callee.value (Go.Operand.func 6), args := #[Go.Operand.tmp 149, Go.Operand.tmp 150], argTypes := #[27, 27] }, type := 27, pos := "keep.go:290", after := #[{ on := 4, ground := Go.Ground.data }, { on := 5, ground := Go.Ground.data }, { on := 3, ground := Go.Ground.chain }], guard := none }) (by rw [hops]; rfl) (by first | exact trivial | rfl) hS (fun K hK => ?_)
      go_simp
      refine (HOR.out aB lB cB LB (Ok.mono oB (by decide)) aA lA cA LA (Ok.mono oA (by decide)) _ hS.2.sb hS.2.sa).mono ?_
      rintro e X2 ⟨ax2, lx2, cx2, rfl, q2, hb⟩
      replace q1 := q1.below hb
      replace hS := abc3S hS hb
      clear hb
      refine hK _ _ hS ?_
      clear hK K
      (try simp only [Act.put, List.setIfInBounds_toArray, List.set_cons_zero, List.set_cons_succ])
      refine wpLin_do (o := { dst := some 152, op := Go.Op.call { callee := Go.Callee.value (Go.Operand.tmp 145), args := #[Go.Operand.tmp 148, Go.Operand.tmp 151], argTypes := #[27, 27] }, type := 4, pos := "keep.go:290", after := #[{ on := 0, ground := Go.Ground.data }, { on := 3, ground := Go.Ground.data }, { on := 6, ground := Go.Ground.data }, { on := 6, ground := Go.Ground.chain }], guard := none }) (by rw [hops]; rfl) (by first | exact trivial | rfl) hS (fun K hK => ?_)
      go_simp
      refine (HEQ.out _ _ _ _ _ _ (orL (LA) (LB)) (orL (LB) (LA)) (alg_or_comm iA iB) (lenOk (Ok.or (oA) (oB)) (by decide)) _ q1 q2).mono ?_
      rintro e X3 ⟨rfl, hb⟩
      clear q1
      clear q2
      replace hS := abc3S hS hb
      clear hb
      refine hK _ _ hS ?_
      clear hK K
      (try simp only [Act.put, List.setIfInBounds_toArray, List.set_cons_zero, List.set_cons_succ])
      refine wpLin_quiet (o := { dst := some 153, op := Go.Op.move (Go.Operand.tmp 152), type := 4, pos := "keep.go:290", after := #[{ on := 7, ground := Go.Ground.data }, { on := 7, ground := Go.Ground.chain }], guard := none }) (v := ?v8) (by rw [hops]; rfl) (by first | exact trivial | rfl) hS ?hv8 ?h8
      case hv8 => intro w' hw'; obtain ⟨⟨z1, z2, z3⟩, _⟩ := hw'; go_simp; (try rfl)
      (try simp only [Act.put, List.setIfInBounds_toArray, List.set_cons_zero, List.set_cons_succ])
      refine wpLin_quiet (o := { dst := some 154, op := Go.Op.move (Go.Operand.tmp 19), type := 37, pos := "keep.go:290", after := #[{ on := 8, ground := Go.Ground.guard }], guard := some (8, true) }) (v := ?v9) (by rw [hops]; rfl) (by first | exact trivial | rfl) hS ?hv9 ?h9
      case hv9 => intro w' hw'; obtain ⟨⟨z1, z2, z3⟩, _⟩ := hw'; go_simp; (try rfl)
      (try simp only [Act.put, List.setIfInBounds_toArray, List.set_cons_zero, List.set_cons_succ])
      refine wpLin_quiet (o := { dst := some 155, op := Go.Op.load 27 (Go.Operand.tmp 9), type := 27, pos := "keep.go:290", after := #[{ on := 8, ground := Go.Ground.guard }], guard := some (8, true) }) (v := ?v10) (by rw [hops]; rfl) (by first | exact trivial | rfl) hS ?hv10 ?h10
      case hv10 => intro w' hw'; obtain ⟨⟨z1, z2, z3⟩, _⟩ := hw'; go_simp; (try rfl)
      (try simp only [Act.put, List.setIfInBounds_toArray, List.set_cons_zero, List.set_cons_succ])
      refine wpLin_quiet (o := { dst := some 156, op := Go.Op.load 27 (Go.Operand.tmp 10), type := 27, pos := "keep.go:290", after := #[{ on := 8, ground := Go.Ground.guard }], guard := some (8, true) }) (v := ?v11) (by rw [hops]; rfl) (by first | exact trivial | rfl) hS ?hv11 ?h11
      case hv11 => intro w' hw'; obtain ⟨⟨z1, z2, z3⟩, _⟩ := hw'; go_simp; (try rfl)
      (try simp only [Act.put, List.setIfInBounds_toArray, List.set_cons_zero, List.set_cons_succ])
      refine wpLin_quiet (o := { dst := some 158, op := Go.Op.load 27 (Go.Operand.tmp 10), type := 27, pos := "keep.go:290", after := #[{ on := 8, ground := Go.Ground.guard }], guard := some (8, true) }) (v := ?v13) (by rw [hops]; rfl) (by first | exact trivial | rfl) hS ?hv13 ?h13
      case hv13 => intro w' hw'; obtain ⟨⟨z1, z2, z3⟩, _⟩ := hw'; go_simp; (try rfl)
      (try simp only [Act.put, List.setIfInBounds_toArray, List.set_cons_zero, List.set_cons_succ])
      refine wpLin_quiet (o := { dst := some 159, op := Go.Op.load 27 (Go.Operand.tmp 9), type := 27, pos := "keep.go:290", after := #[{ on := 8, ground := Go.Ground.guard }], guard := some (8, true) }) (v := ?v14) (by rw [hops]; rfl) (by first | exact trivial | rfl) hS ?hv14 ?h14
      case hv14 => intro w' hw'; obtain ⟨⟨z1, z2, z3⟩, _⟩ := hw'; go_simp; (try rfl)
      (try simp only [Act.put, List.setIfInBounds_toArray, List.set_cons_zero, List.set_cons_succ])
      refine wpLin_do (o := { dst := some 157, op := Go.Op.call { callee := Go.Callee.value (Go.Operand.func 7), args := #[Go.Operand.tmp 155, Go.Operand.tmp 156], argTypes := #[27, 27] }, type := 27, pos := "keep.go:290", after := #[{ on := 10, ground := Go.Ground.data }, { on := 11, ground := Go.Ground.data }, { on := 8, ground := Go.Ground.chain }, { on := 8, ground := Go.Ground.guard }], guard := some (8, true) }) (by rw [hops]; rfl) (by first | exact trivial | rfl) hS (fun K hK => ?_)
      go_simp
      refine (HAN.out aA lA cA LA (Ok.mono oA (by decide)) aB lB cB LB (Ok.mono oB (by decide)) _ hS.2.sa hS.2.sb).mono ?_
      rintro e X4 ⟨ax4, lx4, cx4, rfl, q4, hb⟩
      replace hS := abc3S hS hb
      clear hb
      refine hK _ _ hS ?_
      clear hK K
      (try simp only [Act.put, List.setIfInBounds_toArray, List.set_cons_zero, List.set_cons_succ])
      refine wpLin_do (o := { dst := some 160, op := Go.Op.call { callee := Go.Callee.value (Go.Operand.func 7), args := #[Go.Operand.tmp 158, Go.Operand.tmp 159], argTypes := #[27, 27] }, type := 27, pos := "keep.go:290", after := #[{ on := 13, ground := Go.Ground.data }, { on := 14, ground := Go.Ground.data }, { on := 12, ground := Go.Ground.chain }, { on := 8, ground := Go.Ground.guard }], guard := some (8, true) }) (by rw [hops]; rfl) (by first | exact trivial | rfl) hS (fun K hK => ?_)
      go_simp
      refine (HAN.out aB lB cB LB (Ok.mono oB (by decide)) aA lA cA LA (Ok.mono oA (by decide)) _ hS.2.sb hS.2.sa).mono ?_
      rintro e X5 ⟨ax5, lx5, cx5, rfl, q5, hb⟩
      replace q4 := q4.below hb
      replace hS := abc3S hS hb
      clear hb
      refine hK _ _ hS ?_
      clear hK K
      (try simp only [Act.put, List.setIfInBounds_toArray, List.set_cons_zero, List.set_cons_succ])
      refine wpLin_do (o := { dst := some 161, op := Go.Op.call { callee := Go.Callee.value (Go.Operand.tmp 154), args := #[Go.Operand.tmp 157, Go.Operand.tmp 160], argTypes := #[27, 27] }, type := 4, pos := "keep.go:290", after := #[{ on := 9, ground := Go.Ground.data }, { on := 12, ground := Go.Ground.data }, { on := 15, ground := Go.Ground.data }, { on := 15, ground := Go.Ground.chain }, { on := 8, ground := Go.Ground.guard }], guard := some (8, true) }) (by rw [hops]; rfl) (by first | exact trivial | rfl) hS (fun K hK => ?_)
      go_simp
      refine (HEQ.out _ _ _ _ _ _ (anL (LA) (LB)) (anL (LB) (LA)) (alg_and_comm iA iB) (lenOk (Ok.and (oA) (oB)) (by decide)) _ q4 q5).mono ?_
      rintro e X6 ⟨rfl, hb⟩
      clear q4
      clear q5
      replace hS := abc3S hS hb
      clear hb
      refine hK _ _ hS ?_
      clear hK K
      (try simp only [Act.put, List.setIfInBounds_toArray, List.set_cons_zero, List.set_cons_succ])
      refine wpLin_quiet (o := { dst := some 162, op := Go.Op.pick (Go.Operand.tmp 153) (Go.Operand.tmp 161) (Go.Operand.const (Go.Value.bool false)), type := 4, pos := "keep.go:290", after := #[{ on := 8, ground := Go.Ground.data }, { on := 16, ground := Go.Ground.data }], guard := none }) (v := ?v17) (by rw [hops]; rfl) (by first | exact trivial | rfl) hS ?hv17 ?h17
      case hv17 => intro w' hw'; obtain ⟨⟨z1, z2, z3⟩, _⟩ := hw'; go_simp; (try rfl)
      (try simp only [Act.put, List.setIfInBounds_toArray, List.set_cons_zero, List.set_cons_succ])
      refine wpLin_quiet (o := { dst := some 163, op := Go.Op.move (Go.Operand.tmp 162), type := 4, pos := "keep.go:290", after := #[{ on := 17, ground := Go.Ground.data }, { on := 16, ground := Go.Ground.chain }], guard := none }) (v := ?v18) (by rw [hops]; rfl) (by first | exact trivial | rfl) hS ?hv18 ?h18
      case hv18 => intro w' hw'; obtain ⟨⟨z1, z2, z3⟩, _⟩ := hw'; go_simp; (try rfl)
      (try simp only [Act.put, List.setIfInBounds_toArray, List.set_cons_zero, List.set_cons_succ])
      refine wpLin_quiet (o := { dst := some 164, op := Go.Op.move (Go.Operand.tmp 19), type := 37, pos := "keep.go:290", after := #[{ on := 18, ground := Go.Ground.guard }], guard := some (18, true) }) (v := ?v19) (by rw [hops]; rfl) (by first | exact trivial | rfl) hS ?hv19 ?h19
      case hv19 => intro w' hw'; obtain ⟨⟨z1, z2, z3⟩, _⟩ := hw'; go_simp; (try rfl)
      (try simp only [Act.put, List.setIfInBounds_toArray, List.set_cons_zero, List.set_cons_succ])
      refine wpLin_quiet (o := { dst := some 165, op := Go.Op.load 27 (Go.Operand.tmp 9), type := 27, pos := "keep.go:290", after := #[{ on := 18, ground := Go.Ground.guard }], guard := some (18, true) }) (v := ?v20) (by rw [hops]; rfl) (by first | exact trivial | rfl) hS ?hv20 ?h20
      case hv20 => intro w' hw'; obtain ⟨⟨z1, z2, z3⟩, _⟩ := hw'; go_simp; (try rfl)
      (try simp only [Act.put, List.setIfInBounds_toArray, List.set_cons_zero, List.set_cons_succ])
      refine wpLin_quiet (o := { dst := some 166, op := Go.Op.load 27 (Go.Operand.tmp 10), type := 27, pos := "keep.go:290", after := #[{ on := 18, ground := Go.Ground.guard }], guard := some (18, true) }) (v := ?v21) (by rw [hops]; rfl) (by first | exact trivial | rfl) hS ?hv21 ?h21
      case hv21 => intro w' hw'; obtain ⟨⟨z1, z2, z3⟩, _⟩ := hw'; go_simp; (try rfl)
      (try simp only [Act.put, List.setIfInBounds_toArray, List.set_cons_zero, List.set_cons_succ])
      refine wpLin_quiet (o := { dst := some 167, op := Go.Op.load 27 (Go.Operand.tmp 11), type := 27, pos := "keep.go:290", after := #[{ on := 18, ground := Go.Ground.guard }], guard := some (18, true) }) (v := ?v22) (by rw [hops]; rfl) (by first | exact trivial | rfl) hS ?hv22 ?h22
      case hv22 => intro w' hw'; obtain ⟨⟨z1, z2, z3⟩, _⟩ := hw'; go_simp; (try rfl)
      (try simp only [Act.put, List.setIfInBounds_toArray, List.set_cons_zero, List.set_cons_succ])
      refine wpLin_quiet (o := { dst := some 170, op := Go.Op.load 27 (Go.Operand.tmp 9), type := 27, pos := "keep.go:290", after := #[{ on := 18, ground := Go.Ground.guard }], guard := some (18, true) }) (v := ?v25) (by rw [hops]; rfl) (by first | exact trivial | rfl) hS ?hv25 ?h25
      case hv25 => intro w' hw'; obtain ⟨⟨z1, z2, z3⟩, _⟩ := hw'; go_simp; (try rfl)
      (try simp only [Act.put, List.setIfInBounds_toArray, List.set_cons_zero, List.set_cons_succ])
      refine wpLin_quiet (o := { dst := some 171, op := Go.Op.load 27 (Go.Operand.tmp 10), type := 27, pos := "keep.go:290", after := #[{ on := 18, ground := Go.Ground.guard }], guard := some (18, true) }) (v := ?v26) (by rw [hops]; rfl) (by first | exact trivial | rfl) hS ?hv26 ?h26
      case hv26 => intro w' hw'; obtain ⟨⟨z1, z2, z3⟩, _⟩ := hw'; go_simp; (try rfl)
      (try simp only [Act.put, List.setIfInBounds_toArray, List.set_cons_zero, List.set_cons_succ])
      refine wpLin_quiet (o := { dst := some 173, op := Go.Op.load 27 (Go.Operand.tmp 11), type := 27, pos := "keep.go:290", after := #[{ on := 18, ground := Go.Ground.guard }], guard := some (18, true) }) (v := ?v28) (by rw [hops]; rfl) (by first | exact trivial | rfl) hS ?hv28 ?h28
      case hv28 => intro w' hw'; obtain ⟨⟨z1, z2, z3⟩, _⟩ := hw'; go_simp; (try rfl)
      (try simp only [Act.put, List.setIfInBounds_toArray, List.set_cons_zero, List.set_cons_succ])
      refine wpLin_do (o := { dst := some 168, op := Go.Op.call { callee := Go.Callee.value (Go.Operand.func 6), args := #[Go.Operand.tmp 166, Go.Operand.tmp 167], argTypes := #[27, 27] }, type := 27, pos := "keep.go:290", after := #[{ on := 21, ground := Go.Ground.data }, { on := 22, ground := Go.Ground.data }, { on := 18, ground := Go.Ground.chain }, { on := 18, ground := Go.Ground.guard }], guard := some (18, true) }) (by rw [hops]; rfl) (by first | exact trivial | rfl) hS (fun K hK => ?_)
      go_simp
      refine (HOR.out aB lB cB LB (Ok.mono oB (by decide)) aC lC cC LC (Ok.mono oC (by decide)) _ hS.2.sb hS.2.sc).mono ?_
      rintro e X7 ⟨ax7, lx7, cx7, rfl, q7, hb⟩
      replace hS := abc3S hS hb
      clear hb
      refine hK _ _ hS ?_
      clear hK K
      (try simp only [Act.put, List.setIfInBounds_toArray, List.set_cons_zero, List.set_cons_succ])
      refine wpLin_do (o := { dst := some 169, op := Go.Op.call { callee := Go.Callee.value (Go.Operand.func 6), args := #[Go.Operand.tmp 165, Go.Operand.tmp 168], argTypes := #[27, 27] }, type := 27, pos := "keep.go:290", after := #[{ on := 20, ground := Go.Ground.data }, { on := 23, ground := Go.Ground.data }, { on := 23, ground := Go.Ground.chain }, { on := 18, ground := Go.Ground.guard }], guard := some (18, true) }) (by rw [hops]; rfl) (by first | exact trivial | rfl) hS (fun K hK => ?_)
      go_simp
      refine (HOR.out aA lA cA LA (Ok.mono oA (by decide)) _ _ _ (orL (LB) (LC)) (Ok.mono (Ok.or (oB) (oC)) (by decide)) _ hS.2.sa q7).mono ?_
      rintro e X8 ⟨ax8, lx8, cx8, rfl, q8, hb⟩
      clear q7
      replace hS := abc3S hS hb
      clear hb
      refine hK _ _ hS ?_
      clear hK K
      (try simp only [Act.put, List.setIfInBounds_toArray, List.set_cons_zero, List.set_cons_succ])
      refine wpLin_do (o := { dst := some 172, op := Go.Op.call { callee := Go.Callee.value (Go.Operand.func 6), args := #[Go.Operand.tmp 170, Go.Operand.tmp 171], argTypes := #[27, 27] }, type := 27, pos := "keep.go:290", after := #[{ on := 25, ground := Go.Ground.data }, { on := 26, ground := Go.Ground.data }, { on := 24, ground := Go.Ground.chain }, { on := 18, ground := Go.Ground.guard }], guard := some (18, true) }) (by rw [hops]; rfl) (by first | exact trivial | rfl) hS (fun K hK => ?_)
      go_simp
      refine (HOR.out aA lA cA LA (Ok.mono oA (by decide)) aB lB cB LB (Ok.mono oB (by decide)) _ hS.2.sa hS.2.sb).mono ?_
      rintro e X9 ⟨ax9, lx9, cx9, rfl, q9, hb⟩
      replace q8 := q8.below hb
      replace hS := abc3S hS hb
      clear hb
      refine hK _ _ hS ?_
      clear hK K
      (try simp only [Act.put, List.setIfInBounds_toArray, List.set_cons_zero, List.set_cons_succ])
      refine wpLin_do (o := { dst := some 174, op := Go.Op.call { callee := Go.Callee.value (Go.Operand.func 6), args := #[Go.Operand.tmp 172, Go.Operand.tmp 173], argTypes := #[27, 27] }, type := 27, pos := "keep.go:290", after := #[{ on := 27, ground := Go.Ground.data }, { on := 28, ground := Go.Ground.data }, { on := 27, ground := Go.Ground.chain }, { on := 18, ground := Go.Ground.guard }], guard := some (18, true) }) (by rw [hops]; rfl) (by first | exact trivial | rfl) hS (fun K hK => ?_)
      go_simp
      refine (HOR.out _ _ _ (orL (LA) (LB)) (Ok.mono (Ok.or (oA) (oB)) (by decide)) aC lC cC LC (Ok.mono oC (by decide)) _ q9 hS.2.sc).mono ?_
      rintro e X10 ⟨ax10, lx10, cx10, rfl, q10, hb⟩
      clear q9
      replace q8 := q8.below hb
      replace hS := abc3S hS hb
      clear hb
      refine hK _ _ hS ?_
      clear hK K
      (try simp only [Act.put, List.setIfInBounds_toArray, List.set_cons_zero, List.set_cons_succ])
      refine wpLin_do (o := { dst := some 175, op := Go.Op.call { callee := Go.Callee.value (Go.Operand.tmp 164), args := #[Go.Operand.tmp 169, Go.Operand.tmp 174], argTypes := #[27, 27] }, type := 4, pos := "keep.go:290", after := #[{ on := 19, ground := Go.Ground.data }, { on := 24, ground := Go.Ground.data }, { on := 29, ground := Go.Ground.data }, { on := 29, ground := Go.Ground.chain }, { on := 18, ground := Go.Ground.guard }], guard := some (18, true) }) (by rw [hops]; rfl) (by first | exact trivial | rfl) hS (fun K hK => ?_)
      go_simp
      refine (HEQ.out _ _ _ _ _ _ (orL (LA) (orL (LB) (LC))) (orL (orL (LA) (LB)) (LC)) (alg_or_assoc iA iB iC) (lenOk (Ok.or (oA) (Ok.or (oB) (oC))) (by decide)) _ q8 q10).mono ?_
      rintro e X11 ⟨rfl, hb⟩
      clear q8
      clear q10
      replace hS := abc3S hS hb
      clear hb
      refine hK _ _ hS ?_
      clear hK K
      (try simp only [Act.put, List.setIfInBounds_toArray, List.set_cons_zero, List.set_cons_succ])
      refine wpLin_quiet (o := { dst := some 176, op := Go.Op.pick (Go.Operand.tmp 163) (Go.Operand.tmp 175) (Go.Operand.const (Go.Value.bool false)), type := 4, pos := "keep.go:290", after := #[{ on := 18, ground := Go.Ground.data }, { on := 30, ground := Go.Ground.data }], guard := none }) (v := ?v31) (by rw [hops]; rfl) (by first | exact trivial | rfl) hS ?hv31 ?h31
      case hv31 => intro w' hw'; obtain ⟨⟨z1, z2, z3⟩, _⟩ := hw'; go_simp; (try rfl)
      (try simp only [Act.put, List.setIfInBounds_toArray, List.set_cons_zero, List.set_cons_succ])
      refine wpLin_quiet (o := { dst := some 177, op := Go.Op.move (Go.Operand.tmp 176), type := 4, pos := "keep.go:290", after := #[{ on := 31, ground := Go.Ground.data }, { on := 30, ground := Go.Ground.chain }], guard := none }) (v := ?v32) (by rw [hops]; rfl) (by first | exact trivial | rfl) hS ?hv32 ?h32
      case hv32 => intro w' hw'; obtain ⟨⟨z1, z2, z3⟩, _⟩ := hw'; go_simp; (try rfl)
      (try simp only [Act.put, List.setIfInBounds_toArray, List.set_cons_zero, List.set_cons_succ])
      refine wpLin_quiet (o := { dst := some 178, op := Go.Op.move (Go.Operand.tmp 19), type := 37, pos := "keep.go:290", after := #[{ on := 32, ground := Go.Ground.guard }], guard := some (32, true) }) (v := ?v33) (by rw [hops]; rfl) (by first | exact trivial | rfl) hS ?hv33 ?h33
      case hv33 => intro w' hw'; obtain ⟨⟨z1, z2, z3⟩, _⟩ := hw'; go_simp; (try rfl)
      (try simp only [Act.put, List.setIfInBounds_toArray, List.set_cons_zero, List.set_cons_succ])
      refine wpLin_quiet (o := { dst := some 179, op := Go.Op.load 27 (Go.Operand.tmp 9), type := 27, pos := "keep.go:290", after := #[{ on := 32, ground := Go.Ground.guard }], guard := some (32, true) }) (v := ?v34) (by rw [hops]; rfl) (by first | exact trivial | rfl) hS ?hv34 ?h34
      case hv34 => intro w' hw'; obtain ⟨⟨z1, z2, z3⟩, _⟩ := hw'; go_simp; (try rfl)
      (try simp only [Act.put, List.setIfInBounds_toArray, List.set_cons_zero, List.set_cons_succ])
      refine wpLin_quiet (o := { dst := some 180, op := Go.Op.load 27 (Go.Operand.tmp 10), type := 27, pos := "keep.go:290", after := #[{ on := 32, ground := Go.Ground.guard }], guard := some (32, true) }) (v := ?v35) (by rw [hops]; rfl) (by first | exact trivial | rfl) hS ?hv35 ?h35
      case hv35 => intro w' hw'; obtain ⟨⟨z1, z2, z3⟩, _⟩ := hw'; go_simp; (try rfl)
      (try simp only [Act.put, List.setIfInBounds_toArray, List.set_cons_zero, List.set_cons_succ])
      refine wpLin_quiet (o := { dst := some 181, op := Go.Op.load 27 (Go.Operand.tmp 11), type := 27, pos := "keep.go:290", after := #[{ on := 32, ground := Go.Ground.guard }], guard := some (32, true) }) (v := ?v36) (by rw [hops]; rfl) (by first | exact trivial | rfl) hS ?hv36 ?h36
      case hv36 => intro w' hw'; obtain ⟨⟨z1, z2, z3⟩, _⟩ := hw'; go_simp; (try rfl)
      (try simp only [Act.put, List.setIfInBounds_toArray, List.set_cons_zero, List.set_cons_succ])
      refine wpLin_quiet (o := { dst := some 184, op := Go.Op.load 27 (Go.Operand.tmp 9), type := 27, pos := "keep.go:290", after := #[{ on := 32, ground := Go.Ground.guard }], guard := some (32, true) }) (v := ?v39) (by rw [hops]; rfl) (by first | exact trivial | rfl) hS ?hv39 ?h39
      case hv39 => intro w' hw'; obtain ⟨⟨z1, z2, z3⟩, _⟩ := hw'; go_simp; (try rfl)
      (try simp only [Act.put, List.setIfInBounds_toArray, List.set_cons_zero, List.set_cons_succ])
      refine wpLin_quiet (o := { dst := some 185, op := Go.Op.load 27 (Go.Operand.tmp 10), type := 27, pos := "keep.go:290", after := #[{ on := 32, ground := Go.Ground.guard }], guard := some (32, true) }) (v := ?v40) (by rw [hops]; rfl) (by first | exact trivial | rfl) hS ?hv40 ?h40
      case hv40 => intro w' hw'; obtain ⟨⟨z1, z2, z3⟩, _⟩ := hw'; go_simp; (try rfl)
      (try simp only [Act.put, List.setIfInBounds_toArray, List.set_cons_zero, List.set_cons_succ])
      refine wpLin_quiet (o := { dst := some 187, op := Go.Op.load 27 (Go.Operand.tmp 11), type := 27, pos := "keep.go:290", after := #[{ on := 32, ground := Go.Ground.guard }], guard := some (32, true) }) (v := ?v42) (by rw [hops]; rfl) (by first | exact trivial | rfl) hS ?hv42 ?h42
      case hv42 => intro w' hw'; obtain ⟨⟨z1, z2, z3⟩, _⟩ := hw'; go_simp; (try rfl)
      (try simp only [Act.put, List.setIfInBounds_toArray, List.set_cons_zero, List.set_cons_succ])
      refine wpLin_do (o := { dst := some 182, op := Go.Op.call { callee := Go.Callee.value (Go.Operand.func 7), args := #[Go.Operand.tmp 180, Go.Operand.tmp 181], argTypes := #[27, 27] }, type := 27, pos := "keep.go:290", after := #[{ on := 35, ground := Go.Ground.data }, { on := 36, ground := Go.Ground.data }, { on := 32, ground := Go.Ground.chain }, { on := 32, ground := Go.Ground.guard }], guard := some (32, true) }) (by rw [hops]; rfl) (by first | exact trivial | rfl) hS (fun K hK => ?_)
      go_simp
      refine (HAN.out aB lB cB LB (Ok.mono oB (by decide)) aC lC cC LC (Ok.mono oC (by decide)) _ hS.2.sb hS.2.sc).mono ?_
      rintro e X12 ⟨ax12, lx12, cx12, rfl, q12, hb⟩
      replace hS := abc3S hS hb
      clear hb
      refine hK _ _ hS ?_
      clear hK K
      (try simp only [Act.put, List.setIfInBounds_toArray, List.set_cons_zero, List.set_cons_succ])
      refine wpLin_do (o := { dst := some 183, op := Go.Op.call { callee := Go.Callee.value (Go.Operand.func 7), args := #[Go.Operand.tmp 179, Go.Operand.tmp 182], argTypes := #[27, 27] }, type := 27, pos := "keep.go:290", after := #[{ on := 34, ground := Go.Ground.data }, { on := 37, ground := Go.Ground.data }, { on := 37, ground := Go.Ground.chain }, { on := 32, ground := Go.Ground.guard }], guard := some (32, true) }) (by rw [hops]; rfl) (by first | exact trivial | rfl) hS (fun K hK => ?_)
      go_simp
      refine (HAN.out aA lA cA LA (Ok.mono oA (by decide)) _ _ _ (anL (LB) (LC)) (Ok.mono (Ok.and (oB) (oC)) (by decide)) _ hS.2.sa q12).mono ?_
      rintro e X13 ⟨ax13, lx13, cx13, rfl, q13, hb⟩
      clear q12
      replace hS := abc3S hS hb
      clear hb
      refine hK _ _ hS ?_
      clear hK K
      (try simp only [Act.put, List.setIfInBounds_toArray, List.set_cons_zero, List.set_cons_succ])
      refine wpLin_do (o := { dst := some 186, op := Go.Op.call { callee := Go.Callee.value (Go.Operand.func 7), args := #[Go.Operand.tmp 184, Go.Operand.tmp 185], argTypes := #[27, 27] }, type := 27, pos := "keep.go:290", after := #[{ on := 39, ground := Go.Ground.data }, { on := 40, ground := Go.Ground.data }, { on := 38, ground := Go.Ground.chain }, { on := 32, ground := Go.Ground.guard }], guard := some (32, true) }) (by rw [hops]; rfl) (by first | exact trivial | rfl) hS (fun K hK => ?_)
      go_simp
      refine (HAN.out aA lA cA LA (Ok.mono oA (by decide)) aB lB cB LB (Ok.mono oB (by decide)) _ hS.2.sa hS.2.sb).mono ?_
      rintro e X14 ⟨ax14, lx14, cx14, rfl, q14, hb⟩
      replace q13 := q13.below hb
      replace hS := abc3S hS hb
      clear hb
      refine hK _ _ hS ?_
      clear hK K
      (try simp only [Act.put, List.setIfInBounds_toArray, List.set_cons_zero, List.set_cons_succ])
      refine wpLin_do (o := { dst := some 188, op := Go.Op.call { callee := Go.Callee.value (Go.Operand.func 7), args := #[Go.Operand.tmp 186, Go.Operand.tmp 187], argTypes := #[27, 27] }, type := 27, pos := "keep.go:290", after := #[{ on := 41, ground := Go.Ground.data }, { on := 42, ground := Go.Ground.data }, { on := 41, ground := Go.Ground.chain }, { on := 32, ground := Go.Ground.guard }], guard := some (32, true) }) (by rw [hops]; rfl) (by first | exact trivial | rfl) hS (fun K hK => ?_)
      go_simp
      refine (HAN.out _ _ _ (anL (LA) (LB)) (Ok.mono (Ok.and (oA) (oB)) (by decide)) aC lC cC LC (Ok.mono oC (by decide)) _ q14 hS.2.sc).mono ?_
      rintro e X15 ⟨ax15, lx15, cx15, rfl, q15, hb⟩
      clear q14
      replace q13 := q13.below hb
      replace hS := abc3S hS hb
      clear hb
      refine hK _ _ hS ?_
      clear hK K
      (try simp only [Act.put, List.setIfInBounds_toArray, List.set_cons_zero, List.set_cons_succ])
      refine wpLin_do (o := { dst := some 189, op := Go.Op.call { callee := Go.Callee.value (Go.Operand.tmp 178), args := #[Go.Operand.tmp 183, Go.Operand.tmp 188], argTypes := #[27, 27] }, type := 4, pos := "keep.go:290", after := #[{ on := 33, ground := Go.Ground.data }, { on := 38, ground := Go.Ground.data }, { on := 43, ground := Go.Ground.data }, { on := 43, ground := Go.Ground.chain }, { on := 32, ground := Go.Ground.guard }], guard := some (32, true) }) (by rw [hops]; rfl) (by first | exact trivial | rfl) hS (fun K hK => ?_)
      go_simp
      refine (HEQ.out _ _ _ _ _ _ (anL (LA) (anL (LB) (LC))) (anL (anL (LA) (LB)) (LC)) (alg_and_assoc iA iB iC) (lenOk (Ok.and (oA) (Ok.and (oB) (oC))) (by decide)) _ q13 q15).mono ?_
      rintro e X16 ⟨rfl, hb⟩
      clear q13
      clear q15
      replace hS := abc3S hS hb
      clear hb
      refine hK _ _ hS ?_
      clear hK K
      (try simp only [Act.put, List.setIfInBounds_toArray, List.set_cons_zero, List.set_cons_succ])
      refine wpLin_quiet (o := { dst := some 190, op := Go.Op.pick (Go.Operand.tmp 177) (Go.Operand.tmp 189) (Go.Operand.const (Go.Value.bool false)), type := 4, pos := "keep.go:290", after := #[{ on := 32, ground := Go.Ground.data }, { on := 44, ground := Go.Ground.data }], guard := none }) (v := ?v45) (by rw [hops]; rfl) (by first | exact trivial | rfl) hS ?hv45 ?h45
      case hv45 => intro w' hw'; obtain ⟨⟨z1, z2, z3⟩, _⟩ := hw'; go_simp; (try rfl)
      (try simp only [Act.put, List.setIfInBounds_toArray, List.set_cons_zero, List.set_cons_succ])
      refine wpLin_quiet (o := { dst := some 191, op := Go.Op.move (Go.Operand.tmp 190), type := 4, pos := "keep.go:290", after := #[{ on := 45, ground := Go.Ground.data }, { on := 44, ground := Go.Ground.chain }], guard := none }) (v := ?v46) (by rw [hops]; rfl) (by first | exact trivial | rfl) hS ?hv46 ?h46
      case hv46 => intro w' hw'; obtain ⟨⟨z1, z2, z3⟩, _⟩ := hw'; go_simp; (try rfl)
      (try simp only [Act.put, List.setIfInBounds_toArray, List.set_cons_zero, List.set_cons_succ])
      refine wpLin_quiet (o := { dst := some 192, op := Go.Op.move (Go.Operand.tmp 19), type := 37, pos := "keep.go:290", after := #[{ on := 46, ground := Go.Ground.guard }], guard := some (46, true) }) (v := ?v47) (by rw [hops]; rfl) (by first | exact trivial | rfl) hS ?hv47 ?h47
      case hv47 => intro w' hw'; obtain ⟨⟨z1, z2, z3⟩, _⟩ := hw'; go_simp; (try rfl)
      (try simp only [Act.put, List.setIfInBounds_toArray, List.set_cons_zero, List.set_cons_succ])
      refine wpLin_quiet (o := { dst := some 193, op := Go.Op.load 27 (Go.Operand.tmp 9), type := 27, pos := "keep.go:290", after := #[{ on := 46, ground := Go.Ground.guard }], guard := some (46, true) }) (v := ?v48) (by rw [hops]; rfl) (by first | exact trivial | rfl) hS ?hv48 ?h48
      case hv48 => intro w' hw'; obtain ⟨⟨z1, z2, z3⟩, _⟩ := hw'; go_simp; (try rfl)
      (try simp only [Act.put, List.setIfInBounds_toArray, List.set_cons_zero, List.set_cons_succ])
      refine wpLin_quiet (o := { dst := some 194, op := Go.Op.load 27 (Go.Operand.tmp 10), type := 27, pos := "keep.go:290", after := #[{ on := 46, ground := Go.Ground.guard }], guard := some (46, true) }) (v := ?v49) (by rw [hops]; rfl) (by first | exact trivial | rfl) hS ?hv49 ?h49
      case hv49 => intro w' hw'; obtain ⟨⟨z1, z2, z3⟩, _⟩ := hw'; go_simp; (try rfl)
      (try simp only [Act.put, List.setIfInBounds_toArray, List.set_cons_zero, List.set_cons_succ])
      refine wpLin_quiet (o := { dst := some 195, op := Go.Op.load 27 (Go.Operand.tmp 11), type := 27, pos := "keep.go:290", after := #[{ on := 46, ground := Go.Ground.guard }], guard := some (46, true) }) (v := ?v50) (by rw [hops]; rfl) (by first | exact trivial | rfl) hS ?hv50 ?h50
      case hv50 => intro w' hw'; obtain ⟨⟨z1, z2, z3⟩, _⟩ := hw'; go_simp; (try rfl)
      (try simp only [Act.put, List.setIfInBounds_toArray, List.set_cons_zero, List.set_cons_succ])
      refine wpLin_quiet (o := { dst := some 198, op := Go.Op.load 27 (Go.Operand.tmp 9), type := 27, pos := "keep.go:290", after := #[{ on := 46, ground := Go.Ground.guard }], guard := some (46, true) }) (v := ?v53) (by rw [hops]; rfl) (by first | exact trivial | rfl) hS ?hv53 ?h53
      case hv53 => intro w' hw'; obtain ⟨⟨z1, z2, z3⟩, _⟩ := hw'; go_simp; (try rfl)
      (try simp only [Act.put, List.setIfInBounds_toArray, List.set_cons_zero, List.set_cons_succ])
      refine wpLin_quiet (o := { dst := some 199, op := Go.Op.load 27 (Go.Operand.tmp 10), type := 27, pos := "keep.go:290", after := #[{ on := 46, ground := Go.Ground.guard }], guard := some (46, true) }) (v := ?v54) (by rw [hops]; rfl) (by first | exact trivial | rfl) hS ?hv54 ?h54
      case hv54 => intro w' hw'; obtain ⟨⟨z1, z2, z3⟩, _⟩ := hw'; go_simp; (try rfl)
      (try simp only [Act.put, List.setIfInBounds_toArray, List.set_cons_zero, List.set_cons_succ])
      refine wpLin_quiet (o := { dst := some 201, op := Go.Op.load 27 (Go.Operand.tmp 9), type := 27, pos := "keep.go:290", after := #[{ on := 46, ground := Go.Ground.guard }], guard := some (46, true) }) (v := ?v56) (by rw [hops]; rfl) (by first | exact trivial | rfl) hS ?hv56 ?h56
      case hv56 => intro w' hw'; obtain ⟨⟨z1, z2, z3⟩, _⟩ := hw'; go_simp; (try rfl)
      (try simp only [Act.put, List.setIfInBounds_toArray, List.set_cons_zero, List.set_cons_succ])
      refine wpLin_quiet (o := { dst := some 202, op := Go.Op.load 27 (Go.Operand.tmp 11), type := 27, pos := "keep.go:290", after := #[{ on := 46, ground := Go.Ground.guard }], guard := some (46, true) }) (v := ?v57) (by rw [hops]; rfl) (by first | exact trivial | rfl) hS ?hv57 ?h57
      case hv57 => intro w' hw'; obtain ⟨⟨z1, z2, z3⟩, _⟩ := hw'; go_simp; (try rfl)
      (try simp only [Act.put, List.setIfInBounds_toArray, List.set_cons_zero, List.set_cons_succ])
      refine wpLin_do (o := { dst := some 196, op := Go.Op.call { callee := Go.Callee.value (Go.Operand.func 6), args := #[Go.Operand.tmp 194, Go.Operand.tmp 195], argTypes := #[27, 27] }, type := 27, pos := "keep.go:290", after := #[{ on := 49, ground := Go.Ground.data }, { on := 50, ground := Go.Ground.data }, { on := 46, ground := Go.Ground.chain }, { on := 46, ground := Go.Ground.guard }], guard := some (46, true) }) (by rw [hops]; rfl) (by first | exact trivial | rfl) hS (fun K hK => ?_)
      go_simp
      refine (HOR.out aB lB cB LB (Ok.mono oB (by decide)) aC lC cC LC (Ok.mono oC (by decide)) _ hS.2.sb hS.2.sc).mono ?_
      rintro e X17 ⟨ax17, lx17, cx17, rfl, q17, hb⟩
      replace hS := abc3S hS hb
      clear hb
      refine hK _ _ hS ?_
      clear hK K
      (try simp only [Act.put, List.setIfInBounds_toArray, List.set_cons_zero, List.set_cons_succ])
      refine wpLin_do (o := { dst := some 197, op := Go.Op.call { callee := Go.Callee.value (Go.Operand.func 7), args := #[Go.Operand.tmp 193, Go.Operand.tmp 196], argTypes := #[27, 27] }, type := 27, pos := "keep.go:290", after := #[{ on := 48, ground := Go.Ground.data }, { on := 51, ground := Go.Ground.data }, { on := 51, ground := Go.Ground.chain }, { on := 46, ground := Go.Ground.guard }], guard := some (46, true) }) (by rw [hops]; rfl) (by first | exact trivial | rfl) hS (fun K hK => ?_)
      go_simp
      refine (HAN.out aA lA cA LA (Ok.mono oA (by decide)) _ _ _ (orL (LB) (LC)) (Ok.mono (Ok.or (oB) (oC)) (by decide)) _ hS.2.sa q17).mono ?_
      rintro e X18 ⟨ax18, lx18, cx18, rfl, q18, hb⟩
      clear q17
      replace hS := abc3S hS hb
      clear hb
      refine hK _ _ hS ?_
      clear hK K
      (try simp only [Act.put, List.setIfInBounds_toArray, List.set_cons_zero, List.set_cons_succ])
      refine wpLin_do (o := { dst := some 200, op := Go.Op.call { callee := Go.Callee.value (Go.Operand.func 7), args := #[Go.Operand.tmp 198, Go.Operand.tmp 199], argTypes := #[27, 27] }, type := 27, pos := "keep.go:290", after := #[{ on := 53, ground := Go.Ground.data }, { on := 54, ground := Go.Ground.data }, { on := 52, ground := Go.Ground.chain }, { on := 46, ground := Go.Ground.guard }], guard := some (46, true) }) (by rw [hops]; rfl) (by first | exact trivial | rfl) hS (fun K hK => ?_)
      go_simp
      refine (HAN.out aA lA cA LA (Ok.mono oA (by decide)) aB lB cB LB (Ok.mono oB (by decide)) _ hS.2.sa hS.2.sb).mono ?_
      rintro e X19 ⟨ax19, lx19, cx19, rfl, q19, hb⟩
      replace q18 := q18.below hb
      replace hS := abc3S hS hb
      clear hb
      refine hK _ _ hS ?_
      clear hK K
      (try simp only [Act.put, List.setIfInBounds_toArray, List.set_cons_zero, List.set_cons_succ])
      refine wpLin_do (o := { dst := some 203, op := Go.Op.call { callee := Go.Callee.value (Go.Operand.func 7), args := #[Go.Operand.tmp 201, Go.Operand.tmp 202], argTypes := #[27, 27] }, type := 27, pos := "keep.go:290", after := #[{ on := 56, ground := Go.Ground.data }, { on := 57, ground := Go.Ground.data }, { on := 55, ground := Go.Ground.chain }, { on := 46, ground := Go.Ground.guard }], guard := some (46, true) }) (by rw [hops]; rfl) (by first | exact trivial | rfl) hS (fun K hK => ?_)
      go_simp
      refine (HAN.out aA lA cA LA (Ok.mono oA (by decide)) aC lC cC LC (Ok.mono oC (by decide)) _ hS.2.sa hS.2.sc).mono ?_
      rintro e X20 ⟨ax20, lx20, cx20, rfl, q20, hb⟩
      replace q18 := q18.below hb
      replace q19 := q19.below hb
      replace hS := abc3S hS hb
      clear hb
      refine hK _ _ hS ?_
      clear hK K
      (try simp only [Act.put, List.setIfInBounds_toArray, List.set_cons_zero, List.set_cons_succ])
      refine wpLin_do (o := { dst := some 204, op := Go.Op.call { callee := Go.Callee.value (Go.Operand.func 6), args := #[Go.Operand.tmp 200, Go.Operand.tmp 203], argTypes := #[27, 27] }, type := 27, pos := "keep.go:290", after := #[{ on := 55, ground := Go.Ground.data }, { on := 58, ground := Go.Ground.data }, { on := 58, ground := Go.Ground.chain }, { on := 46, ground := Go.Ground.guard }], guard := some (46, true) }) (by rw [hops]; rfl) (by first | exact trivial | rfl) hS (fun K hK => ?_)
      go_simp
      refine (HOR.out _ _ _ (anL (LA) (LB)) (Ok.mono (Ok.and (oA) (oB)) (by decide)) _ _ _ (anL (LA) (LC)) (Ok.mono (Ok.and (oA) (oC)) (by decide)) _ q19 q20).mono ?_
      rintro e X21 ⟨ax21, lx21, cx21, rfl, q21, hb⟩
      clear q19
      clear q20
      replace q18 := q18.below hb
      replace hS := abc3S hS hb
      clear hb
      refine hK _ _ hS ?_
      clear hK K
      (try simp only [Act.put, List.setIfInBounds_toArray, List.set_cons_zero, List.set_cons_succ])
      refine wpLin_do (o := { dst := some 205, op := Go.Op.call { callee := Go.Callee.value (Go.Operand.tmp 192), args := #[Go.Operand.tmp 197, Go.Operand.tmp 204], argTypes := #[27, 27] }, type := 4, pos := "keep.go:290", after := #[{ on := 47, ground := Go.Ground.data }, { on := 52, ground := Go.Ground.data }, { on := 59, ground := Go.Ground.data }, { on := 59, ground := Go.Ground.chain }, { on := 46, ground := Go.Ground.guard }], guard := some (46, true) }) (by rw [hops]; rfl) (by first | exact trivial | rfl) hS (fun K hK => ?_)
      go_simp
      refine (HEQ.out _ _ _ _ _ _ (anL (LA) (orL (LB) (LC))) (orL (anL (LA) (LB)) (anL (LA) (LC))) (alg_and_or iA iB iC) (lenOk (Ok.and (oA) (Ok.or (oB) (oC))) (by decide)) _ q18 q21).mono ?_
      rintro e X22 ⟨rfl, hb⟩
      clear q18
      clear q21
      replace hS := abc3S hS hb
      clear hb
      refine hK _ _ hS ?_
      clear hK K
      (try simp only [Act.put, List.setIfInBounds_toArray, List.set_cons_zero, List.set_cons_succ])
      refine wpLin_quiet (o := { dst := some 206, op := Go.Op.pick (Go.Operand.tmp 191) (Go.Operand.tmp 205) (Go.Operand.const (Go.Value.bool false)), type := 4, pos := "keep.go:290", after := #[{ on := 46, ground := Go.Ground.data }, { on := 60, ground := Go.Ground.data }], guard := none }) (v := ?v61) (by rw [hops]; rfl) (by first | exact trivial | rfl) hS ?hv61 ?h61
      case hv61 => intro w' hw'; obtain ⟨⟨z1, z2, z3⟩, _⟩ := hw'; go_simp; (try rfl)
      (try simp only [Act.put, List.setIfInBounds_toArray, List.set_cons_zero, List.set_cons_succ])
      refine wpLin_quiet (o := { dst := some 207, op := Go.Op.move (Go.Operand.tmp 206), type := 4, pos := "keep.go:290", after := #[{ on := 61, ground := Go.Ground.data }, { on := 60, ground := Go.Ground.chain }], guard := none }) (v := ?v62) (by rw [hops]; rfl) (by first | exact trivial | rfl) hS ?hv62 ?h62
      case hv62 => intro w' hw'; obtain ⟨⟨z1, z2, z3⟩, _⟩ := hw'; go_simp; (try rfl)
      (try simp only [Act.put, List.setIfInBounds_toArray, List.set_cons_zero, List.set_cons_succ])
      refine wpLin_quiet (o := { dst := some 208, op := Go.Op.move (Go.Operand.tmp 19), type := 37, pos := "keep.go:290", after := #[{ on := 62, ground := Go.Ground.guard }], guard := some (62, true) }) (v := ?v63) (by rw [hops]; rfl) (by first | exact trivial | rfl) hS ?hv63 ?h63
      case hv63 => intro w' hw'; obtain ⟨⟨z1, z2, z3⟩, _⟩ := hw'; go_simp; (try rfl)
      (try simp only [Act.put, List.setIfInBounds_toArray, List.set_cons_zero, List.set_cons_succ])
      refine wpLin_quiet (o := { dst := some 209, op := Go.Op.load 27 (Go.Operand.tmp 9), type := 27, pos := "keep.go:290", after := #[{ on := 62, ground := Go.Ground.guard }], guard := some (62, true) }) (v := ?v64) (by rw [hops]; rfl) (by first | exact trivial | rfl) hS ?hv64 ?h64
      case hv64 => intro w' hw'; obtain ⟨⟨z1, z2, z3⟩, _⟩ := hw'; go_simp; (try rfl)
      (try simp only [Act.put, List.setIfInBounds_toArray, List.set_cons_zero, List.set_cons_succ])
      refine wpLin_quiet (o := { dst := some 210, op := Go.Op.load 27 (Go.Operand.tmp 10), type := 27, pos := "keep.go:290", after := #[{ on := 62, ground := Go.Ground.guard }], guard := some (62, true) }) (v := ?v65) (by rw [hops]; rfl) (by first | exact trivial | rfl) hS ?hv65 ?h65
      case hv65 => intro w' hw'; obtain ⟨⟨z1, z2, z3⟩, _⟩ := hw'; go_simp; (try rfl)
      (try simp only [Act.put, List.setIfInBounds_toArray, List.set_cons_zero, List.set_cons_succ])
      refine wpLin_quiet (o := { dst := some 211, op := Go.Op.load 27 (Go.Operand.tmp 11), type := 27, pos := "keep.go:290", after := #[{ on := 62, ground := Go.Ground.guard }], guard := some (62, true) }) (v := ?v66) (by rw [hops]; rfl) (by first | exact trivial | rfl) hS ?hv66 ?h66
      case hv66 => intro w' hw'; obtain ⟨⟨z1, z2, z3⟩, _⟩ := hw'; go_simp; (try rfl)
      (try simp only [Act.put, List.setIfInBounds_toArray, List.set_cons_zero, List.set_cons_succ])
      refine wpLin_quiet (o := { dst := some 214, op := Go.Op.load 27 (Go.Operand.tmp 9), type := 27, pos := "keep.go:290", after := #[{ on := 62, ground := Go.Ground.guard }], guard := some (62, true) }) (v := ?v69) (by rw [hops]; rfl) (by first | exact trivial | rfl) hS ?hv69 ?h69
      case hv69 => intro w' hw'; obtain ⟨⟨z1, z2, z3⟩, _⟩ := hw'; go_simp; (try rfl)
      (try simp only [Act.put, List.setIfInBounds_toArray, List.set_cons_zero, List.set_cons_succ])
      refine wpLin_quiet (o := { dst := some 215, op := Go.Op.load 27 (Go.Operand.tmp 10), type := 27, pos := "keep.go:290", after := #[{ on := 62, ground := Go.Ground.guard }], guard := some (62, true) }) (v := ?v70) (by rw [hops]; rfl) (by first | exact trivial | rfl) hS ?hv70 ?h70
      case hv70 => intro w' hw'; obtain ⟨⟨z1, z2, z3⟩, _⟩ := hw'; go_simp; (try rfl)
      (try simp only [Act.put, List.setIfInBounds_toArray, List.set_cons_zero, List.set_cons_succ])
      refine wpLin_quiet (o := { dst := some 217, op := Go.Op.load 27 (Go.Operand.tmp 9), type := 27, pos := "keep.go:290", after := #[{ on := 62, ground := Go.Ground.guard }], guard := some (62, true) }) (v := ?v72) (by rw [hops]; rfl) (by first | exact trivial | rfl) hS ?hv72 ?h72
      case hv72 => intro w' hw'; obtain ⟨⟨z1, z2, z3⟩, _⟩ := hw'; go_simp; (try rfl)
      (try simp only [Act.put, List.setIfInBounds_toArray, List.set_cons_zero, List.set_cons_succ])
      refine wpLin_quiet (o := { dst := some 218, op := Go.Op.load 27 (Go.Operand.tmp 11), type := 27, pos := "keep.go:290", after := #[{ on := 62, ground := Go.Ground.guard }], guard := some (62, true) }) (v := ?v73) (by rw [hops]; rfl) (by first | exact trivial | rfl) hS ?hv73 ?h73
      case hv73 => intro w' hw'; obtain ⟨⟨z1, z2, z3⟩, _⟩ := hw'; go_simp; (try rfl)
      (try simp only [Act.put, List.setIfInBounds_toArray, List.set_cons_zero, List.set_cons_succ])
      refine wpLin_do (o := { dst := some 212, op := Go.Op.call { callee := Go.Callee.value (Go.Operand.func 7), args := #[Go.Operand.tmp 210, Go.Operand.tmp 211], argTypes := #[27, 27] }, type := 27, pos := "keep.go:290", after := #[{ on := 65, ground := Go.Ground.data }, { on := 66, ground := Go.Ground.data }, { on := 62, ground := Go.Ground.chain }, { on := 62, ground := Go.Ground.guard }], guard := some (62, true) }) (by rw [hops]; rfl) (by first | exact trivial | rfl) hS (fun K hK => ?_)
      go_simp
      refine (HAN.out aB lB cB LB (Ok.mono oB (by decide)) aC lC cC LC (Ok.mono oC (by decide)) _ hS.2.sb hS.2.sc).mono ?_
      rintro e X23 ⟨ax23, lx23, cx23, rfl, q23, hb⟩
      replace hS := abc3S hS hb
      clear hb
      refine hK _ _ hS ?_
      clear hK K
      (try simp only [Act.put, List.setIfInBounds_toArray, List.set_cons_zero, List.set_cons_succ])
      refine wpLin_do (o := { dst := some 213, op := Go.Op.call { callee := Go.Callee.value (Go.Operand.func 6), args := #[Go.Operand.tmp 209, Go.Operand.tmp 212], argTypes := #[27, 27] }, type := 27, pos := "keep.go:290", after := #[{ on := 64, ground := Go.Ground.data }, { on := 67, ground := Go.Ground.data }, { on := 67, ground := Go.Ground.chain }, { on := 62, ground := Go.Ground.guard }], guard := some (62, true) }) (by rw [hops]; rfl) (by first | exact trivial | rfl) hS (fun K hK => ?_)
      go_simp
      refine (HOR.out aA lA cA LA (Ok.mono oA (by decide)) _ _ _ (anL (LB) (LC)) (Ok.mono (Ok.and (oB) (oC)) (by decide)) _ hS.2.sa q23).mono ?_
      rintro e X24 ⟨ax24, lx24, cx24, rfl, q24, hb⟩
      clear q23
      replace hS := abc3S hS hb
      clear hb
      refine hK _ _ hS ?_
      clear hK K
      (try simp only [Act.put, List.setIfInBounds_toArray, List.set_cons_zero, List.set_cons_succ])
      refine wpLin_do (o := { dst := some 216, op := Go.Op.call { callee := Go.Callee.value (Go.Operand.func 6), args := #[Go.Operand.tmp 214, Go.Operand.tmp 215], argTypes := #[27, 27] }, type := 27, pos := "keep.go:290", after := #[{ on := 69, ground := Go.Ground.data }, { on := 70, ground := Go.Ground.data }, { on := 68, ground := Go.Ground.chain }, { on := 62, ground := Go.Ground.guard }], guard := some (62, true) }) (by rw [hops]; rfl) (by first | exact trivial | rfl) hS (fun K hK => ?_)
      go_simp
      refine (HOR.out aA lA cA LA (Ok.mono oA (by decide)) aB lB cB LB (Ok.mono oB (by decide)) _ hS.2.sa hS.2.sb).mono ?_
      rintro e X25 ⟨ax25, lx25, cx25, rfl, q25, hb⟩
      replace q24 := q24.below hb
      replace hS := abc3S hS hb
      clear hb
      refine hK _ _ hS ?_
      clear hK K
      (try simp only [Act.put, List.setIfInBounds_toArray, List.set_cons_zero, List.set_cons_succ])
      refine wpLin_do (o := { dst := some 219, op := Go.Op.call { callee := Go.Callee.value (Go.Operand.func 6), args := #[Go.Operand.tmp 217, Go.Operand.tmp 218], argTypes := #[27, 27] }, type := 27, pos := "keep.go:290", after := #[{ on := 72, ground := Go.Ground.data }, { on := 73, ground := Go.Ground.data }, { on := 71, ground := Go.Ground.chain }, { on := 62, ground := Go.Ground.guard }], guard := some (62, true) }) (by rw [hops]; rfl) (by first | exact trivial | rfl) hS (fun K hK => ?_)
      go_simp
      refine (HOR.out aA lA cA LA (Ok.mono oA (by decide)) aC lC cC LC (Ok.mono oC (by decide)) _ hS.2.sa hS.2.sc).mono ?_
      rintro e X26 ⟨ax26, lx26, cx26, rfl, q26, hb⟩
      replace q24 := q24.below hb
      replace q25 := q25.below hb
      replace hS := abc3S hS hb
      clear hb
      refine hK _ _ hS ?_
      clear hK K
      (try simp only [Act.put, List.setIfInBounds_toArray, List.set_cons_zero, List.set_cons_succ])
      refine wpLin_do (o := { dst := some 220, op := Go.Op.call { callee := Go.Callee.value (Go.Operand.func 7), args := #[Go.Operand.tmp 216, Go.Operand.tmp 219], argTypes := #[27, 27] }, type := 27, pos := "keep.go:290", after := #[{ on := 71, ground := Go.Ground.data }, { on := 74, ground := Go.Ground.data }, { on := 74, ground := Go.Ground.chain }, { on := 62, ground := Go.Ground.guard }], guard := some (62, true) }) (by rw [hops]; rfl) (by first | exact trivial | rfl) hS (fun K hK => ?_)
      go_simp
      refine (HAN.out _ _ _ (orL (LA) (LB)) (Ok.mono (Ok.or (oA) (oB)) (by decide)) _ _ _ (orL (LA) (LC)) (Ok.mono (Ok.or (oA) (oC)) (by decide)) _ q25 q26).mono ?_
      rintro e X27 ⟨ax27, lx27, cx27, rfl, q27, hb⟩
      clear q25
      clear q26
      replace q24 := q24.below hb
      replace hS := abc3S hS hb
      clear hb
      refine hK _ _ hS ?_
      clear hK K
      (try simp only [Act.put, List.setIfInBounds_toArray, List.set_cons_zero, List.set_cons_succ])
      refine wpLin_do (o := { dst := some 221, op := Go.Op.call { callee := Go.Callee.value (Go.Operand.tmp 208), args := #[Go.Operand.tmp 213, Go.Operand.tmp 220], argTypes := #[27, 27] }, type := 4, pos := "keep.go:290", after := #[{ on := 63, ground := Go.Ground.data }, { on := 68, ground := Go.Ground.data }, { on := 75, ground := Go.Ground.data }, { on := 75, ground := Go.Ground.chain }, { on := 62, ground := Go.Ground.guard }], guard := some (62, true) }) (by rw [hops]; rfl) (by first | exact trivial | rfl) hS (fun K hK => ?_)
      go_simp
      refine (HEQ.out _ _ _ _ _ _ (orL (LA) (anL (LB) (LC))) (anL (orL (LA) (LB)) (orL (LA) (LC))) (alg_or_and iA iB iC) (lenOk (Ok.or (oA) (Ok.and (oB) (oC))) (by decide)) _ q24 q27).mono ?_
      rintro e X28 ⟨rfl, hb⟩
      clear q24
      clear q27
      replace hS := abc3S hS hb
      clear hb
      refine hK _ _ hS ?_
      clear hK K
      (try simp only [Act.put, List.setIfInBounds_toArray, List.set_cons_zero, List.set_cons_succ])
      refine wpLin_quiet (o := { dst := some 222, op := Go.Op.pick (Go.Operand.tmp 207) (Go.Operand.tmp 221) (Go.Operand.const (Go.Value.bool false)), type := 4, pos := "keep.go:290", after := #[{ on := 62, ground := Go.Ground.data }, { on := 76, ground := Go.Ground.data }], guard := none }) (v := ?v77) (by rw [hops]; rfl) (by first | exact trivial | rfl) hS ?hv77 ?h77
      case hv77 => intro w' hw'; obtain ⟨⟨z1, z2, z3⟩, _⟩ := hw'; go_simp; (try rfl)
      (try simp only [Act.put, List.setIfInBounds_toArray, List.set_cons_zero, List.set_cons_succ])
      refine wpLin_quiet (o := { dst := some 223, op := Go.Op.move (Go.Operand.tmp 222), type := 4, pos := "keep.go:290", after := #[{ on := 77, ground := Go.Ground.data }, { on := 76, ground := Go.Ground.chain }], guard := none }) (v := ?v78) (by rw [hops]; rfl) (by first | exact trivial | rfl) hS ?hv78 ?h78
      case hv78 => intro w' hw'; obtain ⟨⟨z1, z2, z3⟩, _⟩ := hw'; go_simp; (try rfl)
      (try simp only [Act.put, List.setIfInBounds_toArray, List.set_cons_zero, List.set_cons_succ])
      refine wpLin_quiet (o := { dst := some 224, op := Go.Op.move (Go.Operand.tmp 19), type := 37, pos := "keep.go:290", after := #[{ on := 78, ground := Go.Ground.guard }], guard := some (78, true) }) (v := ?v79) (by rw [hops]; rfl) (by first | exact trivial | rfl) hS ?hv79 ?h79
      case hv79 => intro w' hw'; obtain ⟨⟨z1, z2, z3⟩, _⟩ := hw'; go_simp; (try rfl)
      (try simp only [Act.put, List.setIfInBounds_toArray, List.set_cons_zero, List.set_cons_succ])
      refine wpLin_quiet (o := { dst := some 225, op := Go.Op.load 27 (Go.Operand.tmp 9), type := 27, pos := "keep.go:290", after := #[{ on := 78, ground := Go.Ground.guard }], guard := some (78, true) }) (v := ?v80) (by rw [hops]; rfl) (by first | exact trivial | rfl) hS ?hv80 ?h80
      case hv80 => intro w' hw'; obtain ⟨⟨z1, z2, z3⟩, _⟩ := hw'; go_simp; (try rfl)
      (try simp only [Act.put, List.setIfInBounds_toArray, List.set_cons_zero, List.set_cons_succ])
      refine wpLin_quiet (o := { dst := some 226, op := Go.Op.load 27 (Go.Operand.tmp 10), type := 27, pos := "keep.go:290", after := #[{ on := 78, ground := Go.Ground.guard }], guard := some (78, true) }) (v := ?v81) (by rw [hops]; rfl) (by first | exact trivial | rfl) hS ?hv81 ?h81
      case hv81 => intro w' hw'; obtain ⟨⟨z1, z2, z3⟩, _⟩ := hw'; go_simp; (try rfl)
      (try simp only [Act.put, List.setIfInBounds_toArray, List.set_cons_zero, List.set_cons_succ])
      refine wpLin_quiet (o := { dst := some 229, op := Go.Op.load 27 (Go.Operand.tmp 9), type := 27, pos := "keep.go:290", after := #[{ on := 78, ground := Go.Ground.guard }], guard := some (78, true) }) (v := ?v84) (by rw [hops]; rfl) (by first | exact trivial | rfl) hS ?hv84 ?h84
      case hv84 => intro w' hw'; obtain ⟨⟨z1, z2, z3⟩, _⟩ := hw'; go_simp; (try rfl)
      (try simp only [Act.put, List.setIfInBounds_toArray, List.set_cons_zero, List.set_cons_succ])
      refine wpLin_quiet (o := { dst := some 231, op := Go.Op.load 27 (Go.Operand.tmp 10), type := 27, pos := "keep.go:290", after := #[{ on := 78, ground := Go.Ground.guard }], guard := some (78, true) }) (v := ?v86) (by rw [hops]; rfl) (by first | exact trivial | rfl) hS ?hv86 ?h86
      case hv86 => intro w' hw'; obtain ⟨⟨z1, z2, z3⟩, _⟩ := hw'; go_simp; (try rfl)
      (try simp only [Act.put, List.setIfInBounds_toArray, List.set_cons_zero, List.set_cons_succ])
      refine wpLin_do (o := { dst := some 227, op := Go.Op.call { callee := Go.Callee.value (Go.Operand.func 6), args := #[Go.Operand.tmp 225, Go.Operand.tmp 226], argTypes := #[27, 27] }, type := 27, pos := "keep.go:290", after := #[{ on := 80, ground := Go.Ground.data }, { on := 81, ground := Go.Ground.data }, { on := 78, ground := Go.Ground.chain }, { on := 78, ground := Go.Ground.guard }], guard := some (78, true) }) (by rw [hops]; rfl) (by first | exact trivial | rfl) hS (fun K hK => ?_)
      go_simp
      refine (HOR.out aA lA cA LA (Ok.mono oA (by decide)) aB lB cB LB (Ok.mono oB (by decide)) _ hS.2.sa hS.2.sb).mono ?_
      rintro e X29 ⟨ax29, lx29, cx29, rfl, q29, hb⟩
      replace hS := abc3S hS hb
      clear hb
      refine hK _ _ hS ?_
      clear hK K
      (try simp only [Act.put, List.setIfInBounds_toArray, List.set_cons_zero, List.set_cons_succ])
      refine wpLin_do (o := { dst := some 228, op := Go.Op.call { callee := Go.Callee.value (Go.Operand.func 9), args := #[Go.Operand.tmp 227], argTypes := #[27] }, type := 27, pos := "keep.go:290", after := #[{ on := 82, ground := Go.Ground.data }, { on := 82, ground := Go.Ground.chain }, { on := 78, ground := Go.Ground.guard }], guard := some (78, true) }) (by rw [hops]; rfl) (by first | exact trivial | rfl) hS (fun K hK => ?_)
      go_simp
      refine (HNT.out _ _ _ (orL (LA) (LB)) (Ok.mono (Ok.or (oA) (oB)) (by decide)) _ q29).mono ?_
      rintro e X30 ⟨ax30, lx30, cx30, rfl, q30, hb⟩
      clear q29
      replace hS := abc3S hS hb
      clear hb
      refine hK _ _ hS ?_
      clear hK K
      (try simp only [Act.put, List.setIfInBounds_toArray, List.set_cons_zero, List.set_cons_succ])
      refine wpLin_do (o := { dst := some 230, op := Go.Op.call { callee := Go.Callee.value (Go.Operand.func 9), args := #[Go.Operand.tmp 229], argTypes := #[27] }, type := 27, pos := "keep.go:290", after := #[{ on := 84, ground := Go.Ground.data }, { on := 83, ground := Go.Ground.chain }, { on := 78, ground := Go.Ground.guard }], guard := some (78, true) }) (by rw [hops]; rfl) (by first | exact trivial | rfl) hS (fun K hK => ?_)
      go_simp
      refine (HNT.out aA lA cA LA (Ok.mono oA (by decide)) _ hS.2.sa).mono ?_
      rintro e X31 ⟨ax31, lx31, cx31, rfl, q31, hb⟩
      replace q30 := q30.below hb
      replace hS := abc3S hS hb
      clear hb
      refine hK _ _ hS ?_
      clear hK K
      (try simp only [Act.put, List.setIfInBounds_toArray, List.set_cons_zero, List.set_cons_succ])
      refine wpLin_do (o := { dst := some 232, op := Go.Op.call { callee := Go.Callee.value (Go.Operand.func 9), args := #[Go.Operand.tmp 231], argTypes := #[27] }, type := 27, pos := "keep.go:290", after := #[{ on := 86, ground := Go.Ground.data }, { on := 85, ground := Go.Ground.chain }, { on := 78, ground := Go.Ground.guard }], guard := some (78, true) }) (by rw [hops]; rfl) (by first | exact trivial | rfl) hS (fun K hK => ?_)
      go_simp
      refine (HNT.out aB lB cB LB (Ok.mono oB (by decide)) _ hS.2.sb).mono ?_
      rintro e X32 ⟨ax32, lx32, cx32, rfl, q32, hb⟩
      replace q30 := q30.below hb
      replace q31 := q31.below hb
      replace hS := abc3S hS hb
      clear hb
      refine hK _ _ hS ?_
      clear hK K
      (try simp only [Act.put, List.setIfInBounds_toArray, List.set_cons_zero, List.set_cons_succ])
      refine wpLin_do (o := { dst := some 233, op := Go.Op.call { callee := Go.Callee.value (Go.Operand.func 7), args := #[Go.Operand.tmp 230, Go.Operand.tmp 232], argTypes := #[27, 27] }, type := 27, pos := "keep.go:290", after := #[{ on := 85, ground := Go.Ground.data }, { on := 87, ground := Go.Ground.data }, { on := 87, ground := Go.Ground.chain }, { on := 78, ground := Go.Ground.guard }], guard := some (78, true) }) (by rw [hops]; rfl) (by first | exact trivial | rfl) hS (fun K hK => ?_)
      go_simp
      refine (HAN.out _ _ _ (ntL (LA)) (Ok.mono (Ok.not (oA)) (by decide)) _ _ _ (ntL (LB)) (Ok.mono (Ok.not (oB)) (by decide)) _ q31 q32).mono ?_
      rintro e X33 ⟨ax33, lx33, cx33, rfl, q33, hb⟩
      clear q31
      clear q32
      replace q30 := q30.below hb
      replace hS := abc3S hS hb
      clear hb
      refine hK _ _ hS ?_
      clear hK K
      (try simp only [Act.put, List.setIfInBounds_toArray, List.set_cons_zero, List.set_cons_succ])
      refine wpLin_do (o := { dst := some 234, op := Go.Op.call { callee := Go.Callee.value (Go.Operand.tmp 224), args := #[Go.Operand.tmp 228, Go.Operand.tmp 233], argTypes := #[27, 27] }, type := 4, pos := "keep.go:290", after := #[{ on := 79, ground := Go.Ground.data }, { on := 83, ground := Go.Ground.data }, { on := 88, ground := Go.Ground.data }, { on := 88, ground := Go.Ground.chain }, { on := 78, ground := Go.Ground.guard }], guard := some (78, true) }) (by rw [hops]; rfl) (by first | exact trivial | rfl) hS (fun K hK => ?_)
      go_simp
      refine (HEQ.out _ _ _ _ _ _ (ntL (orL (LA) (LB))) (anL (ntL (LA)) (ntL (LB))) (alg_not_or iA iB) (lenOk (Ok.not (Ok.or (oA) (oB))) (by decide)) _ q30 q33).mono ?_
      rintro e X34 ⟨rfl, hb⟩
      clear q30
      clear q33
      replace hS := abc3S hS hb
      clear hb
      refine hK _ _ hS ?_
      clear hK K
      (try simp only [Act.put, List.setIfInBounds_toArray, List.set_cons_zero, List.set_cons_succ])
      refine wpLin_quiet (o := { dst := some 235, op := Go.Op.pick (Go.Operand.tmp 223) (Go.Operand.tmp 234) (Go.Operand.const (Go.Value.bool false)), type := 4, pos := "keep.go:290", after := #[{ on := 78, ground := Go.Ground.data }, { on := 89, ground := Go.Ground.data }], guard := none }) (v := ?v90) (by rw [hops]; rfl) (by first | exact trivial | rfl) hS ?hv90 ?h90
      case hv90 => intro w' hw'; obtain ⟨⟨z1, z2, z3⟩, _⟩ := hw'; go_simp; (try rfl)
      (try simp only [Act.put, List.setIfInBounds_toArray, List.set_cons_zero, List.set_cons_succ])
      refine wpLin_quiet (o := { dst := some 236, op := Go.Op.move (Go.Operand.tmp 235), type := 4, pos := "keep.go:290", after := #[{ on := 90, ground := Go.Ground.data }, { on := 89, ground := Go.Ground.chain }], guard := none }) (v := ?v91) (by rw [hops]; rfl) (by first | exact trivial | rfl) hS ?hv91 ?h91
      case hv91 => intro w' hw'; obtain ⟨⟨z1, z2, z3⟩, _⟩ := hw'; go_simp; (try rfl)
      (try simp only [Act.put, List.setIfInBounds_toArray, List.set_cons_zero, List.set_cons_succ])
      refine wpLin_quiet (o := { dst := some 237, op := Go.Op.move (Go.Operand.tmp 19), type := 37, pos := "keep.go:290", after := #[{ on := 91, ground := Go.Ground.guard }], guard := some (91, true) }) (v := ?v92) (by rw [hops]; rfl) (by first | exact trivial | rfl) hS ?hv92 ?h92
      case hv92 => intro w' hw'; obtain ⟨⟨z1, z2, z3⟩, _⟩ := hw'; go_simp; (try rfl)
      (try simp only [Act.put, List.setIfInBounds_toArray, List.set_cons_zero, List.set_cons_succ])
      refine wpLin_quiet (o := { dst := some 238, op := Go.Op.load 27 (Go.Operand.tmp 9), type := 27, pos := "keep.go:290", after := #[{ on := 91, ground := Go.Ground.guard }], guard := some (91, true) }) (v := ?v93) (by rw [hops]; rfl) (by first | exact trivial | rfl) hS ?hv93 ?h93
      case hv93 => intro w' hw'; obtain ⟨⟨z1, z2, z3⟩, _⟩ := hw'; go_simp; (try rfl)
      (try simp only [Act.put, List.setIfInBounds_toArray, List.set_cons_zero, List.set_cons_succ])
      refine wpLin_quiet (o := { dst := some 241, op := Go.Op.load 27 (Go.Operand.tmp 9), type := 27, pos := "keep.go:290", after := #[{ on := 91, ground := Go.Ground.guard }], guard := some (91, true) }) (v := ?v96) (by rw [hops]; rfl) (by first | exact trivial | rfl) hS ?hv96 ?h96
      case hv96 => intro w' hw'; obtain ⟨⟨z1, z2, z3⟩, _⟩ := hw'; go_simp; (try rfl)
      (try simp only [Act.put, List.setIfInBounds_toArray, List.set_cons_zero, List.set_cons_succ])
      refine wpLin_do (o := { dst := some 239, op := Go.Op.call { callee := Go.Callee.value (Go.Operand.func 9), args := #[Go.Operand.tmp 238], argTypes := #[27] }, type := 27, pos := "keep.go:290", after := #[{ on := 93, ground := Go.Ground.data }, { on := 91, ground := Go.Ground.chain }, { on := 91, ground := Go.Ground.guard }], guard := some (91, true) }) (by rw [hops]; rfl) (by first | exact trivial | rfl) hS (fun K hK => ?_)
      go_simp
      refine (HNT.out aA lA cA LA (Ok.mono oA (by decide)) _ hS.2.sa).mono ?_
      rintro e X35 ⟨ax35, lx35, cx35, rfl, q35, hb⟩
      replace hS := abc3S hS hb
      clear hb
      refine hK _ _ hS ?_
      clear hK K
      (try simp only [Act.put, List.setIfInBounds_toArray, List.set_cons_zero, List.set_cons_succ])
      refine wpLin_do (o := { dst := some 240, op := Go.Op.call { callee := Go.Callee.value (Go.Operand.func 9), args := #[Go.Operand.tmp 239], argTypes := #[27] }, type := 27, pos := "keep.go:290", after := #[{ on := 94, ground := Go.Ground.data }, { on := 94, ground := Go.Ground.chain }, { on := 91, ground := Go.Ground.guard }], guard := some (91, true) }) (by rw [hops]; rfl) (by first | exact trivial | rfl) hS (fun K hK => ?_)
      go_simp
      refine (HNT.out _ _ _ (ntL (LA)) (Ok.mono (Ok.not (oA)) (by decide)) _ q35).mono ?_
      rintro e X36 ⟨ax36, lx36, cx36, rfl, q36, hb⟩
      clear q35
      replace hS := abc3S hS hb
      clear hb
      refine hK _ _ hS ?_
      clear hK K
      (try simp only [Act.put, List.setIfInBounds_toArray, List.set_cons_zero, List.set_cons_succ])
      refine wpLin_do (o := { dst := some 242, op := Go.Op.call { callee := Go.Callee.value (Go.Operand.tmp 237), args := #[Go.Operand.tmp 240, Go.Operand.tmp 241], argTypes := #[27, 27] }, type := 4, pos := "keep.go:290", after := #[{ on := 92, ground := Go.Ground.data }, { on := 95, ground := Go.Ground.data }, { on := 96, ground := Go.Ground.data }, { on := 95, ground := Go.Ground.chain }, { on := 91, ground := Go.Ground.guard }], guard := some (91, true) }) (by rw [hops]; rfl) (by first | exact trivial | rfl) hS (fun K hK => ?_)
      go_simp
      refine (HEQ.out _ _ _ aA lA cA (ntL (ntL (LA))) (LA) (alg_not_not iA) (lenOk (Ok.not (Ok.not (oA))) (by decide)) _ q36 hS.2.sa).mono ?_
      rintro e X37 ⟨rfl, hb⟩
      clear q36
      replace hS := abc3S hS hb
      clear hb
      refine hK _ _ hS ?_
      clear hK K
      (try simp only [Act.put, List.setIfInBounds_toArray, List.set_cons_zero, List.set_cons_succ])
      refine wpLin_quiet (o := { dst := some 243, op := Go.Op.pick (Go.Operand.tmp 236) (Go.Operand.tmp 242) (Go.Operand.const (Go.Value.bool false)), type := 4, pos := "keep.go:290", after := #[{ on := 91, ground := Go.Ground.data }, { on := 97, ground := Go.Ground.data }], guard := none }) (v := ?v98) (by rw [hops]; rfl) (by first | exact trivial | rfl) hS ?hv98 ?h98
      case hv98 => intro w' hw'; obtain ⟨⟨z1, z2, z3⟩, _⟩ := hw'; go_simp; (try rfl)
      (try simp only [Act.put, List.setIfInBounds_toArray, List.set_cons_zero, List.set_cons_succ])
      refine wpLin_quiet (o := { dst := some 244, op := Go.Op.move (Go.Operand.tmp 243), type := 4, pos := "keep.go:290", after := #[{ on := 98, ground := Go.Ground.data }, { on := 97, ground := Go.Ground.chain }], guard := none }) (v := ?v99) (by rw [hops]; rfl) (by first | exact trivial | rfl) hS ?hv99 ?h99
      case hv99 => intro w' hw'; obtain ⟨⟨z1, z2, z3⟩, _⟩ := hw'; go_simp; (try rfl)
      (try simp only [Act.put, List.setIfInBounds_toArray, List.set_cons_zero, List.set_cons_succ])
      refine wpLin_quiet (o := { dst := some 245, op := Go.Op.move (Go.Operand.tmp 19), type := 37, pos := "keep.go:290", after := #[{ on := 99, ground := Go.Ground.guard }], guard := some (99, true) }) (v := ?v100) (by rw [hops]; rfl) (by first | exact trivial | rfl) hS ?hv100 ?h100
      case hv100 => intro w' hw'; obtain ⟨⟨z1, z2, z3⟩, _⟩ := hw'; go_simp; (try rfl)
      (try simp only [Act.put, List.setIfInBounds_toArray, List.set_cons_zero, List.set_cons_succ])
      refine wpLin_quiet (o := { dst := some 246, op := Go.Op.load 27 (Go.Operand.tmp 9), type := 27, pos := "keep.go:290", after := #[{ on := 99, ground := Go.Ground.guard }], guard := some (99, true) }) (v := ?v101) (by rw [hops]; rfl) (by first | exact trivial | rfl) hS ?hv101 ?h101
      case hv101 => intro w' hw'; obtain ⟨⟨z1, z2, z3⟩, _⟩ := hw'; go_simp; (try rfl)
      (try simp only [Act.put, List.setIfInBounds_toArray, List.set_cons_zero, List.set_cons_succ])
      refine wpLin_quiet (o := { dst := some 247, op := Go.Op.load 27 (Go.Operand.tmp 9), type := 27, pos := "keep.go:290", after := #[{ on := 99, ground := Go.Ground.guard }], guard := some (99, true) }) (v := ?v102) (by rw [hops]; rfl) (by first | exact trivial | rfl) hS ?hv102 ?h102
      case hv102 => intro w' hw'; obtain ⟨⟨z1, z2, z3⟩, _⟩ := hw'; go_simp; (try rfl)
      (try simp only [Act.put, List.setIfInBounds_toArray, List.set_cons_zero, List.set_cons_succ])
      refine wpLin_do (o := { dst := some 248, op := Go.Op.call { callee := Go.Callee.value (Go.Operand.func 9), args := #[Go.Operand.tmp 247], argTypes := #[27] }, type := 27, pos := "keep.go:290", after := #[{ on := 102, ground := Go.Ground.data }, { on := 99, ground := Go.Ground.chain }, { on := 99, ground := Go.Ground.guard }], guard := some (99, true) }) (by rw [hops]; rfl) (by first | exact trivial | rfl) hS (fun K hK => ?_)
      go_simp
      refine (HNT.out aA lA cA LA (Ok.mono oA (by decide)) _ hS.2.sa).mono ?_
      rintro e X38 ⟨ax38, lx38, cx38, rfl, q38, hb⟩
      replace hS := abc3S hS hb
      clear hb
      refine hK _ _ hS ?_
      clear hK K
      (try simp only [Act.put, List.setIfInBounds_toArray, List.set_cons_zero, List.set_cons_succ])
      refine wpLin_do (o := { dst := some 249, op := Go.Op.call { callee := Go.Callee.value (Go.Operand.func 7), args := #[Go.Operand.tmp 246, Go.Operand.tmp 248], argTypes := #[27, 27] }, type := 27, pos := "keep.go:290", after := #[{ on := 101, ground := Go.Ground.data }, { on := 103, ground := Go.Ground.data }, { on := 103, ground := Go.Ground.chain }, { on := 99, ground := Go.Ground.guard }], guard := some (99, true) }) (by rw [hops]; rfl) (by first | exact trivial | rfl) hS (fun K hK => ?_)
      go_simp
      refine (HAN.out aA lA cA LA (Ok.mono oA (by decide)) _ _ _ (ntL (LA)) (Ok.mono (Ok.not (oA)) (by decide)) _ hS.2.sa q38).mono ?_
      rintro e X39 ⟨ax39, lx39, cx39, rfl, q39, hb⟩
      clear q38
      replace hS := abc3S hS hb
      clear hb
      refine hK _ _ hS ?_
      clear hK K
      (try simp only [Act.put, List.setIfInBounds_toArray, List.set_cons_zero, List.set_cons_succ])
      refine wpLin_do (o := { dst := some 250, op := Go.Op.call { callee := Go.Callee.value (Go.Operand.func 4), args := #[Go.Operand.const (Go.Value.slice none 0 0)], argTypes := #[22] }, type := 27, pos := "keep.go:290", after := #[{ on := 104, ground := Go.Ground.chain }, { on := 99, ground := Go.Ground.guard }], guard := some (99, true) }) (by rw [hops]; rfl) (by first | exact trivial | rfl) hS (fun K hK => ?_)
      go_simp
      refine (HTM.out _).mono ?_
      rintro e X40 ⟨ax, lx, cx, LE, rfl, okE, q40, hb, _, inE⟩
      replace q39 := q39.below hb
      replace hS := abc3S hS hb
      clear hb
      refine hK _ _ hS ?_
      clear hK K
      (try simp only [Act.put, List.setIfInBounds_toArray, List.set_cons_zero, List.set_cons_succ])
      refine wpLin_do (o := { dst := some 251, op := Go.Op.call { callee := Go.Callee.value (Go.Operand.tmp 245), args := #[Go.Operand.tmp 249, Go.Operand.tmp 250], argTypes := #[27, 27] }, type := 4, pos := "keep.go:290", after := #[{ on := 100, ground := Go.Ground.data }, { on := 104, ground := Go.Ground.data }, { on := 105, ground := Go.Ground.data }, { on := 105, ground := Go.Ground.chain }, { on := 99, ground := Go.Ground.guard }], guard := some (99, true) }) (by rw [hops]; rfl) (by first | exact trivial | rfl) hS (fun K hK => ?_)
      go_simp
      refine (HEQ.out _ _ _ _ _ _ (anL (LA) (ntL (LA))) (LE) (alg_and_not iA okE.1 (fun t h => inS_nil t ((inE t).1 h).2.2)) (lenOk (Ok.and (oA) (Ok.not (oA))) (by decide)) _ q39 q40).mono ?_
      rintro e X41 ⟨rfl, hb⟩
      clear q39
      clear q40
      replace hS := abc3S hS hb
      clear hb
      refine hK _ _ hS ?_
      clear hK K
      (try simp only [Act.put, List.setIfInBounds_toArray, List.set_cons_zero, List.set_cons_succ])
      refine wpLin_quiet (o := { dst := some 252, op := Go.Op.pick (Go.Operand.tmp 244) (Go.Operand.tmp 251) (Go.Operand.const (Go.Value.bool false)), type := 4, pos := "keep.go:290", after := #[{ on := 99, ground := Go.Ground.data }, { on := 106, ground := Go.Ground.data }], guard := none }) (v := ?v107) (by rw [hops]; rfl) (by first | exact trivial | rfl) hS ?hv107 ?h107
      case hv107 => intro w' hw'; obtain ⟨⟨z1, z2, z3⟩, _⟩ := hw'; go_simp; (try rfl)
      (try simp only [Act.put, List.setIfInBounds_toArray, List.set_cons_zero, List.set_cons_succ])
      refine wpLin_quiet (o := { dst := some 253, op := Go.Op.move (Go.Operand.tmp 252), type := 4, pos := "keep.go:290", after := #[{ on := 107, ground := Go.Ground.data }, { on := 106, ground := Go.Ground.chain }], guard := none }) (v := ?v108) (by rw [hops]; rfl) (by first | exact trivial | rfl) hS ?hv108 ?h108
      case hv108 => intro w' hw'; obtain ⟨⟨z1, z2, z3⟩, _⟩ := hw'; go_simp; (try rfl)
      (try simp only [Act.put, List.setIfInBounds_toArray, List.set_cons_zero, List.set_cons_succ])
      refine wpLin_quiet (o := { dst := some 254, op := Go.Op.move (Go.Operand.tmp 19), type := 37, pos := "keep.go:290", after := #[{ on := 108, ground := Go.Ground.guard }], guard := some (108, true) }) (v := ?v109) (by rw [hops]; rfl) (by first | exact trivial | rfl) hS ?hv109 ?h109
      case hv109 => intro w' hw'; obtain ⟨⟨z1, z2, z3⟩, _⟩ := hw'; go_simp; (try rfl)
      (try simp only [Act.put, List.setIfInBounds_toArray, List.set_cons_zero, List.set_cons_succ])
      refine wpLin_quiet (o := { dst := some 255, op := Go.Op.load 27 (Go.Operand.tmp 9), type := 27, pos := "keep.go:290", after := #[{ on := 108, ground := Go.Ground.guard }], guard := some (108, true) }) (v := ?v110) (by rw [hops]; rfl) (by first | exact trivial | rfl) hS ?hv110 ?h110
      case hv110 => intro w' hw'; obtain ⟨⟨z1, z2, z3⟩, _⟩ := hw'; go_simp; (try rfl)
      (try simp only [Act.put, List.setIfInBounds_toArray, List.set_cons_zero, List.set_cons_succ])
      refine wpLin_quiet (o := { dst := some 256, op := Go.Op.load 27 (Go.Operand.tmp 9), type := 27, pos := "keep.go:290", after := #[{ on := 108, ground := Go.Ground.guard }], guard := some (108, true) }) (v := ?v111) (by rw [hops]; rfl) (by first | exact trivial | rfl) hS ?hv111 ?h111
      case hv111 => intro w' hw'; obtain ⟨⟨z1, z2, z3⟩, _⟩ := hw'; go_simp; (try rfl)
      (try simp only [Act.put, List.setIfInBounds_toArray, List.set_cons_zero, List.set_cons_succ])
      refine wpLin_quiet (o := { dst := some 257, op := Go.Op.load 27 (Go.Operand.tmp 10), type := 27, pos := "keep.go:290", after := #[{ on := 108, ground := Go.Ground.guard }], guard := some (108, true) }) (v := ?v112) (by rw [hops]; rfl) (by first | exact trivial | rfl) hS ?hv112 ?h112
      case hv112 => intro w' hw'; obtain ⟨⟨z1, z2, z3⟩, _⟩ := hw'; go_simp; (try rfl)
      (try simp only [Act.put, List.setIfInBounds_toArray, List.set_cons_zero, List.set_cons_succ])
      refine wpLin_quiet (o := { dst := some 260, op := Go.Op.load 27 (Go.Operand.tmp 9), type := 27, pos := "keep.go:290", after := #[{ on := 108, ground := Go.Ground.guard }], guard := some (108, true) }) (v := ?v115) (by rw [hops]; rfl) (by first | exact trivial | rfl) hS ?hv115 ?h115
      case hv115 => intro w' hw'; obtain ⟨⟨z1, z2, z3⟩, _⟩ := hw'; go_simp; (try rfl)
      (try simp only [Act.put, List.setIfInBounds_toArray, List.set_cons_zero, List.set_cons_succ])
      refine wpLin_do (o := { dst := some 258, op := Go.Op.call { callee := Go.Callee.value (Go.Operand.func 7), args := #[Go.Operand.tmp 256, Go.Operand.tmp 257], argTypes := #[27, 27] }, type := 27, pos := "keep.go:290", after := #[{ on := 111, ground := Go.Ground.data }, { on := 112, ground := Go.Ground.data }, { on := 108, ground := Go.Ground.chain }, { on := 108, ground := Go.Ground.guard }], guard := some (108, true) }) (by rw [hops]; rfl) (by first | exact trivial | rfl) hS (fun K hK => ?_)
      go_simp
      refine (HAN.out aA lA cA LA (Ok.mono oA (by decide)) aB lB cB LB (Ok.mono oB (by decide)) _ hS.2.sa hS.2.sb).mono ?_
      rintro e X42 ⟨ax42, lx42, cx42, rfl, q42, hb⟩
      replace hS := abc3S hS hb
      clear hb
      refine hK _ _ hS ?_
      clear hK K
      (try simp only [Act.put, List.setIfInBounds_toArray, List.set_cons_zero, List.set_cons_succ])
      refine wpLin_do (o := { dst := some 259, op := Go.Op.call { callee := Go.Callee.value (Go.Operand.func 6), args := #[Go.Operand.tmp 255, Go.Operand.tmp 258], argTypes := #[27, 27] }, type := 27, pos := "keep.go:290", after := #[{ on := 110, ground := Go.Ground.data }, { on := 113, ground := Go.Ground.data }, { on := 113, ground := Go.Ground.chain }, { on := 108, ground := Go.Ground.guard }], guard := some (108, true) }) (by rw [hops]; rfl) (by first | exact trivial | rfl) hS (fun K hK => ?_)
      go_simp
      refine (HOR.out aA lA cA LA (Ok.mono oA (by decide)) _ _ _ (anL (LA) (LB)) (Ok.mono (Ok.and (oA) (oB)) (by decide)) _ hS.2.sa q42).mono ?_
      rintro e X43 ⟨ax43, lx43, cx43, rfl, q43, hb⟩
      clear q42
      replace hS := abc3S hS hb
      clear hb
      refine hK _ _ hS ?_
      clear hK K
      (try simp only [Act.put, List.setIfInBounds_toArray, List.set_cons_zero, List.set_cons_succ])
      refine wpLin_do (o := { dst := some 261, op := Go.Op.call { callee := Go.Callee.value (Go.Operand.tmp 254), args := #[Go.Operand.tmp 259, Go.Operand.tmp 260], argTypes := #[27, 27] }, type := 4, pos := "keep.go:290", after := #[{ on := 109, ground := Go.Ground.data }, { on := 114, ground := Go.Ground.data }, { on := 115, ground := Go.Ground.data }, { on := 114, ground := Go.Ground.chain }, { on := 108, ground := Go.Ground.guard }], guard := some (108, true) }) (by rw [hops]; rfl) (by first | exact trivial | rfl) hS (fun K hK => ?_)
      go_simp
      refine (HEQ.out _ _ _ aA lA cA (orL (LA) (anL (LA) (LB))) (LA) (alg_absorb iA iB) (lenOk (Ok.or (oA) (Ok.and (oA) (oB))) (by decide)) _ q43 hS.2.sa).mono ?_
      rintro e X44 ⟨rfl, hb⟩
      clear q43
      replace hS := abc3S hS hb
      clear hb
      refine hK _ _ hS ?_
      clear hK K
      (try simp only [Act.put, List.setIfInBounds_toArray, List.set_cons_zero, List.set_cons_succ])
      refine wpLin_quiet (o := { dst := some 262, op := Go.Op.pick (Go.Operand.tmp 253) (Go.Operand.tmp 261) (Go.Operand.const (Go.Value.bool false)), type := 4, pos := "keep.go:290", after := #[{ on := 108, ground := Go.Ground.data }, { on := 116, ground := Go.Ground.data }], guard := none }) (v := ?v117) (by rw [hops]; rfl) (by first | exact trivial | rfl) hS ?hv117 ?h117
      case hv117 => intro w' hw'; obtain ⟨⟨z1, z2, z3⟩, _⟩ := hw'; go_simp; (try rfl)
      (try simp only [Act.put, List.setIfInBounds_toArray, List.set_cons_zero, List.set_cons_succ])
      refine wpLin_quiet (o := { dst := some 8, op := Go.Op.assign (Go.Operand.tmp 262), type := 4, pos := "keep.go:290", after := ([{ on := 117, ground := Go.Ground.data }, { on := 116, ground := Go.Ground.chain }, { on := 0, ground := Go.Ground.phase }, { on := 1, ground := Go.Ground.phase }, { on := 2, ground := Go.Ground.phase }, { on := 3, ground := Go.Ground.phase }, { on := 4, ground := Go.Ground.phase }, { on := 5, ground := Go.Ground.phase }, { on := 6, ground := Go.Ground.phase }, { on := 7, ground := Go.Ground.phase }, { on := 8, ground := Go.Ground.phase }, { on := 9, ground := Go.Ground.phase }, { on := 10, ground := Go.Ground.phase }, { on := 11, ground := Go.Ground.phase }, { on := 12, ground := Go.Ground.phase }, { on := 13, ground := Go.Ground.phase }, { on := 14, ground := Go.Ground.phase }, { on := 15, ground := Go.Ground.phase }, { on := 16, ground := Go.Ground.phase }, { on := 17, ground := Go.Ground.phase }, { on := 18, ground := Go.Ground.phase }, { on := 19, ground := Go.Ground.phase }, { on := 20, ground := Go.Ground.phase }, { on := 21, ground := Go.Ground.phase }, { on := 22, ground := Go.Ground.phase }, { on := 23, ground := Go.Ground.phase }, { on := 24, ground := Go.Ground.phase }, { on := 25, ground := Go.Ground.phase }, { on := 26, ground := Go.Ground.phase }, { on := 27, ground := Go.Ground.phase }, { on := 28, ground := Go.Ground.phase }, { on := 29, ground := Go.Ground.phase }, { on := 30, ground := Go.Ground.phase }, { on := 31, ground := Go.Ground.phase }, { on := 32, ground := Go.Ground.phase }, { on := 33, ground := Go.Ground.phase }, { on := 34, ground := Go.Ground.phase }, { on := 35, ground := Go.Ground.phase }, { on := 36, ground := Go.Ground.phase }, { on := 37, ground := Go.Ground.phase }, { on := 38, ground := Go.Ground.phase }, { on := 39, ground := Go.Ground.phase }, { on := 40, ground := Go.Ground.phase }, { on := 41, ground := Go.Ground.phase }, { on := 42, ground := Go.Ground.phase }, { on := 43, ground := Go.Ground.phase }, { on := 44, ground := Go.Ground.phase }, { on := 45, ground := Go.Ground.phase }, { on := 46, ground := Go.Ground.phase }, { on := 47, ground := Go.Ground.phase }, { on := 48, ground := Go.Ground.phase }, { on := 49, ground := Go.Ground.phase }, { on := 50, ground := Go.Ground.phase }, { on := 51, ground := Go.Ground.phase }, { on := 52, ground := Go.Ground.phase }, { on := 53, ground := Go.Ground.phase }, { on := 54, ground := Go.Ground.phase }, { on := 55, ground := Go.Ground.phase }, { on := 56, ground := Go.Ground.phase }, { on := 57, ground := Go.Ground.phase }].append [{ on := 58, ground := Go.Ground.phase }, { on := 59, ground := Go.Ground.phase }, { on := 60, ground := Go.Ground.phase }, { on := 61, ground := Go.Ground.phase }, { on := 62, ground := Go.Ground.phase }, { on := 63, ground := Go.Ground.phase }, { on := 64, ground := Go.Ground.phase }, { on := 65, ground := Go.Ground.phase }, { on := 66, ground := Go.Ground.phase }, { on := 67, ground := Go.Ground.phase }, { on := 68, ground := Go.Ground.phase }, { on := 69, ground := Go.Ground.phase }, { on := 70, ground := Go.Ground.phase }, { on := 71, ground := Go.Ground.phase }, { on := 72, ground := Go.Ground.phase }, { on := 73, ground := Go.Ground.phase }, { on := 74, ground := Go.Ground.phase }, { on := 75, ground := Go.Ground.phase }, { on := 76, ground := Go.Ground.phase }, { on := 77, ground := Go.Ground.phase }, { on := 78, ground := Go.Ground.phase }, { on := 79, ground := Go.Ground.phase }, { on := 80, ground := Go.Ground.phase }, { on := 81, ground := Go.Ground.phase }, { on := 82, ground := Go.Ground.phase }, { on := 83, ground := Go.Ground.phase }, { on := 84, ground := Go.Ground.phase }, { on := 85, ground := Go.Ground.phase }, { on := 86, ground := Go.Ground.phase }, { on := 87, ground := Go.Ground.phase }, { on := 88, ground := Go.Ground.phase }, { on := 89, ground := Go.Ground.phase }, { on := 90, ground := Go.Ground.phase }, { on := 91, ground := Go.Ground.phase }, { on := 92, ground := Go.Ground.phase }, { on := 93, ground := Go.Ground.phase }, { on := 94, ground := Go.Ground.phase }, { on := 95, ground := Go.Ground.phase }, { on := 96, ground := Go.Ground.phase }, { on := 97, ground := Go.Ground.phase }, { on := 98, ground := Go.Ground.phase }, { on := 99, ground := Go.Ground.phase }, { on := 100, ground := Go.Ground.phase }, { on := 101, ground := Go.Ground.phase }, { on := 102, ground := Go.Ground.phase }, { on := 103, ground := Go.Ground.phase }, { on := 104, ground := Go.Ground.phase }, { on := 105, ground := Go.Ground.phase }, { on := 106, ground := Go.Ground.phase }, { on := 107, ground := Go.Ground.phase }, { on := 108, ground := Go.Ground.phase }, { on := 109, ground := Go.Ground.phase }, { on := 110, ground := Go.Ground.phase }, { on := 111, ground := Go.Ground.phase }, { on := 112, ground := Go.Ground.phase }, { on := 113, ground := Go.Ground.phase }, { on := 114, ground := Go.Ground.phase }, { on := 115, ground := Go.Ground.phase }, { on := 116, ground := Go.Ground.phase }, { on := 117, ground := Go.Ground.phase }]).toArray, guard := none }) (v := ?v118) (by rw [hops]; rfl) (by first | exact trivial | rfl) hS ?hv118 ?h118
      case hv118 => intro w' hw'; obtain ⟨⟨z1, z2, z3⟩, _⟩ := hw'; go_simp; (try rfl)
      (try simp only [Act.put, List.setIfInBounds_toArray, List.set_cons_zero, List.set_cons_succ])
      have hB := hS.2.below
      subst hQ'
      refine NoPanic.normal ?_
      go_wp2
      go_ret
      exact ⟨rfl, hB⟩
end Go.Proofs.Ytmdghaaahknocaa
