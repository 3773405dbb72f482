/- the reference of plans: holds, soonest. -/
import Derived.Test.YtjmjabdokckdlaaDoorRpA
import Derived.Test.YtjmjabdokckdlaaDoorPlnI
namespace Go.Proofs.YtjmjabdokckdlaaDoor
open Go.RowKit
set_option linter.unusedVariables false
set_option linter.unusedSimpArgs false

set_option maxHeartbeats 1000000 in
theorem rholds_any (t k g a c len olen : Int) (w : World) (hk : 1 ≤ k ∧ k ≤ 4) (hg : -1000000 ≤ g ∧ g ≤ 1000000) (ha : -4000000000000 ≤ a ∧ a ≤ 4000000000000) (hc : -4000000000000 ≤ c ∧ c ≤ 4000000000000) (hl : 0 ≤ len ∧ len ≤ 1000000) (ho : 0 ≤ olen ∧ olen ≤ 1000000) :
    Calls Tryd.prog 33 #[.agg #[.int .i64 t, .int .i64 k, .int .i64 g], .agg #[.int .i64 a, .int .i64 (a + len)], .agg #[.int .i64 c, .int .i64 (c + olen)]] w fun e w' => e = .returned (.bool (decide (c + (⟨t, k, g⟩ : Lk).gap len olen ≤ a))) ∧ Below w.heap.size w w' := by
  have hB : Below w.heap.size w (((w.alloc (.cells #[.int .i64 t, .int .i64 k, .int .i64 g] 47)).alloc (.cells #[.int .i64 a, .int .i64 (a + len)] 37)).alloc (.cells #[.int .i64 c, .int .i64 (c + olen)] 37)) := (((Below.refl _ w).alloc (Nat.le_refl _) _).alloc (by simp) _).alloc (by simp; omega) _
  have HB := hide hB
  have e1 := wrap64_id (x := c + olen + g) (by omega) (by omega)
  have e2 := wrap64_id (x := c + g) (by omega) (by omega)
  have hk4 : k = 1 ∨ k = 2 ∨ k = 3 ∨ k = 4 := by omega
  have f : ∀ k', k' = k → (⟨t, k, g⟩ : Lk).gap len olen = g + (if k' = 1 ∨ k' = 3 then olen else 0) - (if k' = 3 ∨ k' = 4 then len else 0) := fun k' e => by rw [e]; rfl
  clear hB
  rcases hk4 with rfl | rfl | rfl | rfl
  · have hf := f _ rfl
    rw [if_pos (by decide), if_neg (by decide)] at hf
    rw [hf]
    clear f hf
    go_enter Tryd.func33, Tryd.ntmps33
    go_wp2
    go_ret
    exact ⟨ret_bool (decide_eq_decide.2 (by omega)), HB.out⟩
  · have hf := f _ rfl
    rw [if_neg (by decide), if_neg (by decide)] at hf
    rw [hf]
    clear f hf
    go_enter Tryd.func33, Tryd.ntmps33
    go_wp2
    go_ret
    exact ⟨ret_bool (decide_eq_decide.2 (by omega)), HB.out⟩
  · have hf := f _ rfl
    rw [if_pos (by decide), if_pos (by decide)] at hf
    rw [hf]
    clear f hf
    go_enter Tryd.func33, Tryd.ntmps33
    go_wp2
    go_ret
    exact ⟨ret_bool (decide_eq_decide.2 (by omega)), HB.out⟩
  · have hf := f _ rfl
    rw [if_neg (by decide), if_pos (by decide)] at hf
    rw [hf]
    clear f hf
    go_enter Tryd.func33, Tryd.ntmps33
    go_wp2
    go_ret
    exact ⟨ret_bool (decide_eq_decide.2 (by omega)), HB.out⟩
set_option maxRecDepth 100000 in
set_option maxHeartbeats 4000000 in
theorem rsoonest_any {P : List Tk} (hG : Good P) (i : Nat) (hi : i < P.length) (s : Sp) (hs : SpBd P.length s) (hp : ∀ x ∈ (tk P i).links, (s x.t.toNat).2 = (s x.t.toNat).1 + (tk P x.t.toNat).len) (v : Value) (q c : Nat) (w : World) (hv : TsAt w v P) (hq : SpAt q P.length s w) :
    Calls Tryd.prog 30 #[v, .slice (some ⟨q, 0, none⟩) P.length c, .int .i64 (i : Int)] w fun e w' => e = .returned (.int .i64 (soon P i s)) ∧ Below w.heap.size w w' := by
  obtain ⟨ad, cap, rfl, hall⟩ := hv
  have HALL := hide hall
  obtain ⟨g0, o, lv, uv, rfl, h0, h1, h2, h3, hl, hu⟩ := hall i hi
  obtain ⟨la, lc, rfl, hls⟩ := hl
  have hii : (i : Int) < (P.length : Int) := by omega
  have HL := hide hls
  have h60 := (hG.cnt i hi).1
  have HLK := hide (hG.link i hi)
  have hle := hG.len i hi
  have HLE := hide (fun j hj => hG.len j hj)
  have HS := hide hs
  have HP := hide hp
  have HQ := hide hq
  have HY0 := hide h0
  clear hall hq hls hu hG hs hp h3
  go_enter Tryd.func30, Tryd.ntmps30
  go_wp2_with fail
  go_loopw [7, 23] (fun b j wr => ∃ m : Nat, m ≤ (tk P i).links.length ∧ j = .int .i64 m ∧ b = .int .i64 (soonL P i s (tk P i).nb ((tk P i).links.take m)) ∧ Below w.heap.size w wr) (fun _ j _ => (tk P i).links.length - (intOf j).toNat)
  case atStart => exact ⟨0, by omega, rfl, by simp [soonL], Below.refl _ _⟩
  case round =>
    clear h0 h1 h2
    obtain ⟨m, hm, rfl, rfl, hB⟩ := hrel
    by_cases hlt : m < (tk P i).links.length
    · have hmi : (m : Int) < ((tk P i).links.length : Int) := by omega
      obtain ⟨g1, o1, rfl, y0, y1, y2⟩ := HL.out m hlt
      have hy0 := (hB.cell (World.block_lt_of_cell? w _ y0)).trans y0
      have hy1 := (hB.cell (World.block_lt_of_cell? w _ y1)).trans y1
      have hy2 := (hB.cell (World.block_lt_of_cell? w _ y2)).trans y2
      have hmem := lk_mem _ m hlt
      have hst := soonL_snoc P i s (tk P i).nb _ m hlt
      have hx := HLK.out _ hmem
      have hp := HP.out _ hmem
      have hyl := (hB.cell (World.block_lt_of_cell? w _ HY0.out)).trans HY0.out
      unfold byL gp Lk.gap at hst
      generalize lk (tk P i).links m = x at *
      generalize hbb : soonL P i s (tk P i).nb (List.take m (tk P i).links) = b at *
      obtain ⟨xt, xk, xg⟩ := x
      dsimp only at hx hp hst hy0 hy1 hy2
      obtain ⟨t, rfl⟩ : ∃ t : Nat, xt = (t : Int) := ⟨xt.toNat, by omega⟩
      rw [Int.toNat_natCast] at hp hst
      have htn : t < P.length := by omega
      have hti : (t : Int) < (P.length : Int) := by omega
      have hlt2 := HLE.out t htn
      have hsb := HS.out t htn
      have s0 := ((HQ.out.below hB) t htn).1
      have s1 := ((HQ.out.below hB) t htn).2
      rw [hp] at s1
      have hqz : q < wr.heap.size := World.block_lt_of_cell? wr _ s0
      have hgz : g0 < wr.heap.size := World.block_lt_of_cell? wr _ hyl
      have HN := hide ((hB.alloc hB.size (.cells #[.int .i64 (t : Int), .int .i64 xk, .int .i64 xg] 47)).alloc (by have := hB.size; simp; omega) (.cells #[.int .i64 (s t).1, .int .i64 ((s t).1 + (tk P t).len)] 37))
      clear y0 y1 y2 hB hmem hp
      generalize (s t).1 = a at *
      generalize (tk P t).len = lt' at *
      generalize (tk P i).len = li at *
      have e1 := wrap64_id (x := a + lt' + xg) (by omega) (by omega)
      have e2 := wrap64_id (x := a + xg) (by omega) (by omega)
      have e3 := wrap64_id (x := a + lt' + xg - li) (by omega) (by omega)
      have e4 := wrap64_id (x := a + xg - li) (by omega) (by omega)
      have f3 := i64_id (x := a + lt' + xg - li) (by omega) (by omega)
      have f4 := i64_id (x := a + xg - li) (by omega) (by omega)
      have f1 := i64_id (x := a + lt' + xg) (by omega) (by omega)
      have f2 := i64_id (x := a + xg) (by omega) (by omega)
      have hk4 : xk = 1 ∨ xk = 2 ∨ xk = 3 ∨ xk = 4 := by omega
      rcases hk4 with rfl | rfl | rfl | rfl
      · rw [if_pos (by decide), if_neg (by decide), show a + (xg + lt' - 0) = a + lt' + xg by omega] at hst
        go_wp2_with fail
        go_roundw
        case rel => exact ⟨m + 1, by omega, by go_num, by rw [hst, max_if], HN.out⟩
        case measure => simp [intOf]; omega
      · rw [if_neg (by decide), if_neg (by decide), show a + (xg + 0 - 0) = a + xg by omega] at hst
        go_wp2_with fail
        go_roundw
        case rel => exact ⟨m + 1, by omega, by go_num, by rw [hst, max_if], HN.out⟩
        case measure => simp [intOf]; omega
      · rw [if_pos (by decide), if_pos (by decide), show a + (xg + lt' - li) = a + lt' + xg - li by omega] at hst
        go_wp2_with fail
        go_quiet (fail)
        go_wp2_with fail
        go_roundw
        case rel => exact ⟨m + 1, by omega, by go_num, by rw [hst, max_if], by repeat (first | exact HN.out | apply bdr)⟩
        case measure => simp [intOf]; omega
      · rw [if_neg (by decide), if_pos (by decide), show a + (xg + 0 - li) = a + xg - li by omega] at hst
        go_wp2_with fail
        go_quiet (fail)
        go_wp2_with fail
        go_roundw
        case rel => exact ⟨m + 1, by omega, by go_num, by rw [hst, max_if], by repeat (first | exact HN.out | apply bdr)⟩
        case measure => simp [intOf]; omega
    · obtain rfl : m = (tk P i).links.length := by omega
      rw [List.take_length]
      have HB := hide hB
      clear hB
      go_wp2_with fail
      go_ret
      exact ⟨rfl, HB.out⟩
end Go.Proofs.YtjmjabdokckdlaaDoor
