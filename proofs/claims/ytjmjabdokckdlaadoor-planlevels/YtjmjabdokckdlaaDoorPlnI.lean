/- plan: the law's fits, at spans that fit. -/
import Derived.Test.YtjmjabdokckdlaaDoorPlnH
import Derived.BigQuiet
namespace Go.Proofs.YtjmjabdokckdlaaDoor
open Go.RowKit Go.Shelf
set_option linter.unusedVariables false
set_option linter.unusedSimpArgs false

theorem bdr {B : Nat} {w w' : World} (h : Below B w w') (n : Nat) : Below B w (w'.drewN n) := ⟨h.os, h.tape, h.output, h.size, h.block⟩
set_option maxRecDepth 100000 in
set_option maxHeartbeats 8000000 in
theorem fits_any {P : List Tk} (hG : Good P) (s : Sp) (hf : Fits P s) (hs : SpBd P.length s) (v : Value) (q c : Nat) (w : World) (hv : TsAt w v P) (hq : SpAt q P.length s w) :
    Calls Tryd.prog 25 #[v, .slice (some ⟨q, 0, none⟩) P.length c] w fun e w' => e = .returned (.bool true) ∧ Below w.heap.size w w' := by
  obtain ⟨ad, cap, rfl, hall⟩ := hv
  have HALL := hide hall
  have HG := hide hG
  have HF := hide hf
  have HS := hide hs
  have HQ := hide hq
  have h60 := hG.n60
  clear hall hG hf hs hq
  go_enter Tryd.func25, Tryd.ntmps25
  go_wp2_with fail
  go_loopw [5] (fun j wr => ∃ m : Nat, m ≤ P.length ∧ j = .int .i64 m ∧ Below w.heap.size w wr) (fun j _ => P.length - (intOf j).toNat)
  case atStart => exact ⟨0, by omega, rfl, Below.refl _ _⟩
  case round =>
    obtain ⟨m, hm, rfl, hB⟩ := hrel
    by_cases hlt : m < P.length
    · have hmi : (m : Int) < (P.length : Int) := by omega
      obtain ⟨g, o, lv, uv, rfl, y0, y1, y2, y3, hls, hus⟩ := HALL.out m hlt
      obtain ⟨la, lc, rfl, hlx⟩ := hls
      have hy0 := (hB.cell (World.block_lt_of_cell? w _ y0)).trans y0
      have hy1 := (hB.cell (World.block_lt_of_cell? w _ y1)).trans y1
      have hy2 := (hB.cell (World.block_lt_of_cell? w _ y2)).trans y2
      have hs0 := ((HQ.out.below hB) m hlt).1
      have hs1 := ((HQ.out.below hB) m hlt).2
      have hfm := HF.out m hlt
      have hsb := HS.out m hlt
      have hlen := HG.out.len m hlt
      have hcnt := (HG.out.cnt m hlt).1
      have hlink := HG.out.link m hlt
      have hsub := i64_id (x := (s m).2 - (s m).1) (by omega) (by omega)
      have hsub' := wrap64_id (x := (s m).2 - (s m).1) (by omega) (by omega)
      have d1 : ((s m).2 - (s m).1) = (tk P m).len := by omega
      have d2 : decide ((s m).1 < (tk P m).nb) = false := decide_eq_false (by omega)
      rw [d1] at hsub hsub'
      have HX := hide hlx
      have HB := hide hB
      have HLK := hide hlink
      have HFM := hide hfm.2.2
      have hs1' := hs1
      have d1' := hfm.1
      clear y0 y1 y2 y3 hus hlx hB hlink
      rw [d1'] at hs1
      have d3 : (s m).1 + (tk P m).len - (s m).1 = (tk P m).len := by omega
      generalize hL : (tk P m).links = L at *
      generalize hln : (tk P m).len = tl at *
      generalize hnb : (tk P m).nb = tn at *
      generalize hsm : (s m).1 = sm at *
      go_wp2_with fail
      go_quiet (fail)
      go_wp2_with fail
      go_loopw [56] (fun j wr => ∃ i : Nat, i ≤ L.length ∧ j = .int .i64 i ∧ Below w.heap.size w wr) (fun j _ => L.length - (intOf j).toNat)
      case atStart => exact ⟨0, by omega, rfl, bdr HB.out nq⟩
      case round =>
        obtain ⟨i, hi, rfl, hB⟩ := hrel
        by_cases hil : i < L.length
        · have hii : (i : Int) < (L.length : Int) := by omega
          obtain ⟨g1, o1, rfl, z0, z1, z2⟩ := HX.out i hil
          have hx := HLK.out _ (lk_mem L i hil)
          have hf := HFM.out _ (lk_mem L i hil)
          have x0 := (hB.cell (World.block_lt_of_cell? w _ z0)).trans z0
          have x1 := (hB.cell (World.block_lt_of_cell? w _ z1)).trans z1
          have x2 := (hB.cell (World.block_lt_of_cell? w _ z2)).trans z2
          have t0 := ((HQ.out.below hB) m hlt).1
          have t1 := ((HQ.out.below hB) m hlt).2
          unfold gp Lk.gap at hf
          generalize lk L i = x at *
          obtain ⟨xt, xk, xg⟩ := x
          dsimp only at hx hf x0 x1 x2
          obtain ⟨t, rfl⟩ : ∃ t : Nat, xt = (t : Int) := ⟨xt.toNat, by omega⟩
          rw [Int.toNat_natCast] at hf
          have htn : t < P.length := by omega
          have hti : (t : Int) < (P.length : Int) := by omega
          have u0 := ((HQ.out.below hB) t htn).1
          have u1 := ((HQ.out.below hB) t htn).2
          have hst := HS.out t htn
          have hft := (HF.out t htn).1
          have hqz : q < wr.heap.size := World.block_lt_of_cell? wr _ u0
          have HBB := hide ((hB.alloc hB.size (.cells #[.int .i64 (t : Int), .int .i64 xk, .int .i64 xg] 47)).alloc (by have := hB.size; simp; omega) (.cells #[.int .i64 (s t).1, .int .i64 (s t).2] 37))
          rw [hsm] at t0
          rw [hln] at hf
          rw [d1'] at t1
          have e1 := wrap64_id (x := (s t).2 + xg) (by omega) (by omega)
          have e2 := wrap64_id (x := (s t).1 + xg) (by omega) (by omega)
          have e3 := i64_id (x := (s t).2 + xg) (by omega) (by omega)
          have e4 := i64_id (x := (s t).1 + xg) (by omega) (by omega)
          have hxk : xk = 1 ∨ xk = 2 ∨ xk = 3 ∨ xk = 4 := by omega
          clear z0 z1 z2 hB
          rw [hft] at u1 hst e1 e3 HBB
          generalize (tk P t).len = lt' at *
          generalize (s t).1 = a at *
          clear hft
          rcases hxk with rfl | rfl | rfl | rfl
          · have f1 : decide (sm < a + lt' + xg) = false := decide_eq_false (by simp at hf; omega)
            clear hf
            go_wp2_with fail
            go_quiet (fail)
            go_wp2_with fail
            go_quiet (fail)
            go_wp2_with fail
            go_quiet (fail)
            go_wp2_with fail
            go_quiet (fail)
            go_wp2_with fail
            go_roundw
            case rel => exact ⟨i + 1, by omega, by go_num, by repeat (first | exact HBB.out | apply bdr)⟩
            case measure => simp [intOf]; omega
          · have f1 : decide (sm < a + xg) = false := decide_eq_false (by simp at hf; omega)
            clear hf
            go_wp2_with fail
            go_quiet (fail)
            go_wp2_with fail
            go_quiet (fail)
            go_wp2_with fail
            go_quiet (fail)
            go_wp2_with fail
            go_quiet (fail)
            go_wp2_with fail
            go_roundw
            case rel => exact ⟨i + 1, by omega, by go_num, by repeat (first | exact HBB.out | apply bdr)⟩
            case measure => simp [intOf]; omega
          · have f1 : decide (sm + tl < a + lt' + xg) = false := decide_eq_false (by simp at hf; omega)
            clear hf
            go_wp2_with fail
            go_quiet (fail)
            go_wp2_with fail
            go_quiet (fail)
            go_wp2_with fail
            go_quiet (fail)
            go_wp2_with fail
            go_quiet (fail)
            go_wp2_with fail
            go_roundw
            case rel => exact ⟨i + 1, by omega, by go_num, by repeat (first | exact HBB.out | apply bdr)⟩
            case measure => simp [intOf]; omega
          · have f1 : decide (sm + tl < a + xg) = false := decide_eq_false (by simp at hf; omega)
            clear hf
            go_wp2_with fail
            go_quiet (fail)
            go_wp2_with fail
            go_quiet (fail)
            go_wp2_with fail
            go_quiet (fail)
            go_wp2_with fail
            go_quiet (fail)
            go_wp2_with fail
            go_roundw
            case rel => exact ⟨i + 1, by omega, by go_num, by repeat (first | exact HBB.out | apply bdr)⟩
            case measure => simp [intOf]; omega
        · obtain rfl : i = L.length := by omega
          have HB := hide hB
          clear hB
          go_wp2_with fail
          go_roundw
          case rel => exact ⟨m + 1, by omega, by go_num, HB.out⟩
          case measure => simp [intOf]; omega
    · obtain rfl : m = P.length := by omega
      have HB := hide hB
      clear hB
      go_wp2_with fail
      go_ret
      exact ⟨rfl, HB.out⟩
end Go.Proofs.YtjmjabdokckdlaaDoor
