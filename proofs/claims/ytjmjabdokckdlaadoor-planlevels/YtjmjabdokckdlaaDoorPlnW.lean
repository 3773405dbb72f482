/- plan: hasRoom. -/
import Derived.Test.YtjmjabdokckdlaaDoorPlnV
namespace Go.Proofs.YtjmjabdokckdlaaDoor
open Go.RowKit Go.Shelf
set_option linter.unusedVariables false
set_option linter.unusedSimpArgs false

/-- is there room at all of the first m beginnings within a span -/
def hrsN (P : List Tk) (H : List Int) (s : Sp) (st : Nat → Bool) (U : List Int) (f e : Int) : Nat → Bool
  | 0 => true
  | m + 1 => hrsN P H s st U f e m && !(st m && decide (f < (s m).1) && decide ((s m).1 < e) && !hra P H s st U (s m).1)
def hrs (P : List Tk) (H : List Int) (s : Sp) (st : Nat → Bool) (U : List Int) (f e : Int) : Bool := decide (f = e) || (hra P H s st U f && hrsN P H s st U f e P.length)
theorem hrsN_no {P : List Tk} {H : List Int} {s : Sp} {st : Nat → Bool} {U : List Int} {f e : Int} {m : Nat} (h : hrsN P H s st U f e m = false) : ∀ k, m ≤ k → hrsN P H s st U f e k = false
  | k, hk => by
    induction k with
    | zero => have : m = 0 := by omega
              subst this; exact h
    | succ k ih =>
      by_cases e : m = k + 1
      · rw [← e]; exact h
      · rw [hrsN, ih (by omega), Bool.false_and]
theorem hrsN_all {P : List Tk} {H : List Int} {s : Sp} {st : Nat → Bool} {U : List Int} {f e : Int} : ∀ {m : Nat}, hrsN P H s st U f e m = true → ∀ k, k < m → st k = true → f < (s k).1 → (s k).1 < e → hra P H s st U (s k).1 = true
  | m + 1, h, k, hk, h1, h2, h3 => by
    rw [hrsN, Bool.and_eq_true] at h
    by_cases e' : k = m
    · subst e'
      have := h.2
      rw [h1, decide_eq_true h2, decide_eq_true h3] at this
      simpa using this
    · exact hrsN_all h.1 k (by omega) h1 h2 h3
theorem hra_all {P : List Tk} {H : List Int} {s : Sp} {st : Nat → Bool} {U : List Int} {t : Int} : ∀ {m : Nat}, hraN P H s st U t m = true → ∀ r, r < m → U.getD r 0 + usd P s st r t P.length ≤ amt H r
  | m + 1, h, r, hr => by
    rw [hraN, Bool.and_eq_true] at h
    by_cases e' : r = m
    · subst e'; exact of_decide_eq_true h.2
    · exact hra_all h.1 r (by omega)
/-- where there is room at the span's beginning and at each beginning within it, there is room at each of its times -/
theorem hrs_all {P : List Tk} (hG : Good P) {H : List Int} {s : Sp} {st : Nat → Bool} {U : List Int} {f e : Int} (h : hrs P H s st U f e = true) (r : Nat) (hr : r < U.length) (t : Int) (h1 : f ≤ t) (h2 : t < e) : U.getD r 0 + usd P s st r t P.length ≤ amt H r := by
  unfold hrs at h
  rw [decide_eq_false (by omega), Bool.false_or, Bool.and_eq_true] at h
  have a := hra_all h.1 r hr
  have := room_all hG s st r f e (amt H r - U.getD r 0) (by omega) (fun k hk b1 b2 b3 => by
    have := hra_all (hrsN_all h.2 k hk b1 b2 b3) r hr
    omega) t h1 h2
  omega
set_option maxRecDepth 100000 in
set_option maxHeartbeats 4000000 in
theorem hasRoom_any {P : List Tk} (hG : Good P) (H : List Int) (s : Sp) (st : Nat → Bool) (b : Nat) (tv hv : Value) (q z : Nat) (U : List Int) (hU : ∀ x ∈ U, 0 ≤ x ∧ x ≤ 1000000) (hUl : U.length ≤ 8) (x0 x1 : Int) (lv uv : Value) (hlv : ∃ a l c, lv = .slice a l c) (f e : Int) (w : World) (hp : PlcW b P H s st tv hv q z w) (hu : NsAt w uv U) :
    Calls Tryd.prog 70 #[.pointer (some ⟨b, 0, none⟩), .agg #[.int .i64 x0, .int .i64 x1, lv, uv], .agg #[.int .i64 f, .int .i64 e]] w fun ev w' => ev = .returned (.bool (hrs P H s st U f e)) ∧ Below w.heap.size w w' := by
  have hul := hu
  obtain ⟨la, ll, lc, rfl⟩ := hlv
  obtain ⟨ua, uc, rfl, _⟩ := hul
  have h60 := hG.n60
  have KA := fun t W (hb : Below w.heap.size w W) => hasRoomAt_any hG H s st b tv hv q z U hU hUl x0 x1 (.slice la ll lc) (.slice ua U.length uc) ⟨la, ll, lc, rfl⟩ t W (hp.below hb) (hu.below hb)
  have HKA := hide KA
  have HP := hide hp
  have hn0 := ((Below.refl _ w).alloc (Nat.le_refl _) (.cells #[.int .i64 x0, .int .i64 x1, .slice la ll lc, .slice ua U.length uc] 45)).alloc (by simp) (.cells #[.int .i64 f, .int .i64 e] 37)
  have HN0 := hide hn0
  have hy : ∀ wr, Below (w.heap.size + 2) ((w.alloc (.cells #[.int .i64 x0, .int .i64 x1, .slice la ll lc, .slice ua U.length uc] 45)).alloc (.cells #[.int .i64 f, .int .i64 e] 37)) wr → wr.cell? ⟨w.heap.size, 0, none⟩ = some (.int .i64 x0) ∧ wr.cell? ⟨w.heap.size, 1, none⟩ = some (.int .i64 x1) ∧ wr.cell? ⟨w.heap.size, 2, none⟩ = some (.slice la ll lc) ∧ wr.cell? ⟨w.heap.size, 3, none⟩ = some (.slice ua U.length uc) ∧ wr.cell? ⟨w.heap.size + 1, 0, none⟩ = some (.int .i64 f) ∧ wr.cell? ⟨w.heap.size + 1, 1, none⟩ = some (.int .i64 e) := by
    intro wr hb
    exact ⟨(hb.cell (by show w.heap.size < _; omega)).trans (by simp), (hb.cell (by show w.heap.size < _; omega)).trans (by simp), (hb.cell (by show w.heap.size < _; omega)).trans (by simp), (hb.cell (by show w.heap.size < _; omega)).trans (by simp), (hb.cell (by show w.heap.size + 1 < _; omega)).trans (by simp), (hb.cell (by show w.heap.size + 1 < _; omega)).trans (by simp)⟩
  have HY := hide hy
  clear hp hG hU hu hn0 hy KA
  by_cases hfe : f = e
  · have hfin : hrs P H s st U f e = true := by unfold hrs; rw [decide_eq_true hfe, Bool.true_or]
    subst hfe
    go_enter Tryd.func70, Tryd.ntmps70
    go_wp2_with fail
    go_ret
    exact ⟨ret_bool hfin.symm, HN0.out⟩
  · have hdf : hrs P H s st U f e = (hra P H s st U f && hrsN P H s st U f e P.length) := by unfold hrs; rw [decide_eq_false hfe, Bool.false_or]
    have KF := hide (fun W hb => HKA.out f W hb)
    cases h1 : hra P H s st U f with
    | false =>
      rw [h1] at KF
      rw [h1, Bool.false_and] at hdf
      go_enter Tryd.func70, Tryd.ntmps70
      go_wp2_with (go_at_call 79; refine (KF.out _ HN0.out).mono ?_; rintro e X ⟨rfl, hx⟩)
      go_ret
      exact ⟨ret_bool hdf.symm, HN0.out.trans (hx.mono HN0.out.size)⟩
    | true =>
      rw [h1] at KF
      rw [h1, Bool.true_and] at hdf
      have HF := hide hdf
      clear hdf
      go_enter Tryd.func70, Tryd.ntmps70
      go_wp2_with (go_at_call 79; refine (KF.out _ HN0.out).mono ?_; rintro e X ⟨rfl, hx⟩; have hx2 := hx.mono (show w.heap.size + 2 ≤ _ by simp); have hX : Below w.heap.size w X := HN0.out.trans (hx.mono HN0.out.size); have hpX := HP.out.below hX; have c2 := hpX.c2; have HX := hide hx2; have HW := hide hX; clear hx hx2 hX hpX)
      go_loopw [25] (fun j wr => ∃ k : Nat, k ≤ P.length ∧ j = .int .i64 k ∧ hrsN P H s st U f e k = true ∧ Below X.heap.size X wr) (fun j _ => P.length - (intOf j).toNat)
      case atStart => exact ⟨0, by omega, rfl, rfl, Below.refl _ _⟩
      case round =>
        clear c2
        obtain ⟨k, hk, rfl, hh, hB⟩ := hrel
        by_cases hlt : k < P.length
        · have hmi : (k : Int) < (P.length : Int) := by omega
          have hWr : Below w.heap.size w wr := HW.out.trans (hB.mono HW.out.size)
          have hXr : Below (w.heap.size + 2) _ wr := HX.out.trans (hB.mono (by have := HX.out.size; simpa using this))
          obtain ⟨y0, y1, y2, y3, y4, y5⟩ := HY.out wr hXr
          have hp := HP.out.below hWr
          have s0 := (hp.sp k hlt).1
          have s1 := (hp.sp k hlt).2
          have b0 := hp.bo k hlt
          have c3 := hp.c3
          have hnx : hrsN P H s st U f e (k + 1) = (hrsN P H s st U f e k && !(st k && decide (f < (s k).1) && decide ((s k).1 < e) && !hra P H s st U (s k).1)) := rfl
          rw [hh, Bool.true_and] at hnx
          have hBn := hB.alloc hB.size (.cells #[.int .i64 (s k).1, .int .i64 (s k).2] 37)
          have hWn := hWr.alloc hWr.size (.cells #[.int .i64 (s k).1, .int .i64 (s k).2] 37)
          have K2 := hide (HKA.out (s k).1 _ hWn)
          have HBn := hide hBn
          have HWn := hide hWn
          have hz0 : w.heap.size < wr.heap.size := World.block_lt_of_cell? wr _ y0
          have hz1 : w.heap.size + 1 < wr.heap.size := World.block_lt_of_cell? wr _ y4
          have hbz : b < wr.heap.size := World.block_lt_of_cell? wr _ c3
          have hzz : z < wr.heap.size := World.block_lt_of_cell? wr _ b0
          clear hp hB hBn hWn hWr hXr
          generalize hra P H s st U (s k).1 = r at *
          generalize (s k).1 = sf at *
          generalize (s k).2 = se at *
          cases hst : st k with
          | false =>
            rw [hst] at b0 hnx
            rw [Bool.false_and, Bool.false_and, Bool.false_and, Bool.not_false] at hnx
            go_wp2_with fail
            go_roundw
            case rel => exact ⟨k + 1, by omega, by go_num, hnx, HBn.out⟩
            case measure => simp [intOf]; omega
          | true =>
            rw [hst] at b0 hnx
            by_cases d1 : f < sf
            · by_cases d2 : sf < e
              · rw [decide_eq_true d1, decide_eq_true d2] at hnx
                cases r with
                | true =>
                  go_wp2_with (go_at_call 79; refine K2.out.mono ?_; rintro e X' ⟨rfl, hx⟩)
                  go_roundw
                  case rel => exact ⟨k + 1, by omega, by go_num, by simpa using hnx, HBn.out.trans (hx.mono HBn.out.size)⟩
                  case measure => simp [intOf]; omega
                | false =>
                  have hfin := HF.out.trans (hrsN_no (by simpa using hnx) P.length (by omega))
                  go_wp2_with (go_at_call 79; refine K2.out.mono ?_; rintro e X' ⟨rfl, hx⟩)
                  go_ret
                  exact ⟨ret_bool hfin.symm, HWn.out.trans (hx.mono HWn.out.size)⟩
              · rw [decide_eq_true d1, decide_eq_false d2] at hnx
                go_wp2_with fail
                go_roundw
                case rel => exact ⟨k + 1, by omega, by go_num, by simpa using hnx, HBn.out⟩
                case measure => simp [intOf]; omega
            · rw [decide_eq_false d1] at hnx
              go_wp2_with fail
              go_roundw
              case rel => exact ⟨k + 1, by omega, by go_num, by simpa using hnx, HBn.out⟩
              case measure => simp [intOf]; omega
        · obtain rfl : k = P.length := by omega
          have hfin := HF.out.trans hh
          have hWr : Below w.heap.size w wr := HW.out.trans (hB.mono HW.out.size)
          clear hB
          go_wp2_with fail
          go_ret
          exact ⟨ret_bool hfin.symm, hWr⟩
end Go.Proofs.YtjmjabdokckdlaaDoor
