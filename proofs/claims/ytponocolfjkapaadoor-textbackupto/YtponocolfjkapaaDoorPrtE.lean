/- package text: checkLine. -/
import Derived.Test.YtponocolfjkapaaDoorPrtD
namespace Go.Proofs.YtponocolfjkapaaDoor
open Go.RowKit Go.Shelf
set_option linter.unusedVariables false
set_option linter.unusedSimpArgs false

/-- a list of params in memory -/
def PS (A : Option Addr) (l : List PPm) (W : World) : Prop := ∀ k, (h : k < l.length) → ∃ ad Av c, A = some ad ∧ W.cell? (ad.add (k * 2)) = some (.string l[k].n) ∧ W.cell? ⟨(ad.add (k * 2)).block, (ad.add (k * 2)).off + 1, none⟩ = some (.slice Av l[k].vs.length c) ∧ SL Av l[k].vs W
theorem PS.later {A : Option Addr} {l : List PPm} {W W' : World} (h : PS A l W) (hb : Below W.heap.size W W') : PS A l W' := fun k hk => by
  obtain ⟨ad, Av, c, e, h1, h2, h3⟩ := h k hk
  exact ⟨ad, Av, c, e, (hb.cell (World.block_lt_of_cell? _ _ h1)).trans h1, (hb.cell (World.block_lt_of_cell? _ _ h2)).trans h2, h3.later hb⟩
/-- the first fault of so many -/
def eF (e : Nat → Int) : Nat → Int
  | 0 => 0
  | n + 1 => if eF e n = 0 then e n else eF e n
theorem eF_at {e : Nat → Int} : ∀ {n k : Nat}, k < n → eF e k = 0 → e k ≠ 0 → eF e n = e k
  | 0, k, h, _, _ => by omega
  | n + 1, k, h, h0, h1 => by
    unfold eF
    by_cases c : k = n
    · subst c; rw [if_pos h0]
    · have ih := eF_at (n := n) (by omega) h0 h1
      rw [ih, if_neg h1]
/-- is it a name that begins or ends a part? -/
def isB (n : ByteArray) : Bool := n.toList == [66, 69, 71, 73, 78]
def isN2 (n : ByteArray) : Bool := n.toList == [69, 78, 68]
def eP2 (l : List PPm) (k : Nat) : Int := match l[k]? with | some x => eP x | none => 0
/-- what is wrong with a line -/
def eL (x : PLn) : Int := if nmS x.n = false then 8 else if isB x.n = true then 8 else if isN2 x.n = true then 8 else if eF (eP2 x.ps) x.ps.length = 0 then (if ctS x.v = true then 5 else 0) else eF (eP2 x.ps) x.ps.length
/-- a line's box -/
def LnBox (W : World) (B : Nat) (x : PLn) (A : Option Addr) (c : Nat) : Prop := W.heap[B]? = some (.cells #[.string x.n, .slice A x.ps.length c, .string x.v] 56 (0, 0))
theorem LnBox.lt {W : World} {B : Nat} {x : PLn} {A : Option Addr} {c : Nat} (h : LnBox W B x A c) : B < W.heap.size := (Array.getElem?_eq_some_iff.1 h).1
theorem LnBox.later {W W' : World} {B : Nat} {x : PLn} {A : Option Addr} {c : Nat} (h : LnBox W B x A c) (hb : Below W.heap.size W W') : LnBox W' B x A c := (hb.block B h.lt).trans h
theorem LnBox.cells {W : World} {B : Nat} {x : PLn} {A : Option Addr} {c : Nat} (h : LnBox W B x A c) : W.cell? ⟨B, 0, none⟩ = some (.string x.n) ∧ W.cell? ⟨B, 1, none⟩ = some (.slice A x.ps.length c) ∧ W.cell? ⟨B, 2, none⟩ = some (.string x.v) :=
  ⟨cell_of_row _ _ _ _ _ (0, 0) h, cell_of_row _ _ _ _ _ (0, 0) h, cell_of_row _ _ _ _ _ (0, 0) h⟩
/-- what checkLine's walk keeps -/
structure LW (w : World) (x : PLn) (A : Option Addr) (c : Nat) (W : World) : Prop where
  bx : LnBox W w.heap.size x A c
  ps : PS A x.ps W
  be : Below w.heap.size w W
theorem LW.later {w : World} {x : PLn} {A : Option Addr} {c : Nat} {W W' : World} (h : LW w x A c W) (hb : Below W.heap.size W W') : LW w x A c W' :=
  ⟨h.bx.later hb, h.ps.later hb, h.be.trans (hb.mono h.be.size)⟩
theorem LW.new {w : World} {x : PLn} {A : Option Addr} (c : Nat) (h : PS A x.ps w) : LW w x A c (w.alloc (.cells #[.string x.n, .slice A x.ps.length c, .string x.v] 56)) :=
  ⟨World.alloc_heap_new w _, h.later ((Below.refl _ w).alloc (Nat.le_refl _) _), (Below.refl _ w).alloc (Nat.le_refl _) _⟩
set_option maxRecDepth 100000 in
set_option maxHeartbeats 8000000 in
theorem checkLine_any (x : PLn) (A : Option Addr) (c : Nat) (w : World) (h : PS A x.ps w) (ho : LnOk x) :
    Calls Tryd.prog 42 #[.agg #[.string x.n, .slice A x.ps.length c, .string x.v]] w fun e w' => e = .returned (erV (eL x)) ∧ Below w.heap.size w w' := by
  have hl := ho.l
  have HW := hide (LW.new c h)
  have KN := hide (fun W => isName_any x.n W ho.n)
  have KC := hide (fun W => hasControl_any x.v W ho.v)
  have HO := hide ho
  have HE : Hid (erV (eL x) = if nmS x.n = false then erV 8 else if isB x.n = true then erV 8 else if isN2 x.n = true then erV 8 else if eF (eP2 x.ps) x.ps.length = 0 then (if ctS x.v = true then erV 5 else erV 0) else erV (eF (eP2 x.ps) x.ps.length)) := by
    show _ = _
    unfold eL
    repeat' split
    all_goals rfl
  have H1 : Hid ((x.n.toList == [66, 69, 71, 73, 78]) = isB x.n) := rfl
  have H2 : Hid ((x.n.toList == [69, 78, 68]) = isN2 x.n) := rfl
  have hc := HW.out.bx.cells
  obtain ⟨c0, c1, c2⟩ := hc
  clear h ho
  generalize erV (eL x) = R at *
  cases hn : nmS x.n
  · have hR := HE.out
    rw [if_pos hn, erV_no (by decide)] at hR
    subst hR
    rw [hn] at KN
    clear hn HE
    go_enter Tryd.func42, Tryd.ntmps42
    go_wp2_with (go_at_call 41; refine (KN.out _).mono ?_; rintro e w' ⟨rfl, rfl⟩)
    go_ret
    exact ⟨rfl, HW.out.be⟩
  · rw [hn] at KN
    have hE := HE.out
    rw [if_neg (by rw [hn]; simp)] at hE
    cases h1 : isB x.n
    · rw [if_neg (by rw [h1]; simp)] at hE
      have q1 := H1.out
      rw [h1] at q1
      cases h2 : isN2 x.n
      · rw [if_neg (by rw [h2]; simp)] at hE
        have q2 := H2.out
        rw [h2] at q2
        have HE2 := hide hE
        clear hE HE hn h1 h2
        go_enter Tryd.func42, Tryd.ntmps42
        go_wp2_with (go_at_call 41; refine (KN.out _).mono ?_; rintro e w' ⟨rfl, rfl⟩)
        go_loopw [24] (fun i wr => ∃ k : Nat, k ≤ x.ps.length ∧ i = .int .i64 k ∧ eF (eP2 x.ps) k = 0 ∧ LW w x A c wr) (fun i _ => x.ps.length - (intOf i).toNat)
        case atStart => exact ⟨0, by omega, rfl, rfl, HW.out⟩
        case round =>
          clear c0 c1 c2
          obtain ⟨k, hk, rfl, hall, hw⟩ := hrel
          by_cases hlt : k < x.ps.length
          · have hi : (k : Int) < x.ps.length := by omega
            obtain ⟨ad, Av, cv, hA, p0, p1, hs⟩ := hw.ps k hlt
            subst hA
            have KP := hide (fun W (hb : Below wr.heap.size wr W) => checkParam_any x.ps[k] Av cv W (hs.later hb) (HO.out.p k hlt))
            have HK : Hid (eP2 x.ps k = eP x.ps[k]) := by
              show _ = _
              unfold eP2
              rw [List.getElem?_eq_getElem hlt]
            have HAL := hide hall
            have HW2 := hide hw
            clear hall hw hs
            generalize x.ps[k] = y at *
            have hb1 : Below wr.heap.size wr (wr.alloc (.cells #[.string y.n, .slice Av y.vs.length cv] 58)) := (Below.refl _ wr).alloc (Nat.le_refl _) _
            have KP2 := hide (KP.out _ hb1)
            have HB1 := hide hb1
            clear KP hb1
            by_cases he : eP y = 0
            · rw [he, erV0] at KP2
              have hn : eF (eP2 x.ps) (k + 1) = 0 := by
                unfold eF
                rw [if_pos HAL.out, HK.out, he]
              have HN := hide hn
              clear hn he HK HAL
              go_wp2_with fail
              refine KP2.out.mono ?_
              rintro e W2 ⟨rfl, b2⟩
              have HW3 := hide (HW2.out.later (HB1.out.trans (b2.mono HB1.out.size)))
              clear b2
              go_wp2
              go_roundw
              case rel => exact ⟨k + 1, by omega, by go_num, HN.out, HW3.out⟩
              case measure => simp [intOf]; omega
            · have hn : eF (eP2 x.ps) x.ps.length = eP y := by rw [eF_at hlt HAL.out (by rw [HK.out]; exact he), HK.out]
              have hR := HE2.out
              rw [if_neg (by rw [hn]; exact he), hn, erV_no he] at hR
              subst hR
              rw [erV_no he] at KP2
              clear hn HK HAL HE2
              go_wp2_with fail
              refine KP2.out.mono ?_
              rintro e W2 ⟨rfl, b2⟩
              have HW3 := hide (HW2.out.later (HB1.out.trans (b2.mono HB1.out.size)))
              clear b2
              go_wp2
              go_ret
              exact ⟨rfl, HW3.out.be⟩
          · obtain rfl : k = x.ps.length := by omega
            have hi : ¬ (x.ps.length : Int) < x.ps.length := by omega
            have hR := HE2.out
            rw [if_pos hall] at hR
            obtain ⟨c0, c1, c2⟩ := hw.bx.cells
            have HW2 := hide hw
            clear hall hw HE2
            cases hv : ctS x.v
            · rw [hv, if_neg (by simp), erV0] at hR
              subst hR
              rw [hv] at KC
              clear hv
              go_wp2_with (go_at_call 55; refine (KC.out _).mono ?_; rintro e w' ⟨rfl, rfl⟩)
              go_ret
              exact ⟨rfl, HW2.out.be⟩
            · rw [hv, if_pos rfl, erV_no (by decide)] at hR
              subst hR
              rw [hv] at KC
              clear hv
              go_wp2_with (go_at_call 55; refine (KC.out _).mono ?_; rintro e w' ⟨rfl, rfl⟩)
              go_ret
              exact ⟨rfl, HW2.out.be⟩
      · rw [if_pos h2, erV_no (by decide)] at hE
        subst hE
        have q2 := H2.out
        rw [h2] at q2
        clear HE hn h1 h2
        go_enter Tryd.func42, Tryd.ntmps42
        go_wp2_with (go_at_call 41; refine (KN.out _).mono ?_; rintro e w' ⟨rfl, rfl⟩)
        go_ret
        exact ⟨rfl, HW.out.be⟩
    · rw [if_pos h1, erV_no (by decide)] at hE
      subst hE
      have q1 := H1.out
      rw [h1] at q1
      clear HE hn h1
      go_enter Tryd.func42, Tryd.ntmps42
      go_wp2_with (go_at_call 41; refine (KN.out _).mono ?_; rintro e w' ⟨rfl, rfl⟩)
      go_ret
      exact ⟨rfl, HW.out.be⟩
end Go.Proofs.YtponocolfjkapaaDoor
