/- package text: what a walk keeps that counts in one old cell. -/
import Derived.Test.YtponocolfjkapaaDoorMTextBackUpto21
import Derived.RangeFuncBox
namespace Go.Proofs.YtponocolfjkapaaDoor
open Go.RowKit Go.Shelf
set_option linter.unusedVariables false
set_option linter.unusedSimpArgs false

/-- a param; a line -/
structure PPm where
  n : ByteArray
  vs : List ByteArray
structure PLn where
  n : ByteArray
  ps : List PPm
  v : ByteArray
structure PmOk (x : PPm) : Prop where
  n : x.n.size ≤ 1000000000
  l : x.vs.length ≤ 1000000000
  v : ∀ k (h : k < x.vs.length), x.vs[k].size ≤ 1000000000
structure LnOk (x : PLn) : Prop where
  n : x.n.size ≤ 1000000000
  l : x.ps.length ≤ 1000000000
  p : ∀ k (h : k < x.ps.length), PmOk x.ps[k]
  v : x.v.size ≤ 1000000000
/-- may a text be a param's value? -/
def vB (s : ByteArray) : Bool := !ctS s && !hasB s 34
/-- what is wrong with a param -/
def eP (x : PPm) : Int := if nmS x.n = false then 8 else if x.vs.length = 0 then 13 else if Crn.allB (fun k => vB (x.vs.getD k ByteArray.empty)) x.vs.length = true then 0 else 5
/-- an error of api, or none -/
def erV (k : Int) : Value := if k = 0 then .nilIface else .iface 26 (.int .i64 k)
theorem erV0 : erV 0 = .nilIface := rfl
theorem erV_no {k : Int} (h : k ≠ 0) : erV k = .iface 26 (.int .i64 k) := if_neg h
/-- a param's box -/
def PmBox (W : World) (B : Nat) (x : PPm) (A : Option Addr) (c : Nat) : Prop := W.heap[B]? = some (.cells #[.string x.n, .slice A x.vs.length c] 58 (0, 0))
theorem PmBox.lt {W : World} {B : Nat} {x : PPm} {A : Option Addr} {c : Nat} (h : PmBox W B x A c) : B < W.heap.size := (Array.getElem?_eq_some_iff.1 h).1
theorem PmBox.later {W W' : World} {B : Nat} {x : PPm} {A : Option Addr} {c : Nat} (h : PmBox W B x A c) (hb : Below W.heap.size W W') : PmBox W' B x A c := (hb.block B h.lt).trans h
theorem PmBox.cells {W : World} {B : Nat} {x : PPm} {A : Option Addr} {c : Nat} (h : PmBox W B x A c) : W.cell? ⟨B, 0, none⟩ = some (.string x.n) ∧ W.cell? ⟨B, 1, none⟩ = some (.slice A x.vs.length c) :=
  ⟨cell_of_row _ _ _ _ _ (0, 0) h, cell_of_row _ _ _ _ _ (0, 0) h⟩
set_option maxRecDepth 100000 in
set_option maxHeartbeats 4000000 in
theorem checkParam_any (x : PPm) (A : Option Addr) (c : Nat) (w : World) (h : SL A x.vs w) (ho : PmOk x) :
    Calls Tryd.prog 54 #[.agg #[.string x.n, .slice A x.vs.length c]] w fun e w' => e = .returned (erV (eP x)) ∧ Below w.heap.size w w' := by
  have hl := ho.l
  have KN := hide (fun W => isName_any x.n W ho.n)
  have KV := hide (fun k (hk : k < x.vs.length) W => isParam_any x.vs[k] W (ho.v k hk))
  have HL := hide (fun W (hb : Below w.heap.size w W) => h.later hb)
  have hB0 : Below w.heap.size w (w.alloc (.cells #[.string x.n, .slice A x.vs.length c] 58)) := (Below.refl _ w).alloc (Nat.le_refl _) _
  have HE : Hid (erV (eP x) = if nmS x.n = false then erV 8 else if x.vs.length = 0 then erV 13 else if Crn.allB (fun k => vB (x.vs.getD k ByteArray.empty)) x.vs.length = true then erV 0 else erV 5) := by
    show _ = _
    unfold eP
    repeat' split
    all_goals rfl
  have HV : Hid (∀ k (hk : k < x.vs.length), (!ctS x.vs[k] && !hasB x.vs[k] 34) = vB (x.vs.getD k ByteArray.empty)) := fun k hk => by
    rw [List.getD_eq_getElem?_getD, List.getElem?_eq_getElem hk]; rfl
  have HB := hide hB0
  have hc0 : (w.alloc (.cells #[.string x.n, .slice A x.vs.length c] 58)).cell? ⟨w.heap.size, 0, none⟩ = some (.string x.n) := cell_of_row _ _ _ _ _ (0, 0) (World.alloc_heap_new w _)
  have hc1 : (w.alloc (.cells #[.string x.n, .slice A x.vs.length c] 58)).cell? ⟨w.heap.size, 1, none⟩ = some (.slice A x.vs.length c) := cell_of_row _ _ _ _ _ (0, 0) (World.alloc_heap_new w _)
  clear ho h hB0
  generalize erV (eP x) = R at *
  cases hn : nmS x.n
  · have hR := HE.out
    rw [if_pos hn, erV_no (by decide)] at hR
    subst hR
    rw [hn] at KN
    go_enter Tryd.func54, Tryd.ntmps54
    go_wp2_with (go_at_call 41; refine (KN.out _).mono ?_; rintro e w' ⟨rfl, rfl⟩)
    go_ret
    exact ⟨rfl, HB.out⟩
  · rw [hn] at KN
    have hE2 := HE.out
    rw [if_neg (by rw [hn]; simp)] at hE2
    rcases Nat.eq_zero_or_pos x.vs.length with h0 | h0
    · rw [if_pos h0, erV_no (by decide)] at hE2
      subst hE2
      clear hn hl KV HL HV HE
      rw [h0] at hc1 ⊢
      go_enter Tryd.func54, Tryd.ntmps54
      go_wp2_with (go_at_call 41; refine (KN.out _).mono ?_; rintro e w' ⟨rfl, rfl⟩)
      go_ret
      exact ⟨rfl, (Below.refl _ w).alloc (Nat.le_refl _) _⟩
    · rw [if_neg (by omega)] at hE2
      have HE3 := hide hE2
      obtain ⟨ad, hA, _⟩ := HL.out w (Below.refl _ _) 0 h0
      subst hA
      have hi0 : ((x.vs.length : Int) == 0) = false := by rw [beq_eq_false_iff_ne]; omega
      clear hn HE hE2
      go_enter Tryd.func54, Tryd.ntmps54
      go_wp2_with (go_at_call 41; refine (KN.out _).mono ?_; rintro e w' ⟨rfl, rfl⟩)
      go_loopw [18] (fun i wr => ∃ k : Nat, k ≤ x.vs.length ∧ i = .int .i64 k ∧ Crn.allB (fun k => vB (x.vs.getD k ByteArray.empty)) k = true ∧ Below w.heap.size w wr) (fun i _ => x.vs.length - (intOf i).toNat)
      case atStart => exact ⟨0, by omega, rfl, rfl, HB.out⟩
      case round =>
        clear hc0 hc1
        obtain ⟨k, hk, rfl, hall, hb⟩ := hrel
        by_cases hlt : k < x.vs.length
        · have hi : (k : Int) < x.vs.length := by omega
          obtain ⟨ad', hA, hc⟩ := (HL.out wr hb) k hlt
          cases hA
          have KV2 := hide (KV.out k hlt)
          rw [HV.out k hlt] at KV2
          have hst : Crn.allB (fun k => vB (x.vs.getD k ByteArray.empty)) (k + 1) = (Crn.allB (fun k => vB (x.vs.getD k ByteArray.empty)) k && vB (x.vs.getD k ByteArray.empty)) := rfl
          rw [hall, Bool.true_and] at hst
          have HS := hide hst
          have HW := hide hb
          clear hst hall hb
          generalize x.vs[k] = v at *
          cases hv : vB (x.vs.getD k ByteArray.empty)
          · rw [hv] at KV2
            have hR := HE3.out
            rw [if_neg (by rw [Crn.allB_no hv _ hlt]; simp), erV_no (by decide)] at hR
            subst hR
            clear hv HE3 HS
            go_wp2_with (go_at_call 63; refine (KV2.out _).mono ?_; rintro e w' ⟨rfl, rfl⟩)
            go_ret
            exact ⟨rfl, HW.out⟩
          · rw [hv] at KV2
            have hn := HS.out
            rw [hv] at hn
            have HN := hide hn
            clear hn hv HS
            go_wp2_with (go_at_call 63; refine (KV2.out _).mono ?_; rintro e w' ⟨rfl, rfl⟩)
            go_roundw
            case rel => exact ⟨k + 1, by omega, by go_num, HN.out, HW.out⟩
            case measure => simp [intOf]; omega
        · obtain rfl : k = x.vs.length := by omega
          have hi : ¬ (x.vs.length : Int) < x.vs.length := by omega
          have hR := HE3.out
          rw [if_pos hall, erV0] at hR
          subst hR
          have HW := hide hb
          clear hall hb HE3
          go_wp2
          go_ret
          exact ⟨rfl, HW.out⟩
end Go.Proofs.YtponocolfjkapaaDoor
namespace Go.Proofs.YtponocolfjkapaaDoor
open Go.RowKit Go.Shelf
set_option linter.unusedVariables false
set_option linter.unusedSimpArgs false

/-- a list of params in memory -/
def PS (A : Option Addr) (l : List PPm) (W : World) : Prop := ∀ k, (h : k < l.length) → ∃ ad Av c, A = some ad ∧ W.cell? (ad.add (k * 2)) = some (.string l[k].n) ∧ W.cell? ⟨(ad.add (k * 2)).block, (ad.add (k * 2)).off + 1, none⟩ = some (.slice Av l[k].vs.length c) ∧ SL Av l[k].vs W
theorem PS.later {A : Option Addr} {l : List PPm} {W W' : World} (h : PS A l W) (hb : Below W.heap.size W W') : PS A l W' := fun k hk => by
  obtain ⟨ad, Av, c, e, h1, h2, h3⟩ := h k hk
  exact ⟨ad, Av, c, e, (hb.cell (World.block_lt_of_cell? _ _ h1)).trans h1, (hb.cell (World.block_lt_of_cell? _ _ h2)).trans h2, h3.later hb⟩
/-- the first fault of so many -/
def eF (e : Nat → Int) : Nat → Int
  | 0 => 0
  | n + 1 => if eF e n = 0 then e n else eF e n
theorem eF_at {e : Nat → Int} : ∀ {n k : Nat}, k < n → eF e k = 0 → e k ≠ 0 → eF e n = e k
  | 0, k, h, _, _ => by omega
  | n + 1, k, h, h0, h1 => by
    unfold eF
    by_cases c : k = n
    · subst c; rw [if_pos h0]
    · have ih := eF_at (n := n) (by omega) h0 h1
      rw [ih, if_neg h1]
/-- is it a name that begins or ends a part? -/
def isB (n : ByteArray) : Bool := n.toList == [66, 69, 71, 73, 78]
def isN2 (n : ByteArray) : Bool := n.toList == [69, 78, 68]
def eP2 (l : List PPm) (k : Nat) : Int := match l[k]? with | some x => eP x | none => 0
/-- what is wrong with a line -/
def eL (x : PLn) : Int := if nmS x.n = false then 8 else if isB x.n = true then 8 else if isN2 x.n = true then 8 else if eF (eP2 x.ps) x.ps.length = 0 then (if ctS x.v = true then 5 else 0) else eF (eP2 x.ps) x.ps.length
/-- a line's box -/
def LnBox (W : World) (B : Nat) (x : PLn) (A : Option Addr) (c : Nat) : Prop := W.heap[B]? = some (.cells #[.string x.n, .slice A x.ps.length c, .string x.v] 56 (0, 0))
theorem LnBox.lt {W : World} {B : Nat} {x : PLn} {A : Option Addr} {c : Nat} (h : LnBox W B x A c) : B < W.heap.size := (Array.getElem?_eq_some_iff.1 h).1
theorem LnBox.later {W W' : World} {B : Nat} {x : PLn} {A : Option Addr} {c : Nat} (h : LnBox W B x A c) (hb : Below W.heap.size W W') : LnBox W' B x A c := (hb.block B h.lt).trans h
theorem LnBox.cells {W : World} {B : Nat} {x : PLn} {A : Option Addr} {c : Nat} (h : LnBox W B x A c) : W.cell? ⟨B, 0, none⟩ = some (.string x.n) ∧ W.cell? ⟨B, 1, none⟩ = some (.slice A x.ps.length c) ∧ W.cell? ⟨B, 2, none⟩ = some (.string x.v) :=
  ⟨cell_of_row _ _ _ _ _ (0, 0) h, cell_of_row _ _ _ _ _ (0, 0) h, cell_of_row _ _ _ _ _ (0, 0) h⟩
/-- what checkLine's walk keeps -/
structure LW (w : World) (x : PLn) (A : Option Addr) (c : Nat) (W : World) : Prop where
  bx : LnBox W w.heap.size x A c
  ps : PS A x.ps W
  be : Below w.heap.size w W
theorem LW.later {w : World} {x : PLn} {A : Option Addr} {c : Nat} {W W' : World} (h : LW w x A c W) (hb : Below W.heap.size W W') : LW w x A c W' :=
  ⟨h.bx.later hb, h.ps.later hb, h.be.trans (hb.mono h.be.size)⟩
theorem LW.new {w : World} {x : PLn} {A : Option Addr} (c : Nat) (h : PS A x.ps w) : LW w x A c (w.alloc (.cells #[.string x.n, .slice A x.ps.length c, .string x.v] 56)) :=
  ⟨World.alloc_heap_new w _, h.later ((Below.refl _ w).alloc (Nat.le_refl _) _), (Below.refl _ w).alloc (Nat.le_refl _) _⟩
set_option maxRecDepth 100000 in
set_option maxHeartbeats 8000000 in
theorem checkLine_any (x : PLn) (A : Option Addr) (c : Nat) (w : World) (h : PS A x.ps w) (ho : LnOk x) :
    Calls Tryd.prog 42 #[.agg #[.string x.n, .slice A x.ps.length c, .string x.v]] w fun e w' => e = .returned (erV (eL x)) ∧ Below w.heap.size w w' := by
  have hl := ho.l
  have HW := hide (LW.new c h)
  have KN := hide (fun W => isName_any x.n W ho.n)
  have KC := hide (fun W => hasControl_any x.v W ho.v)
  have HO := hide ho
  have HE : Hid (erV (eL x) = if nmS x.n = false then erV 8 else if isB x.n = true then erV 8 else if isN2 x.n = true then erV 8 else if eF (eP2 x.ps) x.ps.length = 0 then (if ctS x.v = true then erV 5 else erV 0) else erV (eF (eP2 x.ps) x.ps.length)) := by
    show _ = _
    unfold eL
    repeat' split
    all_goals rfl
  have H1 : Hid ((x.n.toList == [66, 69, 71, 73, 78]) = isB x.n) := rfl
  have H2 : Hid ((x.n.toList == [69, 78, 68]) = isN2 x.n) := rfl
  have hc := HW.out.bx.cells
  obtain ⟨c0, c1, c2⟩ := hc
  clear h ho
  generalize erV (eL x) = R at *
  cases hn : nmS x.n
  · have hR := HE.out
    rw [if_pos hn, erV_no (by decide)] at hR
    subst hR
    rw [hn] at KN
    clear hn HE
    go_enter Tryd.func42, Tryd.ntmps42
    go_wp2_with (go_at_call 41; refine (KN.out _).mono ?_; rintro e w' ⟨rfl, rfl⟩)
    go_ret
    exact ⟨rfl, HW.out.be⟩
  · rw [hn] at KN
    have hE := HE.out
    rw [if_neg (by rw [hn]; simp)] at hE
    cases h1 : isB x.n
    · rw [if_neg (by rw [h1]; simp)] at hE
      have q1 := H1.out
      rw [h1] at q1
      cases h2 : isN2 x.n
      · rw [if_neg (by rw [h2]; simp)] at hE
        have q2 := H2.out
        rw [h2] at q2
        have HE2 := hide hE
        clear hE HE hn h1 h2
        go_enter Tryd.func42, Tryd.ntmps42
        go_wp2_with (go_at_call 41; refine (KN.out _).mono ?_; rintro e w' ⟨rfl, rfl⟩)
        go_loopw [24] (fun i wr => ∃ k : Nat, k ≤ x.ps.length ∧ i = .int .i64 k ∧ eF (eP2 x.ps) k = 0 ∧ LW w x A c wr) (fun i _ => x.ps.length - (intOf i).toNat)
        case atStart => exact ⟨0, by omega, rfl, rfl, HW.out⟩
        case round =>
          clear c0 c1 c2
          obtain ⟨k, hk, rfl, hall, hw⟩ := hrel
          by_cases hlt : k < x.ps.length
          · have hi : (k : Int) < x.ps.length := by omega
            obtain ⟨ad, Av, cv, hA, p0, p1, hs⟩ := hw.ps k hlt
            subst hA
            have KP := hide (fun W (hb : Below wr.heap.size wr W) => checkParam_any x.ps[k] Av cv W (hs.later hb) (HO.out.p k hlt))
            have HK : Hid (eP2 x.ps k = eP x.ps[k]) := by
              show _ = _
              unfold eP2
              rw [List.getElem?_eq_getElem hlt]
            have HAL := hide hall
            have HW2 := hide hw
            clear hall hw hs
            generalize x.ps[k] = y at *
            have hb1 : Below wr.heap.size wr (wr.alloc (.cells #[.string y.n, .slice Av y.vs.length cv] 58)) := (Below.refl _ wr).alloc (Nat.le_refl _) _
            have KP2 := hide (KP.out _ hb1)
            have HB1 := hide hb1
            clear KP hb1
            by_cases he : eP y = 0
            · rw [he, erV0] at KP2
              have hn : eF (eP2 x.ps) (k + 1) = 0 := by
                unfold eF
                rw [if_pos HAL.out, HK.out, he]
              have HN := hide hn
              clear hn he HK HAL
              go_wp2_with fail
              refine KP2.out.mono ?_
              rintro e W2 ⟨rfl, b2⟩
              have HW3 := hide (HW2.out.later (HB1.out.trans (b2.mono HB1.out.size)))
              clear b2
              go_wp2
              go_roundw
              case rel => exact ⟨k + 1, by omega, by go_num, HN.out, HW3.out⟩
              case measure => simp [intOf]; omega
            · have hn : eF (eP2 x.ps) x.ps.length = eP y := by rw [eF_at hlt HAL.out (by rw [HK.out]; exact he), HK.out]
              have hR := HE2.out
              rw [if_neg (by rw [hn]; exact he), hn, erV_no he] at hR
              subst hR
              rw [erV_no he] at KP2
              clear hn HK HAL HE2
              go_wp2_with fail
              refine KP2.out.mono ?_
              rintro e W2 ⟨rfl, b2⟩
              have HW3 := hide (HW2.out.later (HB1.out.trans (b2.mono HB1.out.size)))
              clear b2
              go_wp2
              go_ret
              exact ⟨rfl, HW3.out.be⟩
          · obtain rfl : k = x.ps.length := by omega
            have hi : ¬ (x.ps.length : Int) < x.ps.length := by omega
            have hR := HE2.out
            rw [if_pos hall] at hR
            obtain ⟨c0, c1, c2⟩ := hw.bx.cells
            have HW2 := hide hw
            clear hall hw HE2
            cases hv : ctS x.v
            · rw [hv, if_neg (by simp), erV0] at hR
              subst hR
              rw [hv] at KC
              clear hv
              go_wp2_with (go_at_call 55; refine (KC.out _).mono ?_; rintro e w' ⟨rfl, rfl⟩)
              go_ret
              exact ⟨rfl, HW2.out.be⟩
            · rw [hv, if_pos rfl, erV_no (by decide)] at hR
              subst hR
              rw [hv] at KC
              clear hv
              go_wp2_with (go_at_call 55; refine (KC.out _).mono ?_; rintro e w' ⟨rfl, rfl⟩)
              go_ret
              exact ⟨rfl, HW2.out.be⟩
      · rw [if_pos h2, erV_no (by decide)] at hE
        subst hE
        have q2 := H2.out
        rw [h2] at q2
        clear HE hn h1 h2
        go_enter Tryd.func42, Tryd.ntmps42
        go_wp2_with (go_at_call 41; refine (KN.out _).mono ?_; rintro e w' ⟨rfl, rfl⟩)
        go_ret
        exact ⟨rfl, HW.out.be⟩
    · rw [if_pos h1, erV_no (by decide)] at hE
      subst hE
      have q1 := H1.out
      rw [h1] at q1
      clear HE hn h1
      go_enter Tryd.func42, Tryd.ntmps42
      go_wp2_with (go_at_call 41; refine (KN.out _).mono ?_; rintro e w' ⟨rfl, rfl⟩)
      go_ret
      exact ⟨rfl, HW.out.be⟩
end Go.Proofs.YtponocolfjkapaaDoor
namespace Go.Proofs.YtponocolfjkapaaDoor
open Go.RowKit Go.Shelf
set_option linter.unusedVariables false
set_option linter.unusedSimpArgs false

/-- a list of lines in memory -/
def LS (A : Option Addr) (l : List PLn) (W : World) : Prop := ∀ k, (h : k < l.length) → ∃ ad Av c, A = some ad ∧ W.cell? (ad.add (k * 3)) = some (.string l[k].n) ∧ W.cell? ⟨(ad.add (k * 3)).block, (ad.add (k * 3)).off + 1, none⟩ = some (.slice Av l[k].ps.length c) ∧ W.cell? ⟨(ad.add (k * 3)).block, (ad.add (k * 3)).off + 2, none⟩ = some (.string l[k].v) ∧ PS Av l[k].ps W ∧ LnOk l[k]
theorem LS.later {A : Option Addr} {l : List PLn} {W W' : World} (h : LS A l W) (hb : Below W.heap.size W W') : LS A l W' := fun k hk => by
  obtain ⟨ad, Av, c, e, h1, h2, h3, h4, h5⟩ := h k hk
  exact ⟨ad, Av, c, e, (hb.cell (World.block_lt_of_cell? _ _ h1)).trans h1, (hb.cell (World.block_lt_of_cell? _ _ h2)).trans h2, (hb.cell (World.block_lt_of_cell? _ _ h3)).trans h3, h4.later hb, h5⟩
/-- a part -/
inductive PPt where
  | mk (n : ByteArray) (ls : List PLn) (ks : List PPt)
mutual
/-- a value tells a part, in memory -/
def PtM : PPt → Value → World → Prop
  | .mk nm ls ks, v, W => nm.size ≤ 1000000000 ∧ ls.length ≤ 1000000000 ∧ ks.length ≤ 1000000000 ∧ ∃ A c A2 c2, v = .agg #[.string nm, .slice A ls.length c, .slice A2 ks.length c2] ∧ LS A ls W ∧ KsM ks A2 0 W
def KsM : List PPt → Option Addr → Nat → World → Prop
  | [], _, _, _ => True
  | k :: ks, A, i, W => (∃ ad a b c, A = some ad ∧ W.cell? (ad.add (i * 3)) = some a ∧ W.cell? ⟨(ad.add (i * 3)).block, (ad.add (i * 3)).off + 1, none⟩ = some b ∧ W.cell? ⟨(ad.add (i * 3)).block, (ad.add (i * 3)).off + 2, none⟩ = some c ∧ PtM k (.agg #[a, b, c]) W) ∧ KsM ks A (i + 1) W
end
mutual
theorem PtM.later {W W' : World} (hb : Below W.heap.size W W') : ∀ (t : PPt) (v : Value), PtM t v W → PtM t v W'
  | .mk nm ls ks, v, h => by
    unfold PtM at h ⊢
    obtain ⟨h1, h2, h3, A, c, A2, c2, e, h4, h5⟩ := h
    exact ⟨h1, h2, h3, A, c, A2, c2, e, h4.later hb, KsM.later hb ks A2 0 h5⟩
theorem KsM.later {W W' : World} (hb : Below W.heap.size W W') : ∀ (ks : List PPt) (A : Option Addr) (i : Nat), KsM ks A i W → KsM ks A i W'
  | [], _, _, _ => by unfold KsM; trivial
  | k :: ks, A, i, h => by
    unfold KsM at h ⊢
    obtain ⟨⟨ad, a, b, c, e, h1, h2, h3, h4⟩, h5⟩ := h
    exact ⟨⟨ad, a, b, c, e, (hb.cell (World.block_lt_of_cell? _ _ h1)).trans h1, (hb.cell (World.block_lt_of_cell? _ _ h2)).trans h2, (hb.cell (World.block_lt_of_cell? _ _ h3)).trans h3, PtM.later hb k _ h4⟩, KsM.later hb ks A (i + 1) h5⟩
end
theorem KsM.at {W : World} : ∀ {ks : List PPt} {A : Option Addr} {i : Nat}, KsM ks A i W → ∀ k (h : k < ks.length), ∃ ad a b c, A = some ad ∧ W.cell? (ad.add ((i + k) * 3)) = some a ∧ W.cell? ⟨(ad.add ((i + k) * 3)).block, (ad.add ((i + k) * 3)).off + 1, none⟩ = some b ∧ W.cell? ⟨(ad.add ((i + k) * 3)).block, (ad.add ((i + k) * 3)).off + 2, none⟩ = some c ∧ PtM ks[k] (.agg #[a, b, c]) W
  | [], _, _, _, k, hk => absurd hk (Nat.not_lt_zero _)
  | x :: ks, A, i, h, 0, hk => by
    unfold KsM at h
    exact h.1
  | x :: ks, A, i, h, k + 1, hk => by
    unfold KsM at h
    have := KsM.at h.2 k (by simpa using hk)
    rw [show i + 1 + k = i + (k + 1) by omega] at this
    exact this
def eL2 (l : List PLn) (k : Nat) : Int := match l[k]? with | some x => eL x | none => 0
mutual
/-- what is wrong with a part; the lines that were counted -/
def chk : PPt → Int → Int → Int × Int
  | .mk nm ls ks, d, n => if 8 < d then (6, n + ls.length + 2) else if 2000 < n + ls.length + 2 then (6, n + ls.length + 2) else if nmS nm = false then (8, n + ls.length + 2) else if eF (eL2 ls) ls.length = 0 then chks ks (d + 1) (n + ls.length + 2) else (eF (eL2 ls) ls.length, n + ls.length + 2)
def chks : List PPt → Int → Int → Int × Int
  | [], _, n => (0, n)
  | k :: ks, d, n => if (chk k d n).1 = 0 then chks ks d (chk k d n).2 else chk k d n
end
theorem chks_step : ∀ (ks : List PPt) (d n m : Int) (k : Nat) (h : k < ks.length), chks (ks.take k) d n = (0, m) → chks (ks.take (k + 1)) d n = chk ks[k] d m
  | x :: ks, d, n, m, 0, h, e => by
    have e0 : n = m := by
      have : chks ([] : List PPt) d n = (0, m) := e
      unfold chks at this
      exact (Prod.mk.inj this).2
    subst e0
    show chks [x] d n = chk x d n
    unfold chks
    split
    · rename_i h0
      unfold chks
      exact Prod.ext h0.symm rfl
    · rfl
  | x :: ks, d, n, m, k + 1, h, e => by
    have e1 : chks (x :: ks.take k) d n = (0, m) := e
    have hk : k < ks.length := by simpa using h
    show chks (x :: ks.take (k + 1)) d n = chk ks[k] d m
    unfold chks at e1 ⊢
    split at e1
    · rename_i h0
      rw [if_pos h0]
      exact chks_step ks d _ m k (by simpa using h) e1
    · rename_i h0
      rw [e1] at h0
      exact absurd rfl h0
theorem chks_stop : ∀ (ks : List PPt) (d n m : Int) (k : Nat) (h : k < ks.length), chks (ks.take k) d n = (0, m) → (chk ks[k] d m).1 ≠ 0 → chks ks d n = chk ks[k] d m
  | x :: ks, d, n, m, 0, h, e, h1 => by
    have e0 : n = m := by
      have : chks ([] : List PPt) d n = (0, m) := e
      unfold chks at this
      exact (Prod.mk.inj this).2
    subst e0
    show chks (x :: ks) d n = chk x d n
    replace h1 : (chk x d n).1 ≠ 0 := h1
    unfold chks
    rw [if_neg h1]
  | x :: ks, d, n, m, k + 1, h, e, h1 => by
    have e1 : chks (x :: ks.take k) d n = (0, m) := e
    have hk : k < ks.length := by simpa using h
    show chks (x :: ks) d n = chk ks[k] d m
    unfold chks at e1 ⊢
    split at e1
    · rename_i h0
      rw [if_pos h0]
      exact chks_stop ks d _ m k (by simpa using h) e1 h1
    · rename_i h0
      rw [e1] at h0
      exact absurd rfl h0
/-- counted lines stay within bounds -/
theorem chks_all (ks : List PPt) (d n m : Int) (h : chks (ks.take ks.length) d n = (0, m)) : chks ks d n = (0, m) := by rwa [List.take_length] at h
end Go.Proofs.YtponocolfjkapaaDoor
namespace Go.Proofs.YtponocolfjkapaaDoor
open Go.RowKit Go.Shelf
set_option linter.unusedVariables false
set_option linter.unusedSimpArgs false

/-- all that lay is as it was, but for one block -/
structure KB (B : Nat) (w w' : World) : Prop where
  os : w'.os = w.os
  tape : w'.tape = w.tape
  output : w'.output = w.output
  size : w.heap.size ≤ w'.heap.size
  block : ∀ k, k < w.heap.size → k ≠ B → w'.heap[k]? = w.heap[k]?
theorem KB.refl (B : Nat) (w : World) : KB B w w := ⟨rfl, rfl, rfl, Nat.le_refl _, fun _ _ _ => rfl⟩
theorem KB.trans {B : Nat} {w w' w'' : World} (h : KB B w w') (k : KB B w' w'') : KB B w w'' :=
  ⟨k.os.trans h.os, k.tape.trans h.tape, k.output.trans h.output, Nat.le_trans h.size k.size, fun i hi hne => (k.block i (Nat.lt_of_lt_of_le hi h.size) hne).trans (h.block i hi hne)⟩
theorem KB.of_below {B : Nat} {w w' : World} (h : Below w.heap.size w w') : KB B w w' := ⟨h.os, h.tape, h.output, h.size, fun k hk _ => h.block k hk⟩
theorem KB.set {B : Nat} {w w' : World} (h : KB B w w') (v : Value) : KB B w (w'.setCell ⟨B, 0, none⟩ v) :=
  ⟨h.os, h.tape, h.output, Nat.le_trans h.size (KeepsWalks.setCell _ _ _).size, fun k hk hne => (Below.heap_setCell _ _ _ k (fun e => hne e)).trans (h.block k hk hne)⟩
def noInt (v : Value) : Prop := ∀ i, v ≠ .int .i64 i
theorem cell_kb {B : Nat} {w w' : World} {t : TypeId} {n : Int} (h : KB B w w') (hb : Boxed w B t (.int .i64 n)) {p : Addr} {v : Value} (hc : w.cell? p = some v) (hn : noInt v) : w'.cell? p = some v := by
  by_cases e : p.block = B
  · exfalso
    unfold World.cell? at hc
    rw [e, show w.heap[B]? = _ from hb] at hc
    simp only [] at hc
    match ho : p.off with
    | 0 => rw [ho] at hc; simp at hc; exact hn n hc.2.symm
    | k + 1 => rw [ho] at hc; simp at hc
  · exact (World.cell?_of_block (w := w) (h.block p.block (World.block_lt_of_cell? _ _ hc) e)).trans hc
theorem noInt_str (s : ByteArray) : noInt (.string s) := fun i e => by cases e
theorem noInt_slice (A : Option Addr) (n c : Nat) : noInt (.slice A n c) := fun i e => by cases e
section
variable {B : Nat} {w w' : World} {t : TypeId} {n : Int} (h : KB B w w') (hb : Boxed w B t (.int .i64 n))
include h hb
theorem SL.kb {A : Option Addr} {l : List ByteArray} (hs : SL A l w) : SL A l w' := fun k hk => by
  obtain ⟨ad, e, hc⟩ := hs k hk
  exact ⟨ad, e, cell_kb h hb hc (noInt_str _)⟩
theorem PS.kb {A : Option Addr} {l : List PPm} (hs : PS A l w) : PS A l w' := fun k hk => by
  obtain ⟨ad, Av, c, e, h1, h2, h3⟩ := hs k hk
  exact ⟨ad, Av, c, e, cell_kb h hb h1 (noInt_str _), cell_kb h hb h2 (noInt_slice _ _ _), h3.kb h hb⟩
theorem LS.kb {A : Option Addr} {l : List PLn} (hs : LS A l w) : LS A l w' := fun k hk => by
  obtain ⟨ad, Av, c, e, h1, h2, h3, h4, h5⟩ := hs k hk
  exact ⟨ad, Av, c, e, cell_kb h hb h1 (noInt_str _), cell_kb h hb h2 (noInt_slice _ _ _), cell_kb h hb h3 (noInt_str _), h4.kb h hb, h5⟩
end
mutual
theorem PtM.kb {B : Nat} {w w' : World} {t : TypeId} {n : Int} (h : KB B w w') (hb : Boxed w B t (.int .i64 n)) : ∀ (x : PPt) (v : Value), PtM x v w → PtM x v w'
  | .mk nm ls ks, v, hp => by
    unfold PtM at hp ⊢
    obtain ⟨h1, h2, h3, A, c, A2, c2, e, h4, h5⟩ := hp
    exact ⟨h1, h2, h3, A, c, A2, c2, e, h4.kb h hb, KsM.kb h hb ks A2 0 h5⟩
theorem KsM.kb {B : Nat} {w w' : World} {t : TypeId} {n : Int} (h : KB B w w') (hb : Boxed w B t (.int .i64 n)) : ∀ (ks : List PPt) (A : Option Addr) (i : Nat), KsM ks A i w → KsM ks A i w'
  | [], _, _, _ => by unfold KsM; trivial
  | k :: ks, A, i, hp => by
    unfold KsM at hp ⊢
    obtain ⟨⟨ad, a, b, c, e, h1, h2, h3, h4⟩, h5⟩ := hp
    have h6 := h4
    cases k with
    | mk nm ls ks' =>
      unfold PtM at h6
      obtain ⟨_, _, _, A', c', A2', c2', e', _, _⟩ := h6
      simp only [Value.agg.injEq, Array.mk.injEq, List.cons.injEq, and_true] at e'
      obtain ⟨rfl, rfl, rfl⟩ := e'
      exact ⟨⟨ad, _, _, _, e, cell_kb h hb h1 (noInt_str _), cell_kb h hb h2 (noInt_slice _ _ _), cell_kb h hb h3 (noInt_slice _ _ _), PtM.kb h hb _ _ h4⟩, KsM.kb h hb ks A (i + 1) h5⟩
end
end Go.Proofs.YtponocolfjkapaaDoor
