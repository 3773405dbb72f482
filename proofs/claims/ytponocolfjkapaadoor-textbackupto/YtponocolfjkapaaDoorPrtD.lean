/- package text: lines and params in memory; checkParam, checkLine. -/
import Derived.Test.YtponocolfjkapaaDoorPrtC
import Derived.RangeFuncBox
namespace Go.Proofs.YtponocolfjkapaaDoor
open Go.RowKit Go.Shelf
set_option linter.unusedVariables false
set_option linter.unusedSimpArgs false

/-- a param; a line -/
structure PPm where
  n : ByteArray
  vs : List ByteArray
structure PLn where
  n : ByteArray
  ps : List PPm
  v : ByteArray
structure PmOk (x : PPm) : Prop where
  n : x.n.size ≤ 1000000000
  l : x.vs.length ≤ 1000000000
  v : ∀ k (h : k < x.vs.length), x.vs[k].size ≤ 1000000000
structure LnOk (x : PLn) : Prop where
  n : x.n.size ≤ 1000000000
  l : x.ps.length ≤ 1000000000
  p : ∀ k (h : k < x.ps.length), PmOk x.ps[k]
  v : x.v.size ≤ 1000000000
/-- may a text be a param's value? -/
def vB (s : ByteArray) : Bool := !ctS s && !hasB s 34
/-- what is wrong with a param -/
def eP (x : PPm) : Int := if nmS x.n = false then 8 else if x.vs.length = 0 then 13 else if Crn.allB (fun k => vB (x.vs.getD k ByteArray.empty)) x.vs.length = true then 0 else 5
/-- an error of api, or none -/
def erV (k : Int) : Value := if k = 0 then .nilIface else .iface 26 (.int .i64 k)
theorem erV0 : erV 0 = .nilIface := rfl
theorem erV_no {k : Int} (h : k ≠ 0) : erV k = .iface 26 (.int .i64 k) := if_neg h
/-- a param's box -/
def PmBox (W : World) (B : Nat) (x : PPm) (A : Option Addr) (c : Nat) : Prop := W.heap[B]? = some (.cells #[.string x.n, .slice A x.vs.length c] 58 (0, 0))
theorem PmBox.lt {W : World} {B : Nat} {x : PPm} {A : Option Addr} {c : Nat} (h : PmBox W B x A c) : B < W.heap.size := (Array.getElem?_eq_some_iff.1 h).1
theorem PmBox.later {W W' : World} {B : Nat} {x : PPm} {A : Option Addr} {c : Nat} (h : PmBox W B x A c) (hb : Below W.heap.size W W') : PmBox W' B x A c := (hb.block B h.lt).trans h
theorem PmBox.cells {W : World} {B : Nat} {x : PPm} {A : Option Addr} {c : Nat} (h : PmBox W B x A c) : W.cell? ⟨B, 0, none⟩ = some (.string x.n) ∧ W.cell? ⟨B, 1, none⟩ = some (.slice A x.vs.length c) :=
  ⟨cell_of_row _ _ _ _ _ (0, 0) h, cell_of_row _ _ _ _ _ (0, 0) h⟩
set_option maxRecDepth 100000 in
set_option maxHeartbeats 4000000 in
theorem checkParam_any (x : PPm) (A : Option Addr) (c : Nat) (w : World) (h : SL A x.vs w) (ho : PmOk x) :
    Calls Tryd.prog 54 #[.agg #[.string x.n, .slice A x.vs.length c]] w fun e w' => e = .returned (erV (eP x)) ∧ Below w.heap.size w w' := by
  have hl := ho.l
  have KN := hide (fun W => isName_any x.n W ho.n)
  have KV := hide (fun k (hk : k < x.vs.length) W => isParam_any x.vs[k] W (ho.v k hk))
  have HL := hide (fun W (hb : Below w.heap.size w W) => h.later hb)
  have hB0 : Below w.heap.size w (w.alloc (.cells #[.string x.n, .slice A x.vs.length c] 58)) := (Below.refl _ w).alloc (Nat.le_refl _) _
  have HE : Hid (erV (eP x) = if nmS x.n = false then erV 8 else if x.vs.length = 0 then erV 13 else if Crn.allB (fun k => vB (x.vs.getD k ByteArray.empty)) x.vs.length = true then erV 0 else erV 5) := by
    show _ = _
    unfold eP
    repeat' split
    all_goals rfl
  have HV : Hid (∀ k (hk : k < x.vs.length), (!ctS x.vs[k] && !hasB x.vs[k] 34) = vB (x.vs.getD k ByteArray.empty)) := fun k hk => by
    rw [List.getD_eq_getElem?_getD, List.getElem?_eq_getElem hk]; rfl
  have HB := hide hB0
  have hc0 : (w.alloc (.cells #[.string x.n, .slice A x.vs.length c] 58)).cell? ⟨w.heap.size, 0, none⟩ = some (.string x.n) := cell_of_row _ _ _ _ _ (0, 0) (World.alloc_heap_new w _)
  have hc1 : (w.alloc (.cells #[.string x.n, .slice A x.vs.length c] 58)).cell? ⟨w.heap.size, 1, none⟩ = some (.slice A x.vs.length c) := cell_of_row _ _ _ _ _ (0, 0) (World.alloc_heap_new w _)
  clear ho h hB0
  generalize erV (eP x) = R at *
  cases hn : nmS x.n
  · have hR := HE.out
    rw [if_pos hn, erV_no (by decide)] at hR
    subst hR
    rw [hn] at KN
    go_enter Tryd.func54, Tryd.ntmps54
    go_wp2_with (go_at_call 41; refine (KN.out _).mono ?_; rintro e w' ⟨rfl, rfl⟩)
    go_ret
    exact ⟨rfl, HB.out⟩
  · rw [hn] at KN
    have hE2 := HE.out
    rw [if_neg (by rw [hn]; simp)] at hE2
    rcases Nat.eq_zero_or_pos x.vs.length with h0 | h0
    · rw [if_pos h0, erV_no (by decide)] at hE2
      subst hE2
      clear hn hl KV HL HV HE
      rw [h0] at hc1 ⊢
      go_enter Tryd.func54, Tryd.ntmps54
      go_wp2_with (go_at_call 41; refine (KN.out _).mono ?_; rintro e w' ⟨rfl, rfl⟩)
      go_ret
      exact ⟨rfl, (Below.refl _ w).alloc (Nat.le_refl _) _⟩
    · rw [if_neg (by omega)] at hE2
      have HE3 := hide hE2
      obtain ⟨ad, hA, _⟩ := HL.out w (Below.refl _ _) 0 h0
      subst hA
      have hi0 : ((x.vs.length : Int) == 0) = false := by rw [beq_eq_false_iff_ne]; omega
      clear hn HE hE2
      go_enter Tryd.func54, Tryd.ntmps54
      go_wp2_with (go_at_call 41; refine (KN.out _).mono ?_; rintro e w' ⟨rfl, rfl⟩)
      go_loopw [18] (fun i wr => ∃ k : Nat, k ≤ x.vs.length ∧ i = .int .i64 k ∧ Crn.allB (fun k => vB (x.vs.getD k ByteArray.empty)) k = true ∧ Below w.heap.size w wr) (fun i _ => x.vs.length - (intOf i).toNat)
      case atStart => exact ⟨0, by omega, rfl, rfl, HB.out⟩
      case round =>
        clear hc0 hc1
        obtain ⟨k, hk, rfl, hall, hb⟩ := hrel
        by_cases hlt : k < x.vs.length
        · have hi : (k : Int) < x.vs.length := by omega
          obtain ⟨ad', hA, hc⟩ := (HL.out wr hb) k hlt
          cases hA
          have KV2 := hide (KV.out k hlt)
          rw [HV.out k hlt] at KV2
          have hst : Crn.allB (fun k => vB (x.vs.getD k ByteArray.empty)) (k + 1) = (Crn.allB (fun k => vB (x.vs.getD k ByteArray.empty)) k && vB (x.vs.getD k ByteArray.empty)) := rfl
          rw [hall, Bool.true_and] at hst
          have HS := hide hst
          have HW := hide hb
          clear hst hall hb
          generalize x.vs[k] = v at *
          cases hv : vB (x.vs.getD k ByteArray.empty)
          · rw [hv] at KV2
            have hR := HE3.out
            rw [if_neg (by rw [Crn.allB_no hv _ hlt]; simp), erV_no (by decide)] at hR
            subst hR
            clear hv HE3 HS
            go_wp2_with (go_at_call 63; refine (KV2.out _).mono ?_; rintro e w' ⟨rfl, rfl⟩)
            go_ret
            exact ⟨rfl, HW.out⟩
          · rw [hv] at KV2
            have hn := HS.out
            rw [hv] at hn
            have HN := hide hn
            clear hn hv HS
            go_wp2_with (go_at_call 63; refine (KV2.out _).mono ?_; rintro e w' ⟨rfl, rfl⟩)
            go_roundw
            case rel => exact ⟨k + 1, by omega, by go_num, HN.out, HW.out⟩
            case measure => simp [intOf]; omega
        · obtain rfl : k = x.vs.length := by omega
          have hi : ¬ (x.vs.length : Int) < x.vs.length := by omega
          have hR := HE3.out
          rw [if_pos hall, erV0] at hR
          subst hR
          have HW := hide hb
          clear hall hb HE3
          go_wp2
          go_ret
          exact ⟨rfl, HW.out⟩
end Go.Proofs.YtponocolfjkapaaDoor
