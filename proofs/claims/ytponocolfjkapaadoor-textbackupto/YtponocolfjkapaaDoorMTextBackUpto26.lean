/- PartCheck of the reference; plain.TextCheck. -/
import Derived.Test.YtponocolfjkapaaDoorMTextBackUpto24
import Derived.Test.YtponocolfjkapaaDoorMTextBackUpto10
import Derived.Test.YtponocolfjkapaaDoorMTextBackUpto25
namespace Go.Proofs.YtponocolfjkapaaDoor
open Go.RowKit Go.Shelf
set_option linter.unusedVariables false
set_option linter.unusedSimpArgs false

/-- what is wrong with a part -/
def eT (t : PPt) : Int := (chk t 1 0).1
/-- a part's value: three cells -/
theorem PtM.agg {t : PPt} {v : Value} {w : World} (h : PtM t v w) : ∃ nm A n c A2 n2 c2, v = .agg #[.string nm, .slice A n c, .slice A2 n2 c2] := by
  cases t with
  | mk nm ls ks =>
    unfold PtM at h
    obtain ⟨_, _, _, A, c, A2, c2, e, _, _⟩ := h
    exact ⟨nm, A, _, c, A2, _, c2, e⟩
theorem KB.below {B n : Nat} {w X w' : World} (h : Below n w X) (hn : n ≤ w.heap.size) (hB : n ≤ B) (k : KB B X w') : Below n w w' :=
  ⟨k.os.trans h.os, k.tape.trans h.tape, k.output.trans h.output, Nat.le_trans h.size k.size, fun i hi => (k.block i (by have := h.size; omega) (by omega)).trans (h.block i hi)⟩
set_option maxHeartbeats 2000000 in
theorem tcheck_any (t : PPt) (v : Value) (w : World) (h : PtM t v w) :
    Calls Tryd.prog 17 #[v] w fun e w' => e = .returned (erV (eT t)) ∧ Below w.heap.size w w' := by
  have K := hide (fun B (X : World) (hx : Below w.heap.size w X) (hb : Boxed X B 66 (.int .i64 0)) => part_any t v B 1 0 X (PtM.later hx _ _ h) hb (by omega) (by omega) (by omega) (by omega))
  have HE : Hid (erV (chk t 1 0).1 = erV (eT t)) := rfl
  generalize erV (eT t) = V at HE ⊢
  obtain ⟨nm, A, n, c, A2, n2, c2, rfl⟩ := h.agg
  clear h
  go_enter Tryd.func17, Tryd.ntmps17
  go_wp2_with fail
  have hx : Below w.heap.size w ((w.alloc (.cells #[.string nm, .slice A n c, .slice A2 n2 c2] 25)).alloc (.cells #[.int .i64 0] 66)) := ((Below.refl _ w).alloc (Nat.le_refl _) _).alloc (by simp) _
  have hb := Boxed.new (w.alloc (.cells #[.string nm, .slice A n c, .slice A2 n2 c2] 25)) 66 (.int .i64 0)
  rw [World.size_alloc] at hb
  refine (K.out _ _ hx hb).mono ?_
  rintro e W ⟨rfl, _, hk⟩
  rw [HE.out]
  have hB := KB.below hx (Nat.le_refl _) (by omega) hk
  clear hk hx hb K HE
  go_wp2
  go_ret
  exact ⟨rfl, hB⟩
end Go.Proofs.YtponocolfjkapaaDoor
namespace Go.Proofs.YtponocolfjkapaaDoor
open Go.RowKit Go.Shelf
set_option linter.unusedVariables false
set_option linter.unusedSimpArgs false

set_option maxHeartbeats 2000000 in
theorem rPartCheck_any (t : PPt) (v : Value) (w : World) (h : PtM t v w) :
    Calls Tryd.prog 8 #[v] w fun e w' => e = .returned (.int .i64 (eT t)) ∧ Below w.heap.size w w' := by
  have K := hide (fun B (X : World) (hx : Below w.heap.size w X) (hb : Boxed X B 3 (.int .i64 0)) => rpart_any t v B 1 0 X (PtM.later hx _ _ h) hb (by omega) (by omega) (by omega) (by omega))
  have HE : Hid ((chk t 1 0).1 = eT t) := rfl
  generalize eT t = V at HE ⊢
  obtain ⟨nm, A, n, c, A2, n2, c2, rfl⟩ := h.agg
  clear h
  go_enter Tryd.func8, Tryd.ntmps8
  go_wp2_with fail
  have hx : Below w.heap.size w ((w.alloc (.cells #[.string nm, .slice A n c, .slice A2 n2 c2] 25)).alloc (.cells #[.int .i64 0] 3)) := ((Below.refl _ w).alloc (Nat.le_refl _) _).alloc (by simp) _
  have hb := Boxed.new (w.alloc (.cells #[.string nm, .slice A n c, .slice A2 n2 c2] 25)) 3 (.int .i64 0)
  rw [World.size_alloc] at hb
  refine (K.out _ _ hx hb).mono ?_
  rintro e W ⟨rfl, _, hk⟩
  rw [HE.out]
  have hB := KB.below hx (Nat.le_refl _) (by omega) hk
  clear hk hx hb K HE
  go_wp2
  go_ret
  exact ⟨rfl, hB⟩
set_option maxHeartbeats 2000000 in
theorem ptextCheck_any (t : PPt) (v : Value) (w : World) (hd : Hd w) (h : PtM t v w) :
    Calls Tryd.prog 7 #[v] w fun e w' => e = .returned (.int .i64 (eT t)) ∧ Below w.heap.size w w' := by
  have K := hide (fun (X : World) (hx : Below w.heap.size w X) => tcheck_any t v X (PtM.later hx _ _ h))
  have HH := hide (fun (X : World) (hx : Below w.heap.size w X) => hd.later hx)
  obtain ⟨nm, A, n, c, A2, n2, c2, rfl⟩ := h.agg
  clear h hd
  generalize eT t = k at *
  have hx : Below w.heap.size w (w.alloc (.cells #[.string nm, .slice A n c, .slice A2 n2 c2] 25)) := (Below.refl _ w).alloc (Nat.le_refl _) _
  have HX := hide hx
  clear hx
  by_cases hk : k = 0
  · subst hk
    rw [erV0] at K
    go_enter Tryd.func7, Tryd.ntmps7
    go_wp2_with fail
    refine (K.out _ HX.out).mono ?_
    rintro e W1 ⟨rfl, b1⟩
    have hB := HX.out.trans (b1.mono HX.out.size)
    clear b1
    go_wp2_with fail
    refine (tell_nil _).mono ?_
    rintro e W2 ⟨rfl, b2⟩
    have hB2 := hB.trans (b2.mono hB.size)
    go_wp2
    go_ret
    exact ⟨rfl, hB2⟩
  · rw [erV_no hk] at K
    go_enter Tryd.func7, Tryd.ntmps7
    go_wp2_with fail
    refine (K.out _ HX.out).mono ?_
    rintro e W1 ⟨rfl, b1⟩
    have hB := HX.out.trans (b1.mono HX.out.size)
    clear b1
    go_wp2_with fail
    refine (tell_err k _ (HH.out _ hB)).mono ?_
    rintro e W2 ⟨rfl, b2⟩
    have hB2 := hB.trans (b2.mono hB.size)
    go_wp2
    go_ret
    exact ⟨rfl, hB2⟩
end Go.Proofs.YtponocolfjkapaaDoor
