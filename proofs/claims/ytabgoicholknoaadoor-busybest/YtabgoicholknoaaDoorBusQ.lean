/- BusyBest: the law's walk, whole. -/
import Derived.Test.YtabgoicholknoaaDoorBusP
namespace Go.Proofs.YtabgoicholknoaaDoor
open Go.RowKit Go.Shelf Go.Maps
set_option linter.unusedVariables false
set_option linter.unusedSimpArgs false

set_option maxRecDepth 100000 in
set_option maxHeartbeats 2000000 in
theorem best_many (W : Wn) (mv sv : Value) (ad : Option Addr) (cap : Nat) (Zs : List (List (Int × Int))) (w : World) (h12 : 12 < Zs.length) :
    Calls Tryd.prog 3 #[wantV W mv sv, .slice ad Zs.length cap] w fun e w' => e = .returned (.bool true) ∧ Below w.heap.size w w' := by
  have hbx : Below w.heap.size w (w.alloc (wantC W mv sv)) := (Below.refl _ w).alloc (Nat.le_refl _) _
  have h12i : (12 : Int) < (Zs.length : Int) := by omega
  unfold wantV
  go_enter Tryd.func3, Tryd.ntmps3
  go_wp2
  go_ret
  exact ⟨rfl, hbx⟩
set_option maxRecDepth 100000 in
set_option maxHeartbeats 2000000 in
theorem best_long (W : Wn) (mv sv : Value) (ad : Option Addr) (cap : Nat) (Zs : List (List (Int × Int))) (w : World) (h12 : ¬ 12 < Zs.length) (D q : Int) (hD : wrap64 (W.to' - W.from') = D) (hq : wrap64 (D.tdiv W.step) = q) (b1 : 0 < W.step) (b2 : 400 < q) (b3 : q ≤ 10000) :
    Calls Tryd.prog 3 #[wantV W mv sv, .slice ad Zs.length cap] w fun e w' => e = .returned (.bool true) ∧ Below w.heap.size w w' := by
  have hbx : Below w.heap.size w (w.alloc (wantC W mv sv)) := (Below.refl _ w).alloc (Nat.le_refl _) _
  have h12i : ¬ (12 : Int) < (Zs.length : Int) := by omega
  have hst : W.step ≠ 0 := by omega
  unfold wantV
  go_enter Tryd.func3, Tryd.ntmps3
  go_wp2
  go_ret
  exact ⟨rfl, hbx⟩
theorem best_walk (W : Wn) (mv sv v : Value) (Zs : List (List (Int × Int))) (w : World) (hd : Hd w) (hm : IsAt w mv W.must) (hs : IsAt w sv W.should) (hwf : ∀ x ∈ W.must ++ W.should, (Lit.int .i64 x).wf = true) (hZ : ZsAt w v Zs) (fm : FormS mv) (fs : FormS sv) :
    Calls Tryd.prog 3 #[wantV W mv sv, v] w fun e w' => e = .returned (.bool true) ∧ Below w.heap.size w w' := by
  have hZ' := hZ
  obtain ⟨ad, cap, rfl, _⟩ := hZ
  by_cases h12 : 12 < Zs.length
  · exact best_many W mv sv ad cap Zs w h12
  · have hA : BArg W mv sv (.slice ad Zs.length cap) Zs w := ⟨hd, hm, hs, hwf, hZ', by omega, fm, fs⟩
    by_cases a1 : 0 < W.step
    · by_cases a2 : 400 < wrap64 ((wrap64 (W.to' - W.from')).tdiv W.step)
      · by_cases a3 : wrap64 ((wrap64 (W.to' - W.from')).tdiv W.step) ≤ 10000
        · exact best_long W mv sv ad cap Zs w h12 _ _ rfl rfl a1 a2 a3
        · exact best_far W mv sv ad cap Zs w hA _ _ rfl rfl a1 a2 (by omega)
      · exact best_some W mv sv ad cap Zs w hA _ _ rfl rfl a1 (by omega)
    · exact best_none W mv sv ad cap Zs w hA _ _ rfl rfl (by omega)
end Go.Proofs.YtabgoicholknoaaDoor
