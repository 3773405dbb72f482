/- What a row gives a walk that lists two variables (package errors' type, the table of what follows of two ways); a world for the witness. -/
import Derived.Test.YtnaggcadmfmibaaDoorLawBase
import Derived.Test.YtnaggcadmfmibaaDoorSpnB
import Derived.LaidSub
import Derived.Lib.LaidTab
namespace Go.Proofs.YtnaggcadmfmibaaDoor
open Go.ChangeShapes Go.WideShapes Go.RowKit

def lstF : List (String × DataW Unit) := [("errors.errorType", Rows.laid_errors_errorType), ("almanac/span.follows", Rows.laid_almanac_span_follows)]
theorem gFol : Tryd.prog.globalNamed "almanac/span.follows" = some 1 := by kernel_rfl
/-- the datum, row by row -/
def folData : DataW Unit := .agg (Spn.folT.map fun r => .agg (r.map fun n : Nat => .lit (.int .u16 (n : Int))))
theorem fol_data : (Rows.laid_almanac_span_follows : DataW Unit) = folData := by kernel_rfl
theorem row_cells {H : Type} {enc : TypeId × Value → H} {P : Program} {w : World} {base : Nat} {sp : Nat → Bool} {held : Bool} {fuel : Nat} {t e : TypeId} {n : Nat} {cs : List Value} {r : List Nat} {p : List MemPlace}
    (ht : P.underlying t = some (.array n e)) (he : P.underlying e = some (.int .u16)) (hce : P.cellsOf e = 1) (hct : P.cellsOf t = n)
    (h : DataW.trod enc P w base sp held fuel t cs = some (.agg (r.map fun n : Nat => .lit (.int .u16 (n : Int))), p)) : cs = r.map fun n : Nat => Value.int .u16 (n : Int) := by
  have := Lib.cells_of_tab (zs := r.map fun n : Nat => (n : Int)) ht he hce hct (by unfold Lib.tabData; rw [List.map_map]; exact h)
  rw [this, List.map_map]; rfl
theorem folT_row (i : Nat) (h : i < 13) : Spn.folT[i]? = some (Spn.folT.getD i []) ∧ (Spn.folT.getD i []).length = 13 := by
  have g : ∀ i : Fin 13, Spn.folT[i.1]? = some (Spn.folT.getD i.1 []) ∧ (Spn.folT.getD i.1 []).length = 13 := by decide +kernel
  exact g ⟨i, h⟩
theorem fol_cells {W : World} {base : Nat} {sp : Nat → Bool} {held : Bool} {fuel : Nat} {cs : List Value} {p : List MemPlace}
    (h : DataW.trod (fun _ => ()) Tryd.prog W base sp held fuel 141 cs = some (folData, p)) (i k : Nat) (hi : i < 13) (hk : k < 13) : cs[i * 13 + k]? = some (.int .u16 (Spn.fol i k : Nat)) := by
  obtain ⟨xs, m, rfl, hx, hl, hlen, hf⟩ := DataW.trod_array Tryd.underlying141 h
  have hc : Tryd.prog.cellsOf 140 = 13 := by kernel_rfl
  have h1 := hf i hi
  rw [hc] at h1
  have hm : xs.map (·.1) = Spn.folT.map fun r => DataW.agg (r.map fun n : Nat => .lit (.int .u16 (n : Int))) := by
    have := congrArg Prod.fst hx
    unfold folData at this
    simpa using this.symm
  obtain ⟨r1, r2⟩ := folT_row i hi
  have h2 : (xs.map (·.1))[i]? = some (DataW.agg ((Spn.folT.getD i []).map fun n : Nat => .lit (.int .u16 (n : Int)))) := by
    rw [hm, List.getElem?_map, r1]; rfl
  rw [List.getElem?_map] at h2
  obtain ⟨⟨d, q⟩, e1, e2⟩ := Option.map_eq_some_iff.1 h2
  simp only at e2
  subst e2
  rw [e1] at h1
  have h3 := row_cells Tryd.underlying140 Tryd.underlying138 (by kernel_rfl) hc h1
  have h4 := congrArg (·[k]?) h3
  simp only [List.getElem?_take, List.getElem?_drop, if_pos hk, List.getElem?_map] at h4
  rw [h4]
  unfold Spn.fol
  generalize Spn.folT.getD i [] = r at *
  rw [List.getElem?_eq_getElem (by omega)]
  simp [List.getD, r2, hk]
theorem ft_of_laid {W : World} (h : laidMetH Tryd.prog lstF W) : FT W := by
  have hd : Hd W := handle_of_laid (h.filter (fun x => x.1 == "errors.errorType"))
  have h1 := ((laidMetH_iff.1 h).1).filter (fun x => x.1 == "almanac/span.follows")
  have h2 : laidMet Tryd.prog [("almanac/span.follows", Rows.laid_almanac_span_follows)] W := h1
  rw [fol_data] at h2
  obtain ⟨ps, ⟨g', t', cs, fuel, p, q, hg', ht', hvar, hd', _, _⟩, _⟩ := h2
  obtain rfl := Option.some.inj (gFol.symm.trans hg')
  have hty : (Tryd.prog.globals[1]?).map (·.type) = some 141 := by kernel_rfl
  obtain rfl := Option.some.inj (hty.symm.trans ht')
  have hcell : ∀ i k : Nat, i < 13 → k < 13 → W.cell? ⟨1, i * 13 + k, none⟩ = some (.int .u16 (Spn.fol i k : Nat)) := fun i k hi hk => by
    rw [World.var?_cell gFol hvar, ← Array.getElem?_toList]
    exact fol_cells hd' i k hi hk
  refine ⟨hd, ?_, hcell⟩
  have := hcell 0 0 (by omega) (by omega)
  rcases Nat.lt_or_ge 1 W.heap.size with hlt | hge
  · exact hlt
  · unfold World.cell? at this
    rw [Array.getElem?_eq_none hge] at this
    cases this
def litCells : DataW Unit → Array Value
  | .agg l => (l.flatMap fun | .agg r => r.map (fun | .lit (.int k z) => Value.int k z | _ => .nilIface) | _ => []).toArray
  | _ => #[]
def layAt (h : Array Obj) (g : Nat) (cs : Array Value) : Array Obj := h.modify g fun
  | .cells _ t frozen => .cells cs t frozen
  | o => o
/-- A world that meets the condition. -/
noncomputable def laidWorldF (os : Os) : World :=
  let w0 := laidWorld os
  { w0 with heap := layAt w0.heap 1 (litCells Rows.laid_almanac_span_follows) }
set_option maxRecDepth 100000 in
theorem laidWorldF_met (os : Os) (args : Array Value) : laidMetH Tryd.prog lstF ((laidWorldF os).forCall (fun _ _ => 0) ⟨#[], args, []⟩).memory :=
  laidMetH_of_parts (laidMet_of_run' 200 (by kernel_rfl) (by kernel_rfl)) (by kernel_rfl)
end Go.Proofs.YtnaggcadmfmibaaDoor
