/- What a row gives a walk that lists seven variables (package errors' type, six kinds of package cron); a world for the witness. -/
import Derived.Test.YtgbbplkpepaidaaGreatDoorMCronTimes15
import Derived.Test.YtgbbplkpepaidaaGreatDoorMCronTimes18
import Derived.LaidSub
import Derived.Lib.SmallJoins
namespace Go.Proofs.YtgbbplkpepaidaaGreatDoor
open Go.ChangeShapes Go.WideShapes Go.RowKit

def lstC : List (String × DataW Unit) := [("errors.errorType", Rows.laid_errors_errorType), ("almanac/cron.minutes", Rows.laid_almanac_cron_minutes), ("almanac/cron.hours", Rows.laid_almanac_cron_hours), ("almanac/cron.monthDays", Rows.laid_almanac_cron_monthDays), ("almanac/cron.months", Rows.laid_almanac_cron_months), ("almanac/cron.weekdays", Rows.laid_almanac_cron_weekdays), ("almanac/cron.places", Rows.laid_almanac_cron_places)]

theorem drop_one {cs : List Value} {k : Nat} {v : Value} (h : (cs.drop k).take 1 = [v]) : cs[k]? = some v := by
  have := congrArg (·[0]?) h
  simpa [List.getElem?_take, List.getElem?_drop] using this
theorem cInt : Tryz.prog.cellsOf 3 = 1 := by kernel_rfl
theorem cStr : Tryz.prog.cellsOf 9 = 1 := by kernel_rfl
theorem kind_cells {W : World} {base : Nat} {sp : Nat → Bool} {held : Bool} {fuel : Nat} {cs : List Value} {p : List MemPlace} {lo hi z : Int} {bs : List UInt8}
    (h : DataW.trod (fun _ => ()) Tryz.prog W base sp held fuel 68 cs = some (.agg [.lit (.int .i64 lo), .lit (.int .i64 hi), .lit (.string bs), .lit (.int .i64 z)], p)) :
    ∃ s, cs[0]? = some (.int .i64 lo) ∧ cs[1]? = some (.int .i64 hi) ∧ cs[2]? = some (.string s) ∧ cs[3]? = some (.int .i64 z) := by
  obtain ⟨y0, y1, y2, y3, n, hx, _, h0, h1, h2, h3⟩ := Go.Joins.trod_struct4 Tryz.underlying68 h
  replace h0 : DataW.trod (fun _ => ()) Tryz.prog W base sp held n 3 ((cs.drop 0).take (Tryz.prog.cellsOf 3)) = some y0 := h0
  replace h1 : DataW.trod (fun _ => ()) Tryz.prog W base sp held n 3 ((cs.drop 1).take (Tryz.prog.cellsOf 3)) = some y1 := h1
  replace h2 : DataW.trod (fun _ => ()) Tryz.prog W base sp held n 9 ((cs.drop 2).take (Tryz.prog.cellsOf 9)) = some y2 := h2
  replace h3 : DataW.trod (fun _ => ()) Tryz.prog W base sp held n 3 ((cs.drop 3).take (Tryz.prog.cellsOf 3)) = some y3 := h3
  rw [cInt] at h0 h1 h3
  rw [cStr] at h2
  obtain ⟨a0, e0, q0, _⟩ := DataW.trod_int Tryz.underlying3 h0
  obtain ⟨a1, e1, q1, _⟩ := DataW.trod_int Tryz.underlying3 h1
  obtain ⟨a2, e2, q2, _⟩ := DataW.trod_string Tryz.underlying9 h2
  obtain ⟨a3, e3, q3, _⟩ := DataW.trod_int Tryz.underlying3 h3
  subst q0 q1 q2 q3
  simp only [Prod.mk.injEq, DataW.agg.injEq, List.cons.injEq, DataW.lit.injEq, Lit.int.injEq, true_and, and_true] at hx
  obtain ⟨⟨rfl, rfl, _, rfl⟩, _⟩ := hx
  exact ⟨a2, drop_one e0, drop_one e1, drop_one e2, drop_one e3⟩
theorem kat_of {W : World} {name : String} {g : Nat} {lo hi z : Int} {bs : List UInt8} (hg : Tryz.prog.globalNamed name = some g) (hty : (Tryz.prog.globals[g]?).map (·.type) = some 68)
    (h : laidMet Tryz.prog [(name, .agg [.lit (.int .i64 lo), .lit (.int .i64 hi), .lit (.string bs), .lit (.int .i64 z)])] W) : ∃ s z', KAt W g lo hi s z' := by
  obtain ⟨ps, ⟨g', t', cs, fuel, p, q, hg', ht', hvar, hd', _, _⟩, _⟩ := h
  obtain rfl := Option.some.inj (hg.symm.trans hg')
  obtain rfl := Option.some.inj (hty.symm.trans ht')
  obtain ⟨s, c0, c1, c2, c3⟩ := kind_cells hd'
  have hc : ∀ j v, cs.toList[j]? = some v → W.cell? ⟨g, j, none⟩ = some v := fun j v hj => by
    rw [World.var?_cell hg hvar, ← Array.getElem?_toList]; exact hj
  exact ⟨s, z, hc 0 _ c0, hc 1 _ c1, hc 2 _ c2, hc 3 _ c3⟩
theorem kt_of_laid {W : World} (h : laidMetH Tryz.prog lstC W) : KT W := by
  have hh := (laidMetH_iff.1 h).1
  exact ⟨kat_of (name := "almanac/cron.minutes") (by kernel_rfl) (by kernel_rfl) (hh.filter (fun x => x.1 == "almanac/cron.minutes")), kat_of (name := "almanac/cron.hours") (by kernel_rfl) (by kernel_rfl) (hh.filter (fun x => x.1 == "almanac/cron.hours")),
    kat_of (name := "almanac/cron.months") (by kernel_rfl) (by kernel_rfl) (hh.filter (fun x => x.1 == "almanac/cron.months")), kat_of (name := "almanac/cron.monthDays") (by kernel_rfl) (by kernel_rfl) (hh.filter (fun x => x.1 == "almanac/cron.monthDays")),
    kat_of (name := "almanac/cron.weekdays") (by kernel_rfl) (by kernel_rfl) (hh.filter (fun x => x.1 == "almanac/cron.weekdays")), kat_of (name := "almanac/cron.places") (by kernel_rfl) (by kernel_rfl) (hh.filter (fun x => x.1 == "almanac/cron.places"))⟩
theorem hd_of_laidC {W : World} (h : laidMetH Tryz.prog lstC W) : Hd W := handle_of_laid (h.filter (fun x => x.1 == "errors.errorType"))
def litCellsC : DataW Unit → Array Value
  | .agg l => (l.map fun | .lit (.int k z) => Value.int k z | .lit (.string b) => Value.string ⟨b.toArray⟩ | _ => .nilIface).toArray
  | _ => #[]
def layAtC (h : Array Obj) (g : Nat) (cs : Array Value) : Array Obj := h.modify g fun
  | .cells _ t frozen => .cells cs t frozen
  | o => o
/-- A world that meets the condition. -/
noncomputable def laidWorldC (os : Os) : World :=
  let w0 := laidWorld os
  { w0 with heap := layAtC (layAtC (layAtC (layAtC (layAtC (layAtC (w0.heap) 0 (litCellsC Rows.laid_almanac_cron_minutes)) 1 (litCellsC Rows.laid_almanac_cron_hours)) 3 (litCellsC Rows.laid_almanac_cron_monthDays)) 2 (litCellsC Rows.laid_almanac_cron_months)) 4 (litCellsC Rows.laid_almanac_cron_weekdays)) 6 (litCellsC Rows.laid_almanac_cron_places) }
set_option maxRecDepth 100000 in
theorem laidWorldC_met (os : Os) (args : Array Value) : laidMetH Tryz.prog lstC ((laidWorldC os).forCall (fun _ _ => 0) ⟨#[], args, []⟩).memory :=
  laidMetH_of_parts (laidMet_of_run' 200 (by kernel_rfl) (by kernel_rfl)) (by kernel_rfl)
end Go.Proofs.YtgbbplkpepaidaaGreatDoor
