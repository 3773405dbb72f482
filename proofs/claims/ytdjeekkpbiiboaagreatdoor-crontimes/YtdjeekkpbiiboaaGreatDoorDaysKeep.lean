/- DaysKeep: a date that may be is the date of its day. -/
import Derived.Test.YtdjeekkpbiiboaaGreatDoorPlainB
namespace Go.Proofs.YtdjeekkpbiiboaaGreatDoor
open Go.RowKit Go.Shelf

/-- days.Of at a date that is known -/
theorem of_ok' (c day y m d : Int) (w : World) (h1 : 1 ≤ c) (h2 : c ≤ 10) (d1 : -4000000 ≤ day) (d2 : day ≤ 4000000) (hd : Alm.IsDate c day y m d) :
    Calls Tryz.prog 34 #[.int .i64 c, .int .i64 day] w fun e w' => e = .returned (.tuple #[.agg #[.int .i64 c, .int .i64 y, .int .i64 m, .int .i64 d], .nilIface]) ∧ Below w.heap.size w w' := by
  refine (of_ok c day w h1 h2 d1 d2).mono ?_
  rintro e w' ⟨y', m', d', rfl, hd', _, _, hb⟩
  obtain ⟨rfl, rfl, rfl⟩ := hd.unique h1 h2 hd'
  exact ⟨rfl, hb⟩
theorem dnum_date (c y m d : Int) (h : derr c y m d = 0) : Alm.IsDate c (dnum c y m d) y m d := by
  obtain ⟨⟨h1, h2⟩, ⟨y1, y2⟩, ⟨m1, m2⟩, ⟨d1, d2⟩, ⟨n1, n2⟩⟩ := derr_zero c y m d h
  exact ⟨m1, m2, d1, d2, by unfold dnum; omega⟩

end Go.Proofs.YtdjeekkpbiiboaaGreatDoor
