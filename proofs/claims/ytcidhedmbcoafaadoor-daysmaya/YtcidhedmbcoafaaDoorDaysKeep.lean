/- DaysKeep: a date that may be is the date of its day. -/
import Derived.Test.YtcidhedmbcoafaaDoorPlainB
namespace Go.Proofs.YtcidhedmbcoafaaDoor
open Go.RowKit Go.Shelf

/-- days.Of at a date that is known -/
theorem of_ok' (c day y m d : Int) (w : World) (h1 : 1 ≤ c) (h2 : c ≤ 10) (d1 : -4000000 ≤ day) (d2 : day ≤ 4000000) (hd : Alm.IsDate c day y m d) :
    Calls Tryd.prog 48 #[.int .i64 c, .int .i64 day] w fun e w' => e = .returned (.tuple #[.agg #[.int .i64 c, .int .i64 y, .int .i64 m, .int .i64 d], .nilIface]) ∧ Below w.heap.size w w' := by
  refine (of_ok c day w h1 h2 d1 d2).mono ?_
  rintro e w' ⟨y', m', d', rfl, hd', _, _, hb⟩
  obtain ⟨rfl, rfl, rfl⟩ := hd.unique h1 h2 hd'
  exact ⟨rfl, hb⟩
theorem pof_ok (c day y m d : Int) (w : World) (h1 : 1 ≤ c) (h2 : c ≤ 10) (d1 : -4000000 ≤ day) (d2 : day ≤ 4000000) (hd : Alm.IsDate c day y m d) :
    Calls Tryd.prog 22 #[.int .i64 c, .int .i64 day] w fun e w' => e = .returned (.tuple #[.agg #[.int .i64 c, .int .i64 y, .int .i64 m, .int .i64 d], .int .i64 0]) ∧ Below w.heap.size w w' :=
  pof_steps c day w c y m d 0 _ (fun W => of_ok' c day y m d W h1 h2 d1 d2 hd) (fun W _ => tell_nil W)
theorem dnum_date (c y m d : Int) (h : derr c y m d = 0) : Alm.IsDate c (dnum c y m d) y m d := by
  obtain ⟨⟨h1, h2⟩, ⟨y1, y2⟩, ⟨m1, m2⟩, ⟨d1, d2⟩, ⟨n1, n2⟩⟩ := derr_zero c y m d h
  exact ⟨m1, m2, d1, d2, by unfold dnum; omega⟩

set_option maxHeartbeats 1000000 in
theorem keep_walk (c y m d : Int) (w : World) (hd : Hd w) :
    Calls Tryd.prog 10 #[.agg #[.int .i64 c, .int .i64 y, .int .i64 m, .int .i64 d]] w fun e w' => e = .returned (.bool true) ∧ Below w.heap.size w w' := by
  have hB0 : Below w.heap.size w (w.alloc (.cells #[.int .i64 c, .int .i64 y, .int .i64 m, .int .i64 d] 31)) := (Below.refl _ w).alloc (Nat.le_refl _) _
  by_cases h : derr c y m d = 0
  · obtain ⟨⟨h1, h2⟩, ⟨y1, y2⟩, ⟨m1, m2⟩, ⟨d1, d2⟩, ⟨n1, n2⟩⟩ := derr_zero c y m d h
    have k1 := pday_ok c y m d (w.alloc (.cells #[.int .i64 c, .int .i64 y, .int .i64 m, .int .i64 d] 31)) h
    have k2 := hide (fun W => pof_ok c (dnum c y m d) y m d W h1 h2 n1 n2 (dnum_date c y m d h))
    clear h m2 d2
    go_enter Tryd.func10, Tryd.ntmps10
    go_wp2_with fail
    refine k1.mono ?_
    rintro e W ⟨rfl, hb⟩
    have hs : w.heap.size < W.heap.size := by have := hb.size; simp at this; omega
    have q0 : ∀ j, W.cell? ⟨w.heap.size, j, none⟩ = (w.alloc (.cells #[.int .i64 c, .int .i64 y, .int .i64 m, .int .i64 d] 31)).cell? ⟨w.heap.size, j, none⟩ := fun j => hb.cell (p := ⟨w.heap.size, j, none⟩) (by simp)
    have e0 : W.cell? ⟨w.heap.size, 0, none⟩ = some (.int .i64 c) := by rw [q0]; simp
    have e1 : W.cell? ⟨w.heap.size, 1, none⟩ = some (.int .i64 y) := by rw [q0]; simp
    have e2 : W.cell? ⟨w.heap.size, 2, none⟩ = some (.int .i64 m) := by rw [q0]; simp
    have e3 : W.cell? ⟨w.heap.size, 3, none⟩ = some (.int .i64 d) := by rw [q0]; simp
    have hb1 := hB0.trans (hb.mono (by simp))
    clear q0 k1
    generalize dnum c y m d = nn at *
    go_wp2_with fail
    refine (k2.out _).mono ?_
    rintro e W2 ⟨rfl, hb2⟩
    have f0 : W2.cell? ⟨w.heap.size, 0, none⟩ = some (.int .i64 c) := (hb2.cell (p := ⟨w.heap.size, 0, none⟩) hs).trans e0
    have f1 : W2.cell? ⟨w.heap.size, 1, none⟩ = some (.int .i64 y) := (hb2.cell (p := ⟨w.heap.size, 1, none⟩) hs).trans e1
    have f2 : W2.cell? ⟨w.heap.size, 2, none⟩ = some (.int .i64 m) := (hb2.cell (p := ⟨w.heap.size, 2, none⟩) hs).trans e2
    have f3 : W2.cell? ⟨w.heap.size, 3, none⟩ = some (.int .i64 d) := (hb2.cell (p := ⟨w.heap.size, 3, none⟩) hs).trans e3
    have hz : w.heap.size < W2.heap.size := by have := hb2.size; omega
    clear k2 e0 e1 e2 e3
    go_wp2
    go_ret
    exact ⟨rfl, (hb1.trans (hb2.mono hb1.size)).alloc (by omega) _⟩
  · have k1 := pday_no c y m d (w.alloc (.cells #[.int .i64 c, .int .i64 y, .int .i64 m, .int .i64 d] 31)) (hd.later hB0) h
    have hne : (derr c y m d != 0) = true := by simpa using h
    clear h
    go_enter Tryd.func10, Tryd.ntmps10
    go_wp2_with fail
    refine k1.mono ?_
    rintro e W ⟨rfl, hb⟩
    have hb1 := hB0.trans (hb.mono (by simp))
    clear k1
    go_wp2
    go_ret
    exact ⟨rfl, hb1⟩
end Go.Proofs.YtcidhedmbcoafaaDoor
