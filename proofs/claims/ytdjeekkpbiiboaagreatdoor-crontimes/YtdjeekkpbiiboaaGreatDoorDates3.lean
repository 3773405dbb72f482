/- The month of a day. -/
import Derived.Test.YtdjeekkpbiiboaaGreatDoorDates2
namespace Go.Proofs.YtdjeekkpbiiboaaGreatDoor
open Go.RowKit Go.Shelf

set_option maxHeartbeats 1000000 in
theorem monthOf_any (g0 : Nat) (l0 : Array Value) (g1 : Nat) (l1 : Array Value) (g2 : Nat) (l2 : Array Value) (g3 : Nat) (l3 : Array Value) (c y a : Int) (S : Nat → Prop) (w : World) (hc : IsCal (fv g0 l0) (fv g1 l1) (fv g2 l2) (fv g3 l3) c S w) (y1 : -40000 ≤ y) (y2 : y ≤ 40000) (a1 : 0 ≤ a) (a2 : a < Alm.ylen c y) :
    Calls Tryz.prog 51 #[.agg #[fv g0 l0, fv g1 l1, fv g2 l2, fv g3 l3], .int .i64 y, .int .i64 a] w fun e w' => ∃ m d : Int, e = .returned (.tuple #[.int .i64 m, .int .i64 d]) ∧ Alm.IsDate c (Alm.start c y + a) y m d ∧ Below w.heap.size w w' := by
  have hB := box_cal w g0 l0 g1 l1 g2 l2 g3 l3 c S hc
  clear hc
  have en1 := hB.months.enters
  have en2 := hB.len.enters
  have k1 := hB.months.calls _ y (Since.refl _ _) y1 y2
  have k2 := hide (fun q z h => hB.len.calls _ y z ((Since.refl _ _).drewN q) h)
  clear hB
  have Hcs := hide (Alm.cum_succ c y)
  have Hml := hide (Alm.mlen_bd c y)
  have Hcb := hide (Alm.cum_bd c y)
  have Hca := hide (Alm.cum_all c y)
  have hmo := Alm.months_bd c y
  have Hda := hide (fun (m d : Int) (m1 : 1 ≤ m) (m2 : m ≤ Alm.months c y) (d1 : 1 ≤ d) (d2 : d ≤ Alm.mlen c y m) (e : Alm.start c y + a = Alm.start c y + Alm.cum c y (m - 1).toNat + d - 1) => Alm.IsDate.mk (c := c) m1 m2 d1 d2 e)
  have yb := Alm.ylen_bd c y
  generalize Alm.ylen c y = yl at *
  generalize hmoe : Alm.months c y = mo at *
  clear hmoe
  go_enter Tryz.func51, Tryz.ntmps51
  go_wp2_with fail
  refine k1.mono ?_
  rintro e w' ⟨rfl, q, rfl⟩
  go_wp2_with fail
  go_loopw [2, 6, 14] (fun s m i wr => ∃ k : Nat, k < mo ∧ i = .int .i64 k ∧ m = .int .i64 k ∧ 0 ≤ a - Alm.cum c y k ∧ s = .int .i64 (a - Alm.cum c y k) ∧ ∃ q, wr = (w.alloc (.cells #[fv g0 l0, fv g1 l1, fv g2 l2, fv g3 l3] 94)).drewN q) (fun _ _ i _ => (20 - intOf i).toNat)
  case atStart => exact ⟨0, by omega, rfl, rfl, by simp [Alm.cum]; omega, by simp [Alm.cum], q, rfl⟩
  case round =>
    obtain ⟨k, hk, rfl, rfl, hr, rfl, q', rfl⟩ := hrel
    have ml := Hml.out (k + 1) (by omega) (by omega)
    have k3 := k2.out q' (k + 1) ⟨y1, y2, by omega, by omega⟩
    have HC := hide (Hcs.out k hk)
    have cb := Hcb.out k (by omega)
    generalize hmle : Alm.mlen c y (k + 1) = ml1 at *
    have Hmle := hide hmle
    clear hmle
    generalize hcue : Alm.cum c y k = cu at *
    have Hcue := hide hcue
    clear hcue
    by_cases hlt : a - cu < ml1
    · go_wp2_with fail
      refine k3.mono ?_
      rintro e w' ⟨rfl, q3, rfl⟩
      go_wp2
      go_ret2
      refine ⟨(k : Int) + 1, a - cu + 1, rfl, Hda.out _ _ (by omega) (by omega) (by omega) (by rw [Hmle.out]; omega) ?_, below_drewN ((Below.refl _ w).alloc (Nat.le_refl _) _) _⟩
      rw [show ((k : Int) + 1 - 1).toNat = k from by omega, Hcue.out]; omega
    · have hk2 : k + 1 < mo := by
        rcases Nat.lt_or_ge (k + 1) mo with h | h
        · exact h
        · exfalso
          have e : k + 1 = mo := by omega
          have h1 := HC.out
          rw [e, Hca.out] at h1
          omega
      go_wp2_with fail
      refine k3.mono ?_
      rintro e w' ⟨rfl, q3, rfl⟩
      go_wp2
      go_roundw
      case rel => exact ⟨k + 1, hk2, by simp, by simp, by rw [HC.out]; omega, by rw [HC.out]; simp; omega, q' + q3, by simp⟩
      case measure => simp [intOf]; omega
end Go.Proofs.YtdjeekkpbiiboaaGreatDoor
