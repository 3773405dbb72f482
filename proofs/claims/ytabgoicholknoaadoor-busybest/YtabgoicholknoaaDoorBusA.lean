/- busy: (meeting).meets. -/
import Derived.Test.YtabgoicholknoaaDoorMomPl
import Derived.Test.YtabgoicholknoaaDoorBusM
namespace Go.Proofs.YtabgoicholknoaaDoor
open Go.RowKit Go.Shelf
set_option linter.unusedVariables false
set_option linter.unusedSimpArgs false

theorem getD_at {α : Type} (L : List α) (i : Nat) (d : α) (h : i < L.length) : L.getD i d = L[i] := by
  rw [List.getD_eq_getElem?_getD, List.getElem?_eq_getElem h]; rfl
/-- the first time from t on tells whether the set meets what begins at t -/
theorem room_bz {L : List (Int × Int)} (hL : InvL L) {t x : Int} (n : Int) (h : RoomR L t 1 x 0) : bz t n L = decide (x < t + n) := by
  rcases h with ⟨_, j, hj, hx, hok, hno⟩ | ⟨h, _⟩
  · rw [Bool.eq_iff_iff, bz_iff, decide_eq_true_eq]
    have hjj := getD_at L j (0, 0) hj
    have h1 := hok.1
    constructor
    · rintro ⟨u, h2, h3, p, hp, h4, h5⟩
      obtain ⟨i, hi, rfl⟩ := List.getElem_of_mem hp
      have hii := getD_at L i (0, 0) hi
      rcases Nat.lt_trichotomy i j with h | h | h
      · have := hno i h
        rw [hii] at this
        have hb := hL.1 L[i] hp
        unfold okR at this
        omega
      · subst h; rw [hii] at hx; omega
      · have h6 := invL_to hL j i h hi
        rw [hii] at h6
        omega
    · intro hlt
      refine ⟨x, by omega, hlt, L.getD j (0, 0), by rw [hjj]; exact List.getElem_mem hj, by omega, by omega⟩
  · exact absurd h (by decide)
theorem room_bz_no {L : List (Int × Int)} (hL : InvL L) {t : Int} (n : Int) (h : RoomR L t 1 0 12) : bz t n L = false := by
  rcases h with ⟨h, _⟩ | ⟨_, _, hno⟩
  · exact absurd h (by decide)
  · rw [bz_not]
    rintro u h1 _ ⟨p, hp, h3, h4⟩
    obtain ⟨i, hi, rfl⟩ := List.getElem_of_mem hp
    have := hno i hi
    rw [getD_at L i (0, 0) hi] at this
    unfold okR at this
    omega
set_option maxHeartbeats 2000000 in
theorem meets_any (t n : Int) (t1 : -1000000000000 ≤ t) (t2 : t ≤ 1000000000000) (n1 : 0 ≤ n) (n2 : n ≤ 1000000000000) (L : List (Int × Int)) (hL : InvL L) (hlen : L.length ≤ 1000000) (a : Option Addr) (l c : Nat) (w : World) (hA : SetAt w (.slice a l c) L) :
    Calls Tryd.prog 26 #[.agg #[.int .i64 t, .int .i64 n], .agg #[.slice a l c]] w fun e w' => e = .returned (.bool (bz t n L)) ∧ Below w.heap.size w w' := by
  have hb1 : Below w.heap.size w ((w.alloc (.cells #[.int .i64 t, .int .i64 n] 72)).alloc (.cells #[.slice a l c] 30)) := ((Below.refl _ w).alloc (Nat.le_refl _) _).alloc (by simp) _
  have HR := hide (next_set L hL hlen a l c t _ (hA.below hb1))
  have hc0 : ((w.alloc (.cells #[.int .i64 t, .int .i64 n] 72)).alloc (.cells #[.slice a l c] 30)).cell? ⟨w.heap.size, 0, none⟩ = some (.int .i64 t) := by simp
  have hc1 : ((w.alloc (.cells #[.int .i64 t, .int .i64 n] 72)).alloc (.cells #[.slice a l c] 30)).cell? ⟨w.heap.size, 1, none⟩ = some (.int .i64 n) := by simp
  have HB := hide (And.intro hb1 (And.intro hc0 hc1))
  have HL := hide hL
  have hw : wrap64 (t + n) = t + n := by rw [wrap64_id] <;> omega
  clear hb1 hA hL hc0 hc1
  go_enter Tryd.func26, Tryd.ntmps26
  go_wp2_with (go_at_call 37; refine HR.out.mono ?_; rintro e w1 ⟨⟨x, rfl, hR⟩ | ⟨rfl, hR⟩, hb2⟩; (have hd0 := (hb2.cell (p := ⟨w.heap.size, 0, none⟩) (by simp; omega)).trans HB.out.2.1); (have hd1 := (hb2.cell (p := ⟨w.heap.size, 1, none⟩) (by simp; omega)).trans HB.out.2.2))
  · go_ret
    refine ⟨?_, HB.out.1.trans (hb2.mono (by simp; omega))⟩
    rw [room_bz HL.out n hR]; rfl
  · go_ret
    refine ⟨?_, HB.out.1.trans (hb2.mono (by simp; omega))⟩
    rw [room_bz_no HL.out n hR]; rfl
end Go.Proofs.YtabgoicholknoaaDoor
