/- the law MomentsRoom. -/
import Derived.Test.YtmjplljjcbdcfaaDoorMomL
namespace Go.Proofs.YtmjplljjcbdcfaaDoor
open Go.RowKit Go.Shelf Go.Sort
set_option linter.unusedVariables false
set_option linter.unusedSimpArgs false

theorem room_ge {L : List (Int × Int)} (hL : InvL L) {t n x : Int} (h : RoomR L t n x 0) (i : Nat) (hi : i < L.length) (ho : okR t n (L.getD i (0, 0))) : x ≤ max (L.getD i (0, 0)).1 t := by
  rcases h with ⟨_, j, hj, rfl, hok, hno⟩ | ⟨h, _⟩
  · rcases Nat.lt_trichotomy i j with h | h | h
    · exact absurd ho (hno i h)
    · subst h; exact Int.le_refl _
    · have h1 := invL_to hL j i h hi
      have h2 := hok.1
      omega
  · exact absurd h (by decide)
theorem room_k {L : List (Int × Int)} {t n x k : Int} (h : RoomR L t n x k) : k = 0 ∨ k = 12 := by
  rcases h with ⟨h, _⟩ | ⟨h, _⟩
  · exact .inl h
  · exact .inr h
theorem setAt_form {w : World} {v : Value} {L : List (Int × Int)} (h : SetAt w v L) : ∃ a c, v = .slice a L.length c ∧ ∀ j, j < L.length → ∃ g, a = some ⟨g, 0, none⟩ ∧ g < w.heap.size ∧ w.cell? ⟨g, j * 2, none⟩ = some (.int .i64 (L.getD j (0, 0)).1) ∧ w.cell? ⟨g, j * 2 + 1, none⟩ = some (.int .i64 (L.getD j (0, 0)).2) := by
  rcases h with ⟨rfl, rfl⟩ | ⟨g, c, rfl, hc, hg, hA⟩
  · exact ⟨none, 0, rfl, fun j hj => absurd hj (by simp)⟩
  · exact ⟨_, c, rfl, fun j hj => ⟨g, rfl, hg, hA j hj⟩⟩
/-- was it seen among the first m -/
def SeenR (L : List (Int × Int)) (t r x : Int) (m : Nat) : Prop := ∃ i, i < m ∧ okR t r (L.getD i (0, 0)) ∧ max (L.getD i (0, 0)).1 t = x
theorem seen_next {L : List (Int × Int)} {t r x : Int} {m : Nat} : SeenR L t r x (m + 1) ↔ SeenR L t r x m ∨ (okR t r (L.getD m (0, 0)) ∧ max (L.getD m (0, 0)).1 t = x) := by
  constructor
  · rintro ⟨i, hi, h1, h2⟩
    rcases Nat.lt_or_ge i m with h | h
    · exact .inl ⟨i, h, h1, h2⟩
    · obtain rfl : i = m := by omega
      exact .inr ⟨h1, h2⟩
  · rintro (⟨i, hi, h1, h2⟩ | ⟨h1, h2⟩)
    · exact ⟨i, by omega, h1, h2⟩
    · exact ⟨m, by omega, h1, h2⟩
set_option maxRecDepth 100000 in
set_option maxHeartbeats 4000000 in
theorem mroom_walk (sv : Value) (zs : List (Int × Int)) (t n : Int) (w : World) (hh : Hd w) (h : SpsW w sv zs) :
    Calls Tryd.prog 4 #[sv, .int .i64 t, .int .i64 n] w fun e w' => e = .returned (.bool true) ∧ Below w.heap.size w w' := by
  have hform := h
  obtain ⟨a0, c0, rfl, _⟩ := hform
  have hb2 : Below w.heap.size w ((w.alloc (.cells #[.int .i64 t] 3)).alloc (.cells #[.int .i64 n] 3)) := ((Below.refl _ w).alloc (Nat.le_refl _) _).alloc (by simp) _
  have x4 : Boxed ((w.alloc (.cells #[.int .i64 t] 3)).alloc (.cells #[.int .i64 n] 3)) w.heap.size 3 (.int .i64 t) := (Boxed.new _ _ _).alloc _
  have x5 : Boxed ((w.alloc (.cells #[.int .i64 t] 3)).alloc (.cells #[.int .i64 n] 3)) (w.heap.size + 1) 3 (.int .i64 n) := by have := Boxed.new (w.alloc (.cells #[.int .i64 t] 3)) 3 (.int .i64 n); rwa [World.size_alloc] at this
  have hz : ((w.alloc (.cells #[.int .i64 t] 3)).alloc (.cells #[.int .i64 n] 3)).heap.size = w.heap.size + 2 := by simp
  by_cases hbig : 512 < zs.length
  · have hbi : (512 : Int) < zs.length := by omega
    have HB := hide hb2
    clear hb2 x4 x5 hz h
    go_enter Tryd.func4, Tryd.ntmps4
    go_wp2
    go_ret
    exact ⟨rfl, HB.out⟩
  · have hbi : ¬ (512 : Int) < zs.length := by omega
    have HT := hide (timesOf_any (.slice a0 zs.length c0) zs (by omega) _ (h.below hb2))
    have HB := hide hb2
    have HX := hide (And.intro x4 x5)
    have HZ := hide hz
    have HH := hide hh
    clear hb2 x4 x5 hz h hh
    go_enter Tryd.func4, Tryd.ntmps4
    go_wp2_with (first
      | (go_at_call 5; refine HT.out.mono ?_; rintro e w1 ⟨a, l, c, L, rfl, hL, hlen, hA, hga, hb⟩; have z1 := HZ.out; have z2 := hb.size; have y4 : Boxed w1 w.heap.size 3 (.int .i64 t) := (hb.block _ (by omega)).trans HX.out.1; have y5 : Boxed w1 (w.heap.size + 1) 3 (.int .i64 n) := (hb.block _ (by omega)).trans HX.out.2; have c4 := (y4.alloc (.cells #[.slice a l c] 27)).cell; have c5 := (y5.alloc (.cells #[.slice a l c] 27)).cell; have f5 := (y5.alloc (.cells #[.slice a l c] 27)).frozen)
      | (go_at_call 31; refine (pick_any n 1000 (by omega) (by omega) _).mono ?_; rintro e w2 ⟨m, hm0, hm1, rfl, rfl⟩; have hwm : wrap64 (1 + m) = 1 + m := by rw [wrap64_id] <;> omega))
    have y4' := (y4.alloc (.cells #[.slice a l c] 27)).other (B' := w.heap.size + 1) (by omega) (.int .i64 (1 + m))
    have y5' := (y5.alloc (.cells #[.slice a l c] 27)).set (.int .i64 (1 + m))
    have y7' := (Boxed.new w1 27 (.slice a l c)).other (B' := w.heap.size + 1) (by omega) (.int .i64 (1 + m))
    have hBE := ((HB.out.trans (hb.mono (by omega))).alloc (by omega) (.cells #[.slice a l c] 27)).setCell (p := ⟨w.heap.size + 1, 0, none⟩) (by simp) (.int .i64 (1 + m))
    have hAE := (hA.below ((Below.refl w1.heap.size w1).alloc (Nat.le_refl _) (.cells #[.slice a l c] 27))).store ⟨w.heap.size + 1, 0, none⟩ (.int .i64 (1 + m)) (fun g o e => by have := hga g o e; simp only; omega)
    have hzE : w1.heap.size < ((w1.alloc (.cells #[.slice a l c] 27)).setCell ⟨w.heap.size + 1, 0, none⟩ (.int .i64 (1 + m))).heap.size := y7'.lt
    obtain ⟨W2, hW2⟩ : ∃ W2, (w1.alloc (.cells #[.slice a l c] 27)).setCell ⟨w.heap.size + 1, 0, none⟩ (.int .i64 (1 + m)) = W2 := ⟨_, rfl⟩
    rw [hW2] at y4' y5' y7' hBE hAE hzE ⊢
    generalize w1.heap.size = B7 at y7' hzE hW2 z2 ⊢
    have hz2 : w.heap.size + 2 ≤ B7 := by omega
    clear hW2 c4 c5 f5 y4 y5 hb hA z2 z1
    have hHd := HH.out.later hBE
    obtain ⟨r, hr⟩ : ∃ r, 1 + m = r := ⟨_, rfl⟩
    rw [hr] at y5' ⊢
    have hr1 : 1 ≤ r := by omega
    clear HT HX HZ HH hr hwm hm0 hm1
    refine (proom_any L hL hlen a l c t r hr1 W2 hHd hAE).mono ?_
    rintro e W3 ⟨x, k, hR, rfl, hb3⟩
    have u7 : Boxed W3 B7 27 (.slice a l c) := (hb3.block _ (by omega)).trans y7'
    have d7 := u7.cell
    have HS := hide (pspans_any a l c L hlen W3 (hAE.below hb3).sps)
    have hk2 := room_k hR
    rcases hk2 with rfl | rfl
    · go_wp2_with (go_at_call 30; refine HS.out.mono ?_; rintro e W4 ⟨v, rfl, ho, hb4⟩)
      obtain ⟨a3, c3, rfl, hrd⟩ := setAt_form (setAt_own ho)
      have s4 : Boxed W4 w.heap.size 3 (.int .i64 t) := (hb4.block _ (by have := hb3.size; omega)).trans ((hb3.block _ (by omega)).trans y4')
      have s5 : Boxed W4 (w.heap.size + 1) 3 (.int .i64 r) := (hb4.block _ (by have := hb3.size; omega)).trans ((hb3.block _ (by omega)).trans y5')
      have hBW : Below w.heap.size w W4 := (hBE.trans (hb3.mono hBE.size)).trans (hb4.mono (Nat.le_trans hBE.size hb3.size))
      clear HS ho hb4 hb3 u7 d7 y4' y5' y7' hAE hHd
      go_loopw [12, 13] (fun fnd i wr => ∃ (mm : Nat) (fb : Bool), mm ≤ L.length ∧ i = .int .i64 mm ∧ fnd = .bool fb ∧ (fb = true ↔ SeenR L t r x mm) ∧ Below W4.heap.size W4 wr) (fun _ i _ => L.length - (intOf i).toNat)
      case atStart => exact ⟨0, false, by omega, rfl, rfl, ⟨fun h => (by cases h), fun h => (by obtain ⟨i, hi, _⟩ := h; omega)⟩, Below.refl _ _⟩
      case round =>
        obtain ⟨mm, fb, hmm, rfl, rfl, hfb, hB⟩ := hrel
        by_cases hlt : mm < L.length
        · have hmi : (mm : Int) < L.length := by omega
          obtain ⟨g, rfl, hg, hx0, hx1⟩ := hrd mm hlt
          have hx0 := (hB.cell (p := ⟨g, mm * 2, none⟩) hg).trans hx0
          have hx1 := (hB.cell (p := ⟨g, mm * 2 + 1, none⟩) hg).trans hx1
          have hbd := invL_at hL mm hlt
          have hsn := seen_next (L := L) (t := t) (r := r) (x := x) (m := mm)
          have hfact : okR t r (L.getD mm (0, 0)) → x ≤ max (L.getD mm (0, 0)).1 t := room_ge hL hR mm hlt
          generalize L.getD mm (0, 0) = y at hx0 hx1 hbd hsn hfact
          have HQ := hide (soon_any y t r hbd w.heap.size (w.heap.size + 1) wr (Boxed.cell (show Boxed wr _ _ _ from (hB.block _ s4.lt).trans s4)) (Boxed.cell (show Boxed wr _ _ _ from (hB.block _ s5.lt).trans s5)) (Nat.lt_of_lt_of_le s4.lt hB.size) (Nat.lt_of_lt_of_le s5.lt hB.size))
          have HF := hide (And.intro hfb (And.intro hsn hfact))
          clear hfb hsn hfact hbd
          go_wp2_with fail
          refine HQ.out.mono ?_
          rintro e W5 ⟨b, hb, rfl, hb5⟩
          have hB5 := hB.trans (hb5.mono hB.size)
          have HC := hide hb
          clear HQ hb5 hb
          cases b
          · have f4 : ¬ okR t r y := fun h => absurd (HC.out.2 h) (by simp)
            have HF4 := hide f4
            clear f4
            cases fb
            · go_wp2
              go_roundw
              case rel => exact ⟨mm + 1, false, by omega, by go_num, rfl, by
                obtain ⟨f1, f2, f3⟩ := HF.out
                rw [f1, f2]
                exact ⟨.inl, fun h => h.elim id fun h => absurd h.1 HF4.out⟩, hB5⟩
              case measure => simp [intOf]; omega
            · go_wp2
              go_roundw
              case rel => exact ⟨mm + 1, true, by omega, by go_num, rfl, by
                obtain ⟨f1, f2, f3⟩ := HF.out
                rw [f2]
                exact ⟨fun _ => .inl (by simpa using f1), fun _ => rfl⟩, hB5⟩
              case measure => simp [intOf]; omega
          · have hok : okR t r y := HC.out.1 rfl
            have hnl : ¬ max y.1 t < x := by have := HF.out.2.2 hok; omega
            cases fb
            · go_wp2
              go_roundw
              case rel => exact ⟨mm + 1, _, by omega, by go_num, rfl, by
                obtain ⟨f1, f2, f3⟩ := HF.out
                have f5 : ¬ SeenR L t r x mm := fun h => absurd (f1.2 h) (by simp)
                rw [f2]
                simp [f5, hok], hB5⟩
              case measure => simp [intOf]; omega
            · go_wp2
              go_roundw
              case rel => exact ⟨mm + 1, true, by omega, by go_num, rfl, by
                obtain ⟨f1, f2, f3⟩ := HF.out
                rw [f2]
                exact ⟨fun _ => .inl (by simpa using f1), fun _ => rfl⟩, hB5⟩
              case measure => simp [intOf]; omega
        · obtain rfl : mm = L.length := by omega
          have hmi : ¬ (L.length : Int) < L.length := by omega
          obtain rfl : fb = true := hfb.2 (by
            rcases hR with ⟨_, j, hj, hxj, hok, _⟩ | ⟨h, _⟩
            · exact ⟨j, hj, hok, hxj.symm⟩
            · exact absurd h (by decide))
          go_wp2
          go_ret
          exact ⟨by simp, hBW.trans (hB.mono hBW.size)⟩
    · go_wp2_with (go_at_call 30; refine HS.out.mono ?_; rintro e W4 ⟨v, rfl, ho, hb4⟩)
      obtain ⟨a3, c3, rfl, hrd⟩ := setAt_form (setAt_own ho)
      have s4 : Boxed W4 w.heap.size 3 (.int .i64 t) := (hb4.block _ (by have := hb3.size; omega)).trans ((hb3.block _ (by omega)).trans y4')
      have s5 : Boxed W4 (w.heap.size + 1) 3 (.int .i64 r) := (hb4.block _ (by have := hb3.size; omega)).trans ((hb3.block _ (by omega)).trans y5')
      have hBW : Below w.heap.size w W4 := (hBE.trans (hb3.mono hBE.size)).trans (hb4.mono (Nat.le_trans hBE.size hb3.size))
      clear HS ho hb4 hb3 u7 d7 y4' y5' y7' hAE hHd
      go_loopw [12, 13] (fun fnd i wr => ∃ (mm : Nat) (fb : Bool), mm ≤ L.length ∧ i = .int .i64 mm ∧ fnd = .bool fb ∧ (fb = true ↔ SeenR L t r x mm) ∧ Below W4.heap.size W4 wr) (fun _ i _ => L.length - (intOf i).toNat)
      case atStart => exact ⟨0, false, by omega, rfl, rfl, ⟨fun h => (by cases h), fun h => (by obtain ⟨i, hi, _⟩ := h; omega)⟩, Below.refl _ _⟩
      case round =>
        obtain ⟨mm, fb, hmm, rfl, rfl, hfb, hB⟩ := hrel
        by_cases hlt : mm < L.length
        · have hmi : (mm : Int) < L.length := by omega
          obtain ⟨g, rfl, hg, hx0, hx1⟩ := hrd mm hlt
          have hx0 := (hB.cell (p := ⟨g, mm * 2, none⟩) hg).trans hx0
          have hx1 := (hB.cell (p := ⟨g, mm * 2 + 1, none⟩) hg).trans hx1
          have hbd := invL_at hL mm hlt
          have hsn := seen_next (L := L) (t := t) (r := r) (x := x) (m := mm)
          have hfact : ¬ okR t r (L.getD mm (0, 0)) := by
            rcases hR with ⟨h, _⟩ | ⟨_, _, hno⟩
            · exact absurd h (by decide)
            · exact hno mm hlt
          generalize L.getD mm (0, 0) = y at hx0 hx1 hbd hsn hfact
          have HQ := hide (soon_any y t r hbd w.heap.size (w.heap.size + 1) wr (Boxed.cell (show Boxed wr _ _ _ from (hB.block _ s4.lt).trans s4)) (Boxed.cell (show Boxed wr _ _ _ from (hB.block _ s5.lt).trans s5)) (Nat.lt_of_lt_of_le s4.lt hB.size) (Nat.lt_of_lt_of_le s5.lt hB.size))
          have HF := hide (And.intro hfb (And.intro hsn hfact))
          clear hfb hsn hfact hbd
          go_wp2_with fail
          refine HQ.out.mono ?_
          rintro e W5 ⟨b, hb, rfl, hb5⟩
          have hB5 := hB.trans (hb5.mono hB.size)
          have HC := hide hb
          clear HQ hb5 hb
          cases b
          · have f4 : ¬ okR t r y := fun h => absurd (HC.out.2 h) (by simp)
            have HF4 := hide f4
            clear f4
            cases fb
            · go_wp2
              go_roundw
              case rel => exact ⟨mm + 1, false, by omega, by go_num, rfl, by
                obtain ⟨f1, f2, f3⟩ := HF.out
                rw [f1, f2]
                exact ⟨.inl, fun h => h.elim id fun h => absurd h.1 HF4.out⟩, hB5⟩
              case measure => simp [intOf]; omega
            · go_wp2
              go_roundw
              case rel => exact ⟨mm + 1, true, by omega, by go_num, rfl, by
                obtain ⟨f1, f2, f3⟩ := HF.out
                rw [f2]
                exact ⟨fun _ => .inl (by simpa using f1), fun _ => rfl⟩, hB5⟩
              case measure => simp [intOf]; omega
          · have hok : okR t r y := HC.out.1 rfl
            exact absurd hok HF.out.2.2
        · obtain rfl : mm = L.length := by omega
          have hmi : ¬ (L.length : Int) < L.length := by omega
          obtain rfl : fb = false := by
            cases fb with
            | false => rfl
            | true =>
              obtain ⟨i, hi, hok, _⟩ := hfb.1 rfl
              rcases hR with ⟨h, _⟩ | ⟨_, _, hno⟩
              · exact absurd h (by decide)
              · exact absurd hok (hno i hi)
          go_wp2
          go_ret
          exact ⟨by simp, hBW.trans (hB.mono hBW.size)⟩
end Go.Proofs.YtmjplljjcbdcfaaDoor
