/- The reference's table: Table. -/
import Derived.Test.YtnaggcadmfmibaaDoorSpnN
import Derived.Deep.WholeRow
import Derived.Deep.MidRow
import Derived.Deep.RegionHeld
import Derived.OrdersHeld
namespace Go.Proofs.YtnaggcadmfmibaaDoor
open Go.RowKit
set_option linter.unusedVariables false
set_option linter.unusedSimpArgs false

theorem infoTab : (Tryd.prog.info? 76).map (fun i => (i.zero, i.size)) = some (some (.agg (tabA fun _ _ => 0)), 169) := by kernel_rfl
/-- the list of spans lies at block g; the result's row; all that was -/
structure TS (w : World) (g : Nat) (Z : Array Value) (X : World) : Prop where
  lt : g < X.heap.size
  far : w.heap.size + 1 < g
  ls : ∀ k, k < 15 → X.cell? ⟨g, k * 2, none⟩ = some (.int .i64 ((sp k).1 : Int)) ∧ X.cell? ⟨g, k * 2 + 1, none⟩ = some (.int .i64 ((sp k).2 : Int))
  r0 : X.heap[w.heap.size]? = some (.cells Z 76 (0, 0))
  bel : Below w.heap.size w X
theorem TS.step {w : World} {g : Nat} {Z : Array Value} {X X' : World} (h : TS w g Z X) (hb : Below X.heap.size X X') : TS w g Z X' :=
  ⟨Nat.lt_of_lt_of_le h.lt hb.size, h.far, fun k hk => ⟨(hb.cell (p := ⟨g, k * 2, none⟩) h.lt).trans (h.ls k hk).1, (hb.cell (p := ⟨g, k * 2 + 1, none⟩) h.lt).trans (h.ls k hk).2⟩,
    (hb.block _ (by have := h.lt; have := h.far; omega)).trans h.r0, h.bel.trans (hb.mono h.bel.size)⟩
theorem TS.set {w : World} {g : Nat} {Z : Array Value} {X : World} (h : TS w g Z X) (j : Nat) (v : Value) : TS w g Z (X.setCell ⟨w.heap.size + 1, j, none⟩ v) := by
  have hf := h.far
  have e : (X.setCell ⟨w.heap.size + 1, j, none⟩ v).heap[g]? = X.heap[g]? := heap_setCell_other _ _ _ _ (by simp; omega)
  refine ⟨by simpa using h.lt, hf, fun k hk => ⟨?_, ?_⟩, (heap_setCell_other _ _ _ _ (by simp)).trans h.r0, h.bel.setCell (by simp) v⟩
  · rw [World.cell?_of_block (w := X) (a := ⟨g, k * 2, none⟩) e]; exact (h.ls k hk).1
  · rw [World.cell?_of_block (w := X) (a := ⟨g, k * 2 + 1, none⟩) e]; exact (h.ls k hk).2
theorem Bx.set {b : Nat} {u : Nat × Nat} {X : World} (h : Bx b u X) {a : Nat} (hab : a < b) (j : Nat) (v : Value) : Bx b u (X.setCell ⟨a, j, none⟩ v) := by
  have e : (X.setCell ⟨a, j, none⟩ v).heap[b]? = X.heap[b]? := heap_setCell_other _ _ _ _ (by simp; omega)
  exact ⟨by simpa using h.1, by rw [World.cell?_of_block (w := X) (a := ⟨b, 0, none⟩) e]; exact h.2.1, by rw [World.cell?_of_block (w := X) (a := ⟨b, 1, none⟩) e]; exact h.2.2⟩
theorem keep19 {w X X' : World} {g bU bV bZ : Nat} {Zr : Array Value} {U V Z : Nat × Nat}
    (h : ((X.cell? ⟨bU, 0, none⟩ = some (.int .i64 (U.1 : Int)) ∧ X.cell? ⟨bU, 1, none⟩ = some (.int .i64 (U.2 : Int))) ∧ (X.cell? ⟨bV, 0, none⟩ = some (.int .i64 (V.1 : Int)) ∧ X.cell? ⟨bV, 1, none⟩ = some (.int .i64 (V.2 : Int))) ∧ (X.cell? ⟨bZ, 0, none⟩ = some (.int .i64 (Z.1 : Int)) ∧ X.cell? ⟨bZ, 1, none⟩ = some (.int .i64 (Z.2 : Int)))) ∧ (Bx bU U X ∧ Bx bV V X ∧ Bx bZ Z X) ∧ TS w g Zr X)
    (hx : Below X.heap.size X X') :
    ((X'.cell? ⟨bU, 0, none⟩ = some (.int .i64 (U.1 : Int)) ∧ X'.cell? ⟨bU, 1, none⟩ = some (.int .i64 (U.2 : Int))) ∧ (X'.cell? ⟨bV, 0, none⟩ = some (.int .i64 (V.1 : Int)) ∧ X'.cell? ⟨bV, 1, none⟩ = some (.int .i64 (V.2 : Int))) ∧ (X'.cell? ⟨bZ, 0, none⟩ = some (.int .i64 (Z.1 : Int)) ∧ X'.cell? ⟨bZ, 1, none⟩ = some (.int .i64 (Z.2 : Int)))) ∧ (Bx bU U X' ∧ Bx bV V X' ∧ Bx bZ Z X') ∧ TS w g Zr X' := by
  obtain ⟨_, ⟨h1, h2, h3⟩, h4⟩ := h
  have k1 := h1.step hx
  have k2 := h2.step hx
  have k3 := h3.step hx
  exact ⟨⟨k1.2, k2.2, k3.2⟩, ⟨k1, k2, k3⟩, h4.step hx⟩
theorem keep19s {w X : World} {g bU bV bZ : Nat} {Zr : Array Value} {U V Z : Nat × Nat} (l1 : w.heap.size + 1 < bU) (l2 : w.heap.size + 1 < bV) (l3 : w.heap.size + 1 < bZ)
    (h : ((X.cell? ⟨bU, 0, none⟩ = some (.int .i64 (U.1 : Int)) ∧ X.cell? ⟨bU, 1, none⟩ = some (.int .i64 (U.2 : Int))) ∧ (X.cell? ⟨bV, 0, none⟩ = some (.int .i64 (V.1 : Int)) ∧ X.cell? ⟨bV, 1, none⟩ = some (.int .i64 (V.2 : Int))) ∧ (X.cell? ⟨bZ, 0, none⟩ = some (.int .i64 (Z.1 : Int)) ∧ X.cell? ⟨bZ, 1, none⟩ = some (.int .i64 (Z.2 : Int)))) ∧ (Bx bU U X ∧ Bx bV V X ∧ Bx bZ Z X) ∧ TS w g Zr X)
    (j : Nat) (v : Value) :
    (((X.setCell ⟨w.heap.size + 1, j, none⟩ v).cell? ⟨bU, 0, none⟩ = some (.int .i64 (U.1 : Int)) ∧ (X.setCell ⟨w.heap.size + 1, j, none⟩ v).cell? ⟨bU, 1, none⟩ = some (.int .i64 (U.2 : Int))) ∧ ((X.setCell ⟨w.heap.size + 1, j, none⟩ v).cell? ⟨bV, 0, none⟩ = some (.int .i64 (V.1 : Int)) ∧ (X.setCell ⟨w.heap.size + 1, j, none⟩ v).cell? ⟨bV, 1, none⟩ = some (.int .i64 (V.2 : Int))) ∧ ((X.setCell ⟨w.heap.size + 1, j, none⟩ v).cell? ⟨bZ, 0, none⟩ = some (.int .i64 (Z.1 : Int)) ∧ (X.setCell ⟨w.heap.size + 1, j, none⟩ v).cell? ⟨bZ, 1, none⟩ = some (.int .i64 (Z.2 : Int)))) ∧ (Bx bU U (X.setCell ⟨w.heap.size + 1, j, none⟩ v) ∧ Bx bV V (X.setCell ⟨w.heap.size + 1, j, none⟩ v) ∧ Bx bZ Z (X.setCell ⟨w.heap.size + 1, j, none⟩ v)) ∧ TS w g Zr (X.setCell ⟨w.heap.size + 1, j, none⟩ v) := by
  obtain ⟨_, ⟨h1, h2, h3⟩, h4⟩ := h
  have k1 := h1.set l1 j v
  have k2 := h2.set l2 j v
  have k3 := h3.set l3 j v
  exact ⟨⟨k1.2, k2.2, k3.2⟩, ⟨k1, k2, k3⟩, h4.set j v⟩
theorem rway_sp (u v : Nat × Nat) (hu : u.1 < u.2) (hv : v.1 < v.2) (w : World) :
    Calls Tryd.prog 26 #[.agg #[.int .i64 (u.1 : Int), .int .i64 (u.2 : Int)], .agg #[.int .i64 (v.1 : Int), .int .i64 (v.2 : Int)]] w fun e w' => e = .returned (.int .i64 (Spn.wayP u v : Nat)) ∧ Below w.heap.size w w' :=
  rway_any _ _ _ _ w (by omega) (by omega)
theorem or_pow2 (s k : Nat) (hs : s < 8192) (hk : k < 13) : bits .or .i64 (s : Int) (IntKind.i64.wrap (2 ^ min (IntKind.u64.wrap (k : Int)).toNat 64)) = ((s ||| 2 ^ k : Nat) : Int) := by
  have h1 : IntKind.u64.wrap (k : Int) = k := by simp [IntKind.wrap, IntKind.signed, IntKind.bits]; omega
  have g : (2 : Nat) ^ k ≤ 2 ^ 13 := Nat.pow_le_pow_right (by omega) (by omega)
  rw [h1, Int.toNat_natCast, show min k 64 = k by omega, wrap_pow k hk]
  exact i64_or_nat _ _ (by omega) (by omega)
theorem setCells_below {w : World} {b : Nat} (hb : w.heap.size ≤ b) : ∀ (vs : List Value) (o : Nat) (X : World), Below w.heap.size w X → Below w.heap.size w (X.setCells b o vs)
  | [], _, _, h => h
  | v :: vs, o, X, h => setCells_below hb vs (o + 1) _ (h.setCell (by simpa using hb) v)
/-- a table's cell, in its row -/
theorem row_at {X : World} {b : Nat} {M : Nat → Nat → Nat} (h : X.heap[b]? = some (.cells (tabA M) 76 (0, 0))) (i k : Nat) (hi : i < 13) (hk : k < 13) :
    X.cell? ⟨b, i * 13 + k, none⟩ = some (.int .i64 (M i k : Nat)) ∧ X.frozen? ⟨b, i * 13 + k, none⟩ = false :=
  ⟨(cell_of_row _ _ _ _ _ (0, 0) h).trans (tabA_get M i k hi hk), frozen_of_row _ _ _ _ _ h⟩
set_option maxRecDepth 100000 in
set_option maxHeartbeats 16000000 in
theorem table_any (w : World) : Calls Tryd.prog 22 #[] w fun e w' => e = .returned (.agg (tabA Spn.fol)) ∧ Below w.heap.size w w' := by
  obtain ⟨hz, hzs⟩ := zero_of_info infoTab
  have HS := hide hzs
  have HZs := hide (tabA_size fun _ _ => 0)
  have HZ := hide (show (tabA fun _ _ => 0) = tabA (g3 (Spn.sp6.take 0) fun _ _ => 0) from rfl)
  generalize (tabA fun _ _ => 0) = Z at *
  have hB0 : Below w.heap.size w ((w.alloc (.cells Z 76)).alloc (.cells Z 76)) := ((Below.refl _ w).alloc (Nat.le_refl _) _).alloc (by simp) _
  have hr0 : ((w.alloc (.cells Z 76)).alloc (.cells Z 76)).heap[w.heap.size]? = some (.cells Z 76 (0, 0)) := by
    exact (Below.block ((Below.refl (w.heap.size + 1) (w.alloc (.cells Z 76))).alloc (by simp) (.cells Z 76)) _ (by omega)).trans (heap_alloc_last _ _)
  have hr1 : ((w.alloc (.cells Z 76)).alloc (.cells Z 76)).heap[w.heap.size + 1]? = some (.cells Z 76 (0, 0)) := by
    have := heap_alloc_last (w.alloc (.cells Z 76)) (.cells Z 76)
    simpa using this
  have hsz : ((w.alloc (.cells Z 76)).alloc (.cells Z 76)).heap.size = w.heap.size + 1 + 1 := by simp
  clear hzs
  go_enter Tryd.func22, Tryd.ntmps22
  go_wp2_with fail
  generalize ((w.alloc (.cells Z 76)).alloc (.cells Z 76)) = W0 at *
  obtain ⟨i0, hi, hz0, hz1, hz2⟩ := info_parts infoSpan
  have HB0 := hide hB0
  have HR0 := hide hr0
  have HR1 := hide hr1
  have HSZ := hide hsz
  clear hB0 hr0 hr1 hsz hz
  go_loopw [2, 3] (fun v i wr => ∃ n : Nat, n ≤ 6 ∧ i = .int .i64 n ∧ wr.ownsRow W0.heap.size 29 2 v (cnt n) (spC (Spn.sp6.take (cnt n))) ∧ Below W0.heap.size W0 wr) (fun _ i _ => 6 - (intOf i).toNat)
  case atStart => exact ⟨0, by omega, rfl, World.ownsRow_nil _ _ _ _, Below.refl _ _⟩
  case round =>
    obtain ⟨n, hn, rfl, hown, hBr⟩ := hrel
    by_cases hlt : n < 6
    · have hlti : (n : Int) < 6 := by omega
      go_wp2_with fail
      go_loopw [2, 4] (fun v k wr => ∃ m : Nat, n < m ∧ m ≤ 6 ∧ k = .int .i64 m ∧ wr.ownsRow W0.heap.size 29 2 v (cnt n + (m - n - 1)) (spC (Spn.sp6.take (cnt n + (m - n - 1)))) ∧ Below W0.heap.size W0 wr) (fun _ k _ => 6 - (intOf k).toNat)
      case atStart => exact ⟨n + 1, by omega, by omega, by go_num, by simpa using hown, hBr⟩
      case round =>
        obtain ⟨m, hnm, hm, rfl, hown1, hBr1⟩ := hrel
        by_cases hmt : m < 6
        · obtain ⟨hnext, hbd⟩ := cnt_next n m hnm hmt
          go_wp2_with (first
            | (at_builtin; refine wpList_append_own _ rfl (.tmp 21) (.tmp 25) 23 rfl W0.heap.size 29 i0 (.agg #[.int .i64 0, .int .i64 0]) 2 16 Tryd.underlying23 hi hz0 hz1 hz2 rfl (by decide) _ _ _ rfl (hown1.alloc _) ⟨wr.heap.size, 0, none⟩ 1 1 [.int .i64 n, .int .i64 m] rfl rfl ?c1 ?c2 ?c3 ?c4 ?c5 ?_))
          case c1 =>
            intro j u hj
            match j, hj with
            | 0, hj => simp at hj; subst hj; simp [Addr.add, go_sem]
            | 1, hj => simp at hj; subst hj; simp [Addr.add, go_sem]
          case c2 => intro u hu; simp at hu; rcases hu with rfl | rfl <;> rfl
          case c3 => unfold maxLen; omega
          case c4 => omega
          case c5 => have := hBr1.size; simp; omega
          intro v' w1 hown' hgrow _
          have hB1 := (hBr1.alloc (by have := hBr1.size; omega) _).grown hgrow (by have := hBr1.size; simp; omega) (fun j hj => (hown1.lt j hj).1)
          clear hown1 hgrow hBr1 hown hBr hnext
          go_wp2
          go_roundw
          case rel => exact ⟨m + 1, by omega, by omega, by go_num, by rw [show cnt n + (m + 1 - n - 1) = cnt n + (m - n - 1) + 1 by omega] at *; exact hown', hB1⟩
          case measure => simp [intOf]; omega
        · go_wp2
          go_roundw
          obtain rfl : m = 6 := by omega
          case rel => exact ⟨n + 1, by omega, by go_num, by rw [← cnt_end n hlt]; exact hown1, hBr1⟩
          case measure => simp [intOf]; omega
    · have h6 : n = 6 := by omega
      have hni : 6 ≤ (n : Int) := by omega
      rw [h6] at hown
      clear hlt h6 hn
      obtain ⟨g, cap, rfl, hg0, hg1⟩ := World.ownsRow.form hown (by decide)
      have hts : TS w g Z wr := ⟨hg1, by have := HSZ.out; omega, fun k hk =>
        ⟨((World.ownsRow.cellAt hown (k * 2) (by have : cnt 6 = 15 := rfl; omega)).trans (sp_cell k hk).1), ((World.ownsRow.cellAt hown (k * 2 + 1) (by have : cnt 6 = 15 := rfl; omega)).trans (sp_cell k hk).2)⟩,
        (hBr.block _ (by have := HSZ.out; omega)).trans HR0.out, HB0.out.trans (hBr.mono (by have := HSZ.out; omega))⟩
      have hrow : wr.heap[w.heap.size + 1]? = some (.cells (tabA (g3 (Spn.sp6.take 0) fun _ _ => 0)) 76 (0, 0)) := by rw [← HZ.out]; exact (hBr.block _ (by have := HSZ.out; omega)).trans HR1.out
      have hcnt : cnt 6 = 15 := rfl
      rw [hcnt]
      clear hcnt hown hi hz0 hz1 hz2 hBr HR0 HR1 HB0 HZ HSZ hg0 hg1
      go_wp2_with fail
      go_loopw [29] (fun i wr => ∃ n : Nat, n ≤ 15 ∧ i = .int .i64 n ∧ TS w g Z wr ∧ wr.heap[w.heap.size + 1]? = some (.cells (tabA (g3 (Spn.sp6.take n) fun _ _ => 0)) 76 (0, 0))) (fun i _ => 15 - (intOf i).toNat)
      case atStart => exact ⟨0, by omega, rfl, hts, hrow⟩
      case round =>
        clear hts hrow
        obtain ⟨n, hn, rfl, hts, hrow⟩ := hrel
        by_cases hlt : n < 15
        · obtain ⟨u0, u1⟩ := hts.ls n hlt
          have hlti : (n : Int) < 15 := by omega
          have hbu := bx_new wr (sp n)
          have hts2 := hts.step ((Below.refl _ wr).alloc (Nat.le_refl _) (.cells #[.int .i64 ((sp n).1 : Int), .int .i64 ((sp n).2 : Int)] 29))
          have hrow2 : (wr.alloc (.cells #[.int .i64 ((sp n).1 : Int), .int .i64 ((sp n).2 : Int)] 29)).heap[w.heap.size + 1]? = some (.cells (tabA (g3 (Spn.sp6.take n) fun _ _ => 0)) 76 (0, 0)) :=
            (((Below.refl _ wr).alloc (Nat.le_refl _) _).block _ (by have := hts.lt; have := hts.far; omega)).trans hrow
          have hfU : w.heap.size + 1 < wr.heap.size := by have := hts.lt; have := hts.far; omega
          have hUlt := sp_lt n hlt
          have HN := hide (g3_next n hlt fun _ _ => 0)
          have hM0 := g3_lo (Spn.sp6.take n) (show Lo fun _ _ => 0 from fun _ _ => by show 0 < 8192; omega)
          clear hrow
          go_wp2_with fail
          clear u0 u1 hts
          generalize sp n = U at *
          generalize (g3 (Spn.sp6.take n) fun _ _ => 0) = M0 at *
          generalize wr.heap.size = bU at *
          have HM0 := hide hM0
          clear hM0
          go_loopw [35] (fun i wr => ∃ m : Nat, m ≤ 15 ∧ i = .int .i64 m ∧ Bx bU U wr ∧ TS w g Z wr ∧ wr.heap[w.heap.size + 1]? = some (.cells (tabA (g2 U (Spn.sp6.take m) M0)) 76 (0, 0))) (fun i _ => 15 - (intOf i).toNat)
          case atStart => exact ⟨0, by omega, rfl, hbu, hts2, hrow2⟩
          case round =>
            clear hbu hts2 hrow2
            obtain ⟨m, hm, rfl, hbu, hts, hrow⟩ := hrel
            by_cases hmt : m < 15
            · obtain ⟨v0, v1⟩ := hts.ls m hmt
              have hmti : (m : Int) < 15 := by omega
              have hVlt := sp_lt m hmt
              have HM := hide (g2_next U m hmt M0)
              have HM1 := hide (g2_lo U (Spn.sp6.take m) HM0.out)
              have hal := (Below.refl _ wr).alloc (Nat.le_refl _) (.cells #[.int .i64 ((sp m).1 : Int), .int .i64 ((sp m).2 : Int)] 29)
              have hbv := bx_new wr (sp m)
              have hbu2 := hbu.step hal
              have hts2 := hts.step hal
              have hrow2 := (hal.block (w.heap.size + 1) (by have := hts.lt; have := hts.far; omega)).trans hrow
              have hfV : w.heap.size + 1 < wr.heap.size := by have := hts.lt; have := hts.far; omega
              clear hrow hal
              go_wp2_with fail
              clear v0 v1 hts hbu
              generalize sp m = V at *
              generalize g2 U (Spn.sp6.take m) M0 = M1 at *
              generalize wr.heap.size = bV at *
              go_loopw [41] (fun i wr => ∃ k : Nat, k ≤ 15 ∧ i = .int .i64 k ∧ Bx bU U wr ∧ Bx bV V wr ∧ TS w g Z wr ∧ wr.heap[w.heap.size + 1]? = some (.cells (tabA (g1 U V (Spn.sp6.take k) M1)) 76 (0, 0))) (fun i _ => 15 - (intOf i).toNat)
              case atStart => exact ⟨0, by omega, rfl, hbu2, hbv, hts2, hrow2⟩
              case round =>
                clear hbu2 hbv hts2 hrow2
                obtain ⟨k, hk, rfl, hbu, hbv, hts, hrow⟩ := hrel
                by_cases hkt : k < 15
                · obtain ⟨x0, x1⟩ := hts.ls k hkt
                  have hkti : (k : Int) < 15 := by omega
                  have hZlt := sp_lt k hkt
                  have HK := hide (g1_next U V k hkt M1)
                  have hlo := g1_lo U V (Spn.sp6.take k) HM1.out (Spn.wayP U V) (Spn.wayP V (sp k))
                  have hal := (Below.refl _ wr).alloc (Nat.le_refl _) (.cells #[.int .i64 ((sp k).1 : Int), .int .i64 ((sp k).2 : Int)] 29)
                  have hbz := bx_new wr (sp k)
                  have hbu2 := hbu.step hal
                  have hbv2 := hbv.step hal
                  have hts2 := hts.step hal
                  have hrow2 := (hal.block (w.heap.size + 1) (by have := hts.lt; have := hts.far; omega)).trans hrow
                  have hfZ : w.heap.size + 1 < wr.heap.size := by have := hts.lt; have := hts.far; omega
                  clear hrow hal
                  go_wp2_with fail
                  clear x0 x1 hts hbu hbv
                  generalize sp k = Y at *
                  generalize hMe : g1 U V (Spn.sp6.take k) M1 = M at *
                  generalize (wr.alloc (.cells #[.int .i64 (Y.1 : Int), .int .i64 (Y.2 : Int)] 29)) = X0 at *
                  generalize wr.heap.size = bY at *
                  have KW : Hid (∀ (a b c d : Int) (r : Nat) (W : World), ((a = U.1 ∧ b = U.2 ∧ c = V.1 ∧ d = V.2 ∧ r = Spn.wayP U V) ∨ (a = V.1 ∧ b = V.2 ∧ c = Y.1 ∧ d = Y.2 ∧ r = Spn.wayP V Y) ∨ (a = U.1 ∧ b = U.2 ∧ c = Y.1 ∧ d = Y.2 ∧ r = Spn.wayP U Y)) →
                      Calls Tryd.prog 26 #[.agg #[.int .i64 a, .int .i64 b], .agg #[.int .i64 c, .int .i64 d]] W fun e w' => e = .returned (.int .i64 (r : Nat)) ∧ Below W.heap.size W w') := by
                    rintro a b c d r W (⟨rfl, rfl, rfl, rfl, rfl⟩ | ⟨rfl, rfl, rfl, rfl, rfl⟩ | ⟨rfl, rfl, rfl, rfl, rfl⟩)
                    · exact rway_sp U V hUlt hVlt W
                    · exact rway_sp V Y hVlt hZlt W
                    · exact rway_sp U Y hUlt hZlt W
                  have p1 := wayP_lt U V
                  have p2 := wayP_lt V Y
                  have p3 := wayP_lt U Y
                  generalize Spn.wayP U V = r1 at *
                  generalize Spn.wayP V Y = r2 at *
                  generalize Spn.wayP U Y = r3 at *
                  have hOR := hide (or_pow2 (M r1 r2) r3 hlo p3)
                  have q1 : (r1 : Int) < 13 := by omega
                  have q2 : (r2 : Int) < 13 := by omega
                  obtain ⟨hc, hf⟩ := row_at hrow2 r1 r2 p1 p2
                  have HT := hide hts2
                  have hS0 := And.intro (And.intro hbu2.2 (And.intro hbv2.2 hbz.2)) (And.intro (And.intro hbu2 (And.intro hbv2 hbz)) hts2)
                  have hS := keep19 hS0 (Below.drew (Below.refl _ X0))
                  have hr := hide hrow2
                  clear hS0 hbu2 hbv2 hbz hts2 hrow2
                  refine wp_region_held_drew (S := fun X => ((X.cell? ⟨bU, 0, none⟩ = some (.int .i64 (U.1 : Int)) ∧ X.cell? ⟨bU, 1, none⟩ = some (.int .i64 (U.2 : Int))) ∧ (X.cell? ⟨bV, 0, none⟩ = some (.int .i64 (V.1 : Int)) ∧ X.cell? ⟨bV, 1, none⟩ = some (.int .i64 (V.2 : Int))) ∧ (X.cell? ⟨bY, 0, none⟩ = some (.int .i64 (Y.1 : Int)) ∧ X.cell? ⟨bY, 1, none⟩ = some (.int .i64 (Y.2 : Int)))) ∧ (Bx bU U X ∧ Bx bV V X ∧ Bx bY Y X) ∧ TS w g Z X) (by kernel_rfl) hS (fun hHeld => ?_)
                  refine wpAnyH_take (i := 0) (oi := _) (v := ?_) rfl (by kernel_rfl) (by kernel_rfl) (by kernel_rfl) (fun _ _ _ h => h) (Or.inl ⟨by rfl, ?_⟩) (by assumption) ?_
                  rotate_left
                  · intro w hSw
                    (try dsimp only at hSw)
                    go_simp
                    (try with_reducible rfl)
                  (try simp only [Act.put, List.setIfInBounds_toArray, List.set_cons_zero, List.set_cons_succ])
                  refine wpAnyH_take (i := 1) (oi := _) (v := ?_) rfl (by kernel_rfl) (by kernel_rfl) (by kernel_rfl) (fun _ _ _ h => h) (Or.inl ⟨by rfl, ?_⟩) (by assumption) ?_
                  rotate_left
                  · intro w hSw
                    (try dsimp only at hSw)
                    go_simp
                    (try with_reducible rfl)
                  (try simp only [Act.put, List.setIfInBounds_toArray, List.set_cons_zero, List.set_cons_succ])
                  refine wpAnyH_take (i := 3) (oi := _) (v := ?_) rfl (by kernel_rfl) (by kernel_rfl) (by kernel_rfl) (fun _ _ _ h => h) (Or.inl ⟨by rfl, ?_⟩) (by assumption) ?_
                  rotate_left
                  · intro w hSw
                    (try dsimp only at hSw)
                    go_simp
                    (try with_reducible rfl)
                  (try simp only [Act.put, List.setIfInBounds_toArray, List.set_cons_zero, List.set_cons_succ])
                  refine wpAnyH_take (i := 4) (oi := _) (v := ?_) rfl (by kernel_rfl) (by kernel_rfl) (by kernel_rfl) (fun _ _ _ h => h) (Or.inl ⟨by rfl, ?_⟩) (by assumption) ?_
                  rotate_left
                  · intro w hSw
                    (try dsimp only at hSw)
                    go_simp
                    (try with_reducible rfl)
                  (try simp only [Act.put, List.setIfInBounds_toArray, List.set_cons_zero, List.set_cons_succ])
                  refine wpAnyH_take (i := 9) (oi := _) (v := ?_) rfl (by kernel_rfl) (by kernel_rfl) (by kernel_rfl) (fun _ _ _ h => h) (Or.inl ⟨by rfl, ?_⟩) (by assumption) ?_
                  rotate_left
                  · intro w hSw
                    (try dsimp only at hSw)
                    go_simp
                    (try with_reducible rfl)
                  (try simp only [Act.put, List.setIfInBounds_toArray, List.set_cons_zero, List.set_cons_succ])
                  refine wpAnyH_take (i := 10) (oi := _) (v := ?_) rfl (by kernel_rfl) (by kernel_rfl) (by kernel_rfl) (fun _ _ _ h => h) (Or.inl ⟨by rfl, ?_⟩) (by assumption) ?_
                  rotate_left
                  · intro w hSw
                    (try dsimp only at hSw)
                    go_simp
                    (try with_reducible rfl)
                  (try simp only [Act.put, List.setIfInBounds_toArray, List.set_cons_zero, List.set_cons_succ])
                  refine wpAnyH_ready (rs := [2]) (by kernel_rfl) (by simp) ?_
                  refine AllReadyH.cons (o := _) rfl (fun K hK => ?_) AllReadyH.nil
                  go_simp
                  (go_at_call 26; refine (KW.out _ _ _ _ _ _ (by first | exact .inl ⟨rfl, rfl, rfl, rfl, rfl⟩ | exact .inr (.inl ⟨rfl, rfl, rfl, rfl, rfl⟩) | exact .inr (.inr ⟨rfl, rfl, rfl, rfl, rfl⟩))).mono ?_; rintro e X ⟨rfl, hx⟩; have hl0 := hS.2.2.lt; have hf0 := hS.2.2.far; have hr := hide ((hx.block (w.heap.size + 1) (by omega)).trans hr.out); clear hl0 hf0; have hS := keep19 hS hx; obtain ⟨hc, hf⟩ := row_at hr.out r1 r2 p1 p2)
                  refine hK.out _ _ (by exact hS) (fun hHeld => ?_)
                  clear hK K
                  (try simp only [Act.put, List.setIfInBounds_toArray, List.set_cons_zero, List.set_cons_succ])
                  refine wpAnyH_take (i := 6) (oi := _) (v := ?_) rfl (by kernel_rfl) (by kernel_rfl) (by kernel_rfl) (fun _ _ _ h => h) (Or.inl ⟨by rfl, ?_⟩) (by assumption) ?_
                  rotate_left
                  · intro w hSw
                    (try dsimp only at hSw)
                    go_simp
                    (try with_reducible rfl)
                  (try simp only [Act.put, List.setIfInBounds_toArray, List.set_cons_zero, List.set_cons_succ])
                  refine wpAnyH_take (i := 15) (oi := _) (v := ?_) rfl (by kernel_rfl) (by kernel_rfl) (by kernel_rfl) (fun _ _ _ h => h) (Or.inl ⟨by rfl, ?_⟩) (by assumption) ?_
                  rotate_left
                  · intro w hSw
                    (try dsimp only at hSw)
                    go_simp
                    (try with_reducible rfl)
                  (try simp only [Act.put, List.setIfInBounds_toArray, List.set_cons_zero, List.set_cons_succ])
                  refine wpAnyH_ready (rs := [5]) (by kernel_rfl) (by simp) ?_
                  refine AllReadyH.cons (o := _) rfl (fun K hK => ?_) AllReadyH.nil
                  go_simp
                  (go_at_call 26; refine (KW.out _ _ _ _ _ _ (by first | exact .inl ⟨rfl, rfl, rfl, rfl, rfl⟩ | exact .inr (.inl ⟨rfl, rfl, rfl, rfl, rfl⟩) | exact .inr (.inr ⟨rfl, rfl, rfl, rfl, rfl⟩))).mono ?_; rintro e X ⟨rfl, hx⟩; have hl0 := hS.2.2.lt; have hf0 := hS.2.2.far; have hr := hide ((hx.block (w.heap.size + 1) (by omega)).trans hr.out); clear hl0 hf0; have hS := keep19 hS hx; obtain ⟨hc, hf⟩ := row_at hr.out r1 r2 p1 p2)
                  refine hK.out _ _ (by exact hS) (fun hHeld => ?_)
                  clear hK K
                  (try simp only [Act.put, List.setIfInBounds_toArray, List.set_cons_zero, List.set_cons_succ])
                  refine wpAnyH_take (i := 7) (oi := _) (v := ?_) rfl (by kernel_rfl) (by kernel_rfl) (by kernel_rfl) (fun _ _ _ h => h) (Or.inl ⟨by rfl, ?_⟩) (by assumption) ?_
                  rotate_left
                  · intro w hSw
                    (try dsimp only at hSw)
                    go_simp
                    (try with_reducible rfl)
                  (try simp only [Act.put, List.setIfInBounds_toArray, List.set_cons_zero, List.set_cons_succ])
                  refine wpAnyH_ready (rs := [8, 11]) (by kernel_rfl) (by simp) ?_
                  refine AllReadyH.cons (o := _) rfl (fun K hK => ?_) (AllReadyH.cons (o := _) rfl (fun K hK => ?_) AllReadyH.nil)
                  · go_simp
                    refine hK.out _ _ (by exact hS) (fun hHeld => ?_)
                    clear hK K
                    (try simp only [Act.put, List.setIfInBounds_toArray, List.set_cons_zero, List.set_cons_succ])
                    refine wpAnyH_ready (rs := [11]) (by kernel_rfl) (by simp) ?_
                    refine AllReadyH.cons (o := _) rfl (fun K hK => ?_) AllReadyH.nil
                    go_simp
                    (go_at_call 26; refine (KW.out _ _ _ _ _ _ (by first | exact .inl ⟨rfl, rfl, rfl, rfl, rfl⟩ | exact .inr (.inl ⟨rfl, rfl, rfl, rfl, rfl⟩) | exact .inr (.inr ⟨rfl, rfl, rfl, rfl, rfl⟩))).mono ?_; rintro e X ⟨rfl, hx⟩; have hl0 := hS.2.2.lt; have hf0 := hS.2.2.far; have hr := hide ((hx.block (w.heap.size + 1) (by omega)).trans hr.out); clear hl0 hf0; have hS := keep19 hS hx; obtain ⟨hc, hf⟩ := row_at hr.out r1 r2 p1 p2)
                    refine hK.out _ _ (by exact hS) (fun hHeld => ?_)
                    clear hK K
                    (try simp only [Act.put, List.setIfInBounds_toArray, List.set_cons_zero, List.set_cons_succ])
                    refine wpAnyH_take (i := 12) (oi := _) (v := ?_) rfl (by kernel_rfl) (by kernel_rfl) (by kernel_rfl) (fun _ _ _ h => h) (Or.inl ⟨by rfl, ?_⟩) (by assumption) ?_
                    rotate_left
                    · intro w hSw
                      (try dsimp only at hSw)
                      go_simp
                      (try with_reducible rfl)
                    (try simp only [Act.put, List.setIfInBounds_toArray, List.set_cons_zero, List.set_cons_succ])
                    refine wpAnyH_take (i := 13) (oi := _) (v := ?_) rfl (by kernel_rfl) (by kernel_rfl) (by kernel_rfl) (fun _ _ _ h => h) (Or.inl ⟨by rfl, ?_⟩) (by assumption) ?_
                    rotate_left
                    · intro w hSw
                      (try dsimp only at hSw)
                      go_simp
                      (try with_reducible rfl)
                    (try simp only [Act.put, List.setIfInBounds_toArray, List.set_cons_zero, List.set_cons_succ])
                    refine wpAnyH_take (i := 14) (oi := _) (v := ?_) rfl (by kernel_rfl) (by kernel_rfl) (by kernel_rfl) (fun _ _ _ h => h) (Or.inl ⟨by rfl, ?_⟩) (by assumption) ?_
                    rotate_left
                    · intro w hSw
                      (try dsimp only at hSw)
                      go_simp
                      (try with_reducible rfl)
                    (try simp only [Act.put, List.setIfInBounds_toArray, List.set_cons_zero, List.set_cons_succ])
                    refine wpAnyH_take (i := 16) (oi := _) (v := ?_) rfl (by kernel_rfl) (by kernel_rfl) (by kernel_rfl) (fun _ _ _ h => h) (Or.inl ⟨by rfl, ?_⟩) (by assumption) ?_
                    rotate_left
                    · intro w hSw
                      (try dsimp only at hSw)
                      go_simp
                      (try with_reducible rfl)
                    (try simp only [Act.put, List.setIfInBounds_toArray, List.set_cons_zero, List.set_cons_succ])
                    refine wpAnyH_ready (rs := [17]) (by kernel_rfl) (by simp) ?_
                    refine AllReadyH.cons (o := _) rfl (fun K hK => ?_) AllReadyH.nil
                    go_simp
                    refine hK.out _ _ (by exact keep19s hfU hfV hfZ hS _ _) (fun hHeld => ?_)
                    clear hK K
                    (try simp only [Act.put, List.setIfInBounds_toArray, List.set_cons_zero, List.set_cons_succ])
                    refine wpAnyH_done (by kernel_rfl) ?_ _
                    have hS2 := keep19s (j := r1 * 13 + r2) (v := Value.int IntKind.i64 (bits BinOp.or IntKind.i64 ((M r1 r2 : Nat) : Int) (IntKind.i64.wrap (2 ^ min (IntKind.u64.wrap (r3 : Int)).toNat 64)))) hfU hfV hfZ hS
                    have hrr := (heap_setCell_same X (w.heap.size + 1) (r1 * 13 + r2) _ _ (Value.int IntKind.i64 (bits BinOp.or IntKind.i64 ((M r1 r2 : Nat) : Int) (IntKind.i64.wrap (2 ^ min (IntKind.u64.wrap (r3 : Int)).toNat 64)))) hr.out)
                    rw [hOR.out, tabA_set M r1 r2 (M r1 r2 ||| 2 ^ r3) p1 p2, ← HK.out] at hrr
                    rw [hOR.out] at hS2 ⊢
                    obtain ⟨_, ⟨k1, k2, _⟩, k3⟩ := hS2
                    clear hS hc hf
                    go_wp2
                    go_roundw
                    case rel => exact ⟨k + 1, by omega, by go_num, k1, k2, k3, hrr⟩
                    case measure => simp [intOf]; omega
                  · go_simp
                    (go_at_call 26; refine (KW.out _ _ _ _ _ _ (by first | exact .inl ⟨rfl, rfl, rfl, rfl, rfl⟩ | exact .inr (.inl ⟨rfl, rfl, rfl, rfl, rfl⟩) | exact .inr (.inr ⟨rfl, rfl, rfl, rfl, rfl⟩))).mono ?_; rintro e X ⟨rfl, hx⟩; have hl0 := hS.2.2.lt; have hf0 := hS.2.2.far; have hr := hide ((hx.block (w.heap.size + 1) (by omega)).trans hr.out); clear hl0 hf0; have hS := keep19 hS hx; obtain ⟨hc, hf⟩ := row_at hr.out r1 r2 p1 p2)
                    refine hK.out _ _ (by exact hS) (fun hHeld => ?_)
                    clear hK K
                    (try simp only [Act.put, List.setIfInBounds_toArray, List.set_cons_zero, List.set_cons_succ])
                    refine wpAnyH_take (i := 12) (oi := _) (v := ?_) rfl (by kernel_rfl) (by kernel_rfl) (by kernel_rfl) (fun _ _ _ h => h) (Or.inl ⟨by rfl, ?_⟩) (by assumption) ?_
                    rotate_left
                    · intro w hSw
                      (try dsimp only at hSw)
                      go_simp
                      (try with_reducible rfl)
                    (try simp only [Act.put, List.setIfInBounds_toArray, List.set_cons_zero, List.set_cons_succ])
                    refine wpAnyH_take (i := 13) (oi := _) (v := ?_) rfl (by kernel_rfl) (by kernel_rfl) (by kernel_rfl) (fun _ _ _ h => h) (Or.inl ⟨by rfl, ?_⟩) (by assumption) ?_
                    rotate_left
                    · intro w hSw
                      (try dsimp only at hSw)
                      go_simp
                      (try with_reducible rfl)
                    (try simp only [Act.put, List.setIfInBounds_toArray, List.set_cons_zero, List.set_cons_succ])
                    refine wpAnyH_ready (rs := [8]) (by kernel_rfl) (by simp) ?_
                    refine AllReadyH.cons (o := _) rfl (fun K hK => ?_) AllReadyH.nil
                    go_simp
                    refine hK.out _ _ (by exact hS) (fun hHeld => ?_)
                    clear hK K
                    (try simp only [Act.put, List.setIfInBounds_toArray, List.set_cons_zero, List.set_cons_succ])
                    refine wpAnyH_take (i := 14) (oi := _) (v := ?_) rfl (by kernel_rfl) (by kernel_rfl) (by kernel_rfl) (fun _ _ _ h => h) (Or.inl ⟨by rfl, ?_⟩) (by assumption) ?_
                    rotate_left
                    · intro w hSw
                      (try dsimp only at hSw)
                      go_simp
                      (try with_reducible rfl)
                    (try simp only [Act.put, List.setIfInBounds_toArray, List.set_cons_zero, List.set_cons_succ])
                    refine wpAnyH_take (i := 16) (oi := _) (v := ?_) rfl (by kernel_rfl) (by kernel_rfl) (by kernel_rfl) (fun _ _ _ h => h) (Or.inl ⟨by rfl, ?_⟩) (by assumption) ?_
                    rotate_left
                    · intro w hSw
                      (try dsimp only at hSw)
                      go_simp
                      (try with_reducible rfl)
                    (try simp only [Act.put, List.setIfInBounds_toArray, List.set_cons_zero, List.set_cons_succ])
                    refine wpAnyH_ready (rs := [17]) (by kernel_rfl) (by simp) ?_
                    refine AllReadyH.cons (o := _) rfl (fun K hK => ?_) AllReadyH.nil
                    go_simp
                    refine hK.out _ _ (by exact keep19s hfU hfV hfZ hS _ _) (fun hHeld => ?_)
                    clear hK K
                    (try simp only [Act.put, List.setIfInBounds_toArray, List.set_cons_zero, List.set_cons_succ])
                    refine wpAnyH_done (by kernel_rfl) ?_ _
                    have hS2 := keep19s (j := r1 * 13 + r2) (v := Value.int IntKind.i64 (bits BinOp.or IntKind.i64 ((M r1 r2 : Nat) : Int) (IntKind.i64.wrap (2 ^ min (IntKind.u64.wrap (r3 : Int)).toNat 64)))) hfU hfV hfZ hS
                    have hrr := (heap_setCell_same X (w.heap.size + 1) (r1 * 13 + r2) _ _ (Value.int IntKind.i64 (bits BinOp.or IntKind.i64 ((M r1 r2 : Nat) : Int) (IntKind.i64.wrap (2 ^ min (IntKind.u64.wrap (r3 : Int)).toNat 64)))) hr.out)
                    rw [hOR.out, tabA_set M r1 r2 (M r1 r2 ||| 2 ^ r3) p1 p2, ← HK.out] at hrr
                    rw [hOR.out] at hS2 ⊢
                    obtain ⟨_, ⟨k1, k2, _⟩, k3⟩ := hS2
                    clear hS hc hf
                    go_wp2
                    go_roundw
                    case rel => exact ⟨k + 1, by omega, by go_num, k1, k2, k3, hrr⟩
                    case measure => simp [intOf]; omega
                · have h15 : k = 15 := by omega
                  rw [h15, take15] at hrow
                  have hki : 15 ≤ (k : Int) := by omega
                  clear h15 hk hkt
                  go_wp2
                  go_roundw
                  case rel => exact ⟨m + 1, by omega, by go_num, hbu, hts, by rw [HM.out]; exact hrow⟩
                  case measure => simp [intOf]; omega
            · have h15 : m = 15 := by omega
              rw [h15, take15] at hrow
              have hmi : 15 ≤ (m : Int) := by omega
              clear h15 hm hmt
              go_wp2
              go_roundw
              case rel => exact ⟨n + 1, by omega, by go_num, hts, by rw [HN.out]; exact hrow⟩
              case measure => simp [intOf]; omega
        · have h15 : n = 15 := by omega
          rw [h15] at hrow
          clear hn hlt
          have hni : 15 ≤ (n : Int) := by omega
          clear h15
          rw [take15, g3_fol] at hrow
          go_wp2_with fail
          have hra : wr.rangeAt (w.heap.size + 1) 0 (tabA Spn.fol).toList := fun j v hv => by
            rw [Nat.zero_add, cell_of_row _ _ _ _ _ (0, 0) hrow]; simpa using hv
          have hu := Tryd.underlying76
          have hs1 : (Tryd.prog.info? 76).map (·.size) = some (tabA Spn.fol).toList.length := by rw [HS.out, Array.length_toList, tabA_size]
          refine wp_load_mid 76 (.tmp 1) rfl (w.heap.size + 1) 0 rfl (tabA Spn.fol).toList _ hra hu rfl hs1 ?_
          clear hra
          have hth : wr.there w.heap.size 0 (tabA Spn.fol).size := fun j hj => by
            rw [Nat.zero_add, cell_of_row _ _ _ _ _ (0, 0) hts.r0]
            exact ⟨by rw [Array.getElem?_eq_getElem (by rw [HZs.out]; rw [tabA_size] at hj; exact hj)]; rfl, frozen_of_row _ _ _ _ _ hts.r0⟩
          have hs2 : (Tryd.prog.info? 76).map (·.size) = some (tabA Spn.fol).size := by rw [HS.out, tabA_size]
          have h1c : (tabA Spn.fol).all (·.oneCell') = true := by
            rw [Array.all_eq_true_iff_forall_mem]
            intro v hv
            unfold tabA at hv
            simp only [List.mem_toArray, List.mem_map] at hv
            obtain ⟨j, _, rfl⟩ := hv
            rfl
          have hld := run_loadVar_mid (P := Tryd.prog) (wr.setCells w.heap.size 0 (tabA Spn.fol).toList) w.heap.size 0 76 (tabA Spn.fol).toList _ (World.rangeAt_setCells_same _ _ _ _ (by rw [Array.length_toList]; exact hth)) hu rfl hs1
          have hbel : Below w.heap.size w (wr.setCells w.heap.size 0 (tabA Spn.fol).toList) := setCells_below (Nat.le_refl _) _ _ _ hts.bel
          have HTH := hide hth
          have HS2 := hide hs2
          have H1C := hide h1c
          have HLD := hide hld
          have HBEL := hide hbel
          clear hu hs1 hth hs2 h1c hld hbel
          generalize hT : tabA Spn.fol = T at *
          have HE := hide hT
          clear hT
          go_step
          simp only [Act.put, List.setIfInBounds_toArray, List.set_cons_zero, List.set_cons_succ, Array.toArray_toList] at HLD ⊢
          refine wpList_store_mid rfl 76 (.tmp 0) (.tmp 65) rfl w.heap.size 0 T rfl rfl HTH.out HS2.out H1C.out ?_
          generalize wr.setCells w.heap.size 0 T.toList = WE at *
          clear hts hrow HTH
          go_wp2
          refine bodyPost_ret (v := .agg T) ?_ rfl ⟨by rw [HE.out], HBEL.out⟩
          simp [results, Tryd.results22, Act.put, asAddr, Result.andThen, Sem.run_bind, HLD.out]
end Go.Proofs.YtnaggcadmfmibaaDoor
