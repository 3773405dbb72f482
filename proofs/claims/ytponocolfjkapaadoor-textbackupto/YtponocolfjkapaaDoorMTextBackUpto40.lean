/- package almanackeep: same, samePart. -/
import Derived.Test.YtponocolfjkapaaDoorMTextBackUpto37
import Derived.Test.YtponocolfjkapaaDoorLinG
import Derived.Deep.RegionHeld3
import Derived.Deep.QuietTactic
import Derived.Deep.Cut
import Derived.Deep.CutRange
namespace Go.Proofs.YtponocolfjkapaaDoor
open Go.RowKit Go.Shelf
set_option linter.unusedVariables false
set_option linter.unusedSimpArgs false

set_option maxRecDepth 100000 in
set_option maxHeartbeats 4000000 in
theorem same_any (a b : Option Addr) (c d : Nat) (L : List ByteArray) (w : World) (h : SL a L w) (h2 : SL b L w) (h1 : L.length ≤ 1000000000) :
    Calls Tryd.prog 11 #[.slice a L.length c, .slice b L.length d] w fun e w' => e = .returned (.bool true) ∧ Below w.heap.size w w' := by
  have HA := hide h
  have HB := hide h2
  clear h h2
  go_enter Tryd.func11, Tryd.ntmps11
  go_wp2_with fail
  go_loopw [5] (fun i wr => ∃ k : Nat, k ≤ L.length ∧ i = .int .i64 k ∧ Below w.heap.size w wr) (fun i _ => L.length - (intOf i).toNat)
  case atStart => exact ⟨0, by omega, rfl, Below.refl _ _⟩
  case round =>
    obtain ⟨k, hk, rfl, hB⟩ := hrel
    by_cases hlt : k < L.length
    · have hki : (k : Int) < L.length := by omega
      have hk0 : (0 : Int) ≤ k := by omega
      obtain ⟨ad, rfl, hc⟩ := (HA.out.later hB) k hlt
      obtain ⟨bd, rfl, hd⟩ := (HB.out.later hB) k hlt
      generalize L[k] = s at *
      go_wp2_with fail
      go_quiet (fail)
      go_wp2
      go_roundw
      case rel => exact ⟨k + 1, by omega, by go_num, ⟨hB.os, hB.tape, hB.output, hB.size, hB.block⟩⟩
      case measure => simp [intOf]; omega
    · have hkn : k = L.length := by omega
      have hki : (L.length : Int) ≤ k := by omega
      subst hkn
      go_wp2
      go_ret
      exact ⟨rfl, hB⟩
/-- two parts' boxes -/
structure SW (w : World) (cs1 cs2 : Array Value) (W : World) : Prop where
  x : W.heap[w.heap.size]? = some (.cells cs1 25 (0, 0))
  y : W.heap[w.heap.size + 1]? = some (.cells cs2 25 (0, 0))
  b : Below w.heap.size w W
theorem SW.later {w : World} {cs1 cs2 : Array Value} {W W' : World} (h : SW w cs1 cs2 W) (hb : Below W.heap.size W W') : SW w cs1 cs2 W' :=
  ⟨(hb.block _ (Array.getElem?_eq_some_iff.1 h.x).1).trans h.x, (hb.block _ (Array.getElem?_eq_some_iff.1 h.y).1).trans h.y, h.b.trans (hb.mono h.b.size)⟩
theorem SW.cells {w : World} {a b c a' b' c' : Value} {W : World} (h : SW w #[a, b, c] #[a', b', c'] W) : W.cell? ⟨w.heap.size, 0, none⟩ = some a ∧ W.cell? ⟨w.heap.size, 1, none⟩ = some b ∧ W.cell? ⟨w.heap.size, 2, none⟩ = some c ∧ W.cell? ⟨w.heap.size + 1, 0, none⟩ = some a' ∧ W.cell? ⟨w.heap.size + 1, 1, none⟩ = some b' ∧ W.cell? ⟨w.heap.size + 1, 2, none⟩ = some c' :=
  ⟨cell_of_row _ _ _ _ _ (0, 0) h.x, cell_of_row _ _ _ _ _ (0, 0) h.x, cell_of_row _ _ _ _ _ (0, 0) h.x, cell_of_row _ _ _ _ _ (0, 0) h.y, cell_of_row _ _ _ _ _ (0, 0) h.y, cell_of_row _ _ _ _ _ (0, 0) h.y⟩
theorem SW.lt {w : World} {cs1 cs2 : Array Value} {W : World} (h : SW w cs1 cs2 W) : w.heap.size + 1 < W.heap.size := (Array.getElem?_eq_some_iff.1 h.y).1
/-- and two lines' boxes -/
structure SL2 (w : World) (cs1 cs2 : Array Value) (g1 g2 : Nat) (y : PLn) (Av : Option Addr) (cv : Nat) (Bv : Option Addr) (dv : Nat) (W : World) : Prop where
  s : SW w cs1 cs2 W
  a : LnBox W g1 y Av cv
  b : LnBox W g2 y Bv dv
  p : PS Av y.ps W
  q : PS Bv y.ps W
theorem SL2.later {w : World} {cs1 cs2 : Array Value} {g1 g2 : Nat} {y : PLn} {Av : Option Addr} {cv : Nat} {Bv : Option Addr} {dv : Nat} {W W' : World} (h : SL2 w cs1 cs2 g1 g2 y Av cv Bv dv W) (hb : Below W.heap.size W W') : SL2 w cs1 cs2 g1 g2 y Av cv Bv dv W' :=
  ⟨h.s.later hb, h.a.later hb, h.b.later hb, h.p.later hb, h.q.later hb⟩
/-- what a comparison of two params reads -/
structure QS (wr : World) (g1 g2 : Nat) (s1 s2 : Value) (a1 a2 : Addr) (n : ByteArray) (u1 u2 : Value) (X : World) : Prop where
  a : X.cell? ⟨g1, 1, none⟩ = some s1
  b : X.cell? ⟨g2, 1, none⟩ = some s2
  c : X.cell? a1 = some (.string n)
  d : X.cell? a2 = some (.string n)
  e : X.cell? ⟨a1.block, a1.off + 1, none⟩ = some u1
  f : X.cell? ⟨a2.block, a2.off + 1, none⟩ = some u2
  w : Below wr.heap.size wr X
theorem QS.later {wr : World} {g1 g2 : Nat} {s1 s2 : Value} {a1 a2 : Addr} {n : ByteArray} {u1 u2 : Value} {X Y : World} (h : QS wr g1 g2 s1 s2 a1 a2 n u1 u2 X) (hb : Below X.heap.size X Y) : QS wr g1 g2 s1 s2 a1 a2 n u1 u2 Y :=
  ⟨(hb.cell (World.block_lt_of_cell? _ _ h.a)).trans h.a, (hb.cell (World.block_lt_of_cell? _ _ h.b)).trans h.b, (hb.cell (World.block_lt_of_cell? _ _ h.c)).trans h.c, (hb.cell (World.block_lt_of_cell? _ _ h.d)).trans h.d, (hb.cell (World.block_lt_of_cell? _ _ h.e)).trans h.e, (hb.cell (World.block_lt_of_cell? _ _ h.f)).trans h.f, h.w.trans (hb.mono h.w.size)⟩
/-- what a comparison of two parts within reads -/
structure QP (w wr : World) (cs1 cs2 : Array Value) (a1 a2 : Addr) (x0 x1 x2 y0 y1 y2 : Value) (X : World) : Prop where
  s : SW w cs1 cs2 X
  a : X.cell? a1 = some x0
  b : X.cell? ⟨a1.block, a1.off + 1, none⟩ = some x1
  c : X.cell? ⟨a1.block, a1.off + 2, none⟩ = some x2
  d : X.cell? a2 = some y0
  e : X.cell? ⟨a2.block, a2.off + 1, none⟩ = some y1
  f : X.cell? ⟨a2.block, a2.off + 2, none⟩ = some y2
  w : Below wr.heap.size wr X
theorem QP.later {w wr : World} {cs1 cs2 : Array Value} {a1 a2 : Addr} {x0 x1 x2 y0 y1 y2 : Value} {X Y : World} (h : QP w wr cs1 cs2 a1 a2 x0 x1 x2 y0 y1 y2 X) (hb : Below X.heap.size X Y) : QP w wr cs1 cs2 a1 a2 x0 x1 x2 y0 y1 y2 Y :=
  ⟨h.s.later hb, (hb.cell (World.block_lt_of_cell? _ _ h.a)).trans h.a, (hb.cell (World.block_lt_of_cell? _ _ h.b)).trans h.b, (hb.cell (World.block_lt_of_cell? _ _ h.c)).trans h.c, (hb.cell (World.block_lt_of_cell? _ _ h.d)).trans h.d, (hb.cell (World.block_lt_of_cell? _ _ h.e)).trans h.e, (hb.cell (World.block_lt_of_cell? _ _ h.f)).trans h.f, h.w.trans (hb.mono h.w.size)⟩
/-- what samePart says -/
def PartS (t : PPt) : Prop := ∀ (v1 v2 : Value) (w : World), PtM t v1 w → PtM t v2 w → Calls Tryd.prog 13 #[v1, v2] w fun e w' => e = .returned (.bool true) ∧ Below w.heap.size w w'
set_option maxRecDepth 100000 in
set_option maxHeartbeats 8000000 in
theorem partS_step (nm : ByteArray) (ls : List PLn) (ks : List PPt) (IH : ∀ k (h : k < ks.length), PartS ks[k]) : PartS (.mk nm ls ks) := by
  intro v1 v2 w hp1 hp2
  unfold PtM at hp1 hp2
  obtain ⟨z1, z2, z3, A, c, A2, c2, rfl, hls, hks⟩ := hp1
  obtain ⟨_, _, _, B, d, B2, d2, rfl, hls2, hks2⟩ := hp2
  have hS : SW w #[.string nm, .slice A ls.length c, .slice A2 ks.length c2] #[.string nm, .slice B ls.length d, .slice B2 ks.length d2] ((w.alloc (.cells #[.string nm, .slice A ls.length c, .slice A2 ks.length c2] 25)).alloc (.cells #[.string nm, .slice B ls.length d, .slice B2 ks.length d2] 25)) := by
    have h1 := World.alloc_heap_new w (.cells #[.string nm, .slice A ls.length c, .slice A2 ks.length c2] 25)
    have h2 := World.alloc_heap_new (w.alloc (.cells #[.string nm, .slice A ls.length c, .slice A2 ks.length c2] 25)) (.cells #[.string nm, .slice B ls.length d, .slice B2 ks.length d2] 25)
    rw [World.size_alloc] at h2
    have hb : Below w.heap.size w (w.alloc (.cells #[.string nm, .slice A ls.length c, .slice A2 ks.length c2] 25)) := (Below.refl _ w).alloc (Nat.le_refl _) _
    exact ⟨(((Below.refl _ (w.alloc (.cells #[.string nm, .slice A ls.length c, .slice A2 ks.length c2] 25))).alloc (Nat.le_refl _) (.cells #[.string nm, .slice B ls.length d, .slice B2 ks.length d2] 25)).block _ (by simp)).trans h1, h2, hb.alloc hb.size _⟩
  have HP := hide (And.intro hls (And.intro hks (And.intro hls2 hks2)))
  have HI := hide IH
  have HS := hide hS
  have hnn : (nm.toList == nm.toList) = true := by simp
  obtain ⟨e0, e1, e2, e3, e4, e5⟩ := hS.cells
  clear hls hks hls2 hks2 hS IH
  go_enter Tryd.func13, Tryd.ntmps13
  go_wp2_with fail
  clear e0 e1 e2 e3 e4 e5
  generalize (w.alloc (.cells #[.string nm, .slice A ls.length c, .slice A2 ks.length c2] 25)).alloc (.cells #[.string nm, .slice B ls.length d, .slice B2 ks.length d2] 25) = W0 at *
  go_loopw [5] (fun i wr => ∃ k : Nat, k ≤ ls.length ∧ i = .int .i64 k ∧ SW w #[.string nm, .slice A ls.length c, .slice A2 ks.length c2] #[.string nm, .slice B ls.length d, .slice B2 ks.length d2] wr) (fun i _ => ls.length - (intOf i).toNat)
  case atStart => exact ⟨0, by omega, rfl, HS.out⟩
  case round =>
    clear HS
    obtain ⟨k, hk, rfl, hS⟩ := hrel
    obtain ⟨e0, e1, e2, e3, e4, e5⟩ := hS.cells
    have hlt0 := hS.lt
    by_cases hlt : k < ls.length
    · have hki : (k : Int) < ls.length := by omega
      have hk0 : (0 : Int) ≤ k := by omega
      obtain ⟨ad, Av, cv, rfl, p0, p1, p2, hs1, hok⟩ := (HP.out.1.later hS.b) k hlt
      obtain ⟨bd, Bv, dv, rfl, q0, q1, q2, hs2, _⟩ := (HP.out.2.2.1.later hS.b) k hlt
      generalize ls[k] = y at *
      have m1 := World.block_lt_of_cell? _ _ p0
      have m2 := World.block_lt_of_cell? _ _ q0
      have m3 : w.heap.size < wr.heap.size := by omega
      have n1 : (ad.add (k * 3)).block ≠ wr.heap.size := by omega
      have n2 : (bd.add (k * 3)).block ≠ wr.heap.size := by omega
      have n3 : w.heap.size ≠ wr.heap.size := by omega
      have n4 : w.heap.size + 1 ≠ wr.heap.size := by omega
      have HS := hide hS
      have HQ := hide (And.intro hs1 (And.intro hs2 hok))
      have hyn : (y.n.toList == y.n.toList) = true := by simp
      have hyv : (y.v.toList == y.v.toList) = true := by simp
      have hpl := hok.l
      clear hS hs1 hs2 hok
      have hb1 := (Below.refl _ wr).alloc (Nat.le_refl _) (.cells #[.string y.n, .slice Av y.ps.length cv, .string y.v] 56)
      have hb2 := (Below.refl _ wr).alloc (Nat.le_refl _) (.cells #[.string y.n, .slice Bv y.ps.length dv, .string y.v] 56)
      have k1 := World.alloc_heap_new wr (.cells #[.string y.n, .slice Av y.ps.length cv, .string y.v] 56)
      have k2 := World.alloc_heap_new wr (.cells #[.string y.n, .slice Bv y.ps.length dv, .string y.v] 56)
      have k3 := World.alloc_heap_new (wr.alloc (.cells #[.string y.n, .slice Av y.ps.length cv, .string y.v] 56)) (.cells #[.string y.n, .slice Bv y.ps.length dv, .string y.v] 56)
      have k4 := World.alloc_heap_new (wr.alloc (.cells #[.string y.n, .slice Bv y.ps.length dv, .string y.v] 56)) (.cells #[.string y.n, .slice Av y.ps.length cv, .string y.v] 56)
      rw [World.size_alloc] at k3 k4
      have hc1 := (Below.refl _ (wr.alloc (.cells #[.string y.n, .slice Av y.ps.length cv, .string y.v] 56))).alloc (Nat.le_refl _) (.cells #[.string y.n, .slice Bv y.ps.length dv, .string y.v] 56)
      have hc2 := (Below.refl _ (wr.alloc (.cells #[.string y.n, .slice Bv y.ps.length dv, .string y.v] 56))).alloc (Nat.le_refl _) (.cells #[.string y.n, .slice Av y.ps.length cv, .string y.v] 56)
      have HK := hide (And.intro (And.intro ((hc1.block _ (by simp)).trans k1) (And.intro k3 (hb1.trans (hc1.mono hb1.size)))) (And.intro ((hc2.block _ (by simp)).trans k2) (And.intro k4 (hb2.trans (hc2.mono hb2.size)))))
      clear hb1 hb2 k1 k2 k3 k4 hc1 hc2
      go_upto_region 6 with fail
      go_cut [6, 7] from 33 to 106 (fun s6 s7 wc => ∃ g1 g2, s6 = .pointer (some ⟨g1, 0, none⟩) ∧ s7 = .pointer (some ⟨g2, 0, none⟩) ∧ LnBox wc g1 y Av cv ∧ LnBox wc g2 y Bv dv ∧ Below wr.heap.size wr wc)
      case first =>
        go_region
        all_goals go_wp2_with fail
        all_goals go_meet
        all_goals (case rel => first | exact ⟨_, _, rfl, rfl, HK.out.1.1, HK.out.1.2.1, HK.out.1.2.2.drew⟩ | exact ⟨_, _, rfl, rfl, HK.out.2.2.1, HK.out.2.1, HK.out.2.2.2.drew⟩)
      case rest =>
        obtain ⟨g1, g2, rfl, rfl, hb1, hb2, hbb⟩ := hcut
        have hS2 := HS.out.later hbb
        have HT := hide (SL2.mk hS2 hb1 hb2 (HQ.out.1.later hbb) (HQ.out.2.1.later hbb))
        have HO := hide HQ.out.2.2
        obtain ⟨t0, t1, t2⟩ := hb1.cells
        obtain ⟨r0, r1, r2⟩ := hb2.cells
        clear hS2 hb1 hb2 hbb HK HS HQ e0 e1 e2 e3 e4 e5 p0 p1 p2 q0 q1 q2 m1 m2 m3 n1 n2 n3 n4 hlt0
        go_wp2_with fail
        clear t0 t1 t2 r0 r1 r2
        go_loopw [8] (fun i wx => ∃ j : Nat, j ≤ y.ps.length ∧ i = .int .i64 j ∧ SL2 w #[.string nm, .slice (some ad) ls.length c, .slice A2 ks.length c2] #[.string nm, .slice (some bd) ls.length d, .slice B2 ks.length d2] g1 g2 y Av cv Bv dv wx) (fun i _ => y.ps.length - (intOf i).toNat)
        case atStart => exact ⟨0, by omega, rfl, HT.out⟩
        case round =>
          clear HT
          obtain ⟨j, hj, rfl, hT⟩ := hrel
          obtain ⟨t0, t1, t2⟩ := hT.a.cells
          obtain ⟨r0, r1, r2⟩ := hT.b.cells
          by_cases hlj : j < y.ps.length
          · have hji : (j : Int) < y.ps.length := by omega
            have hj0 : (0 : Int) ≤ j := by omega
            obtain ⟨a1, Av2, cw, rfl, p0, p1, hs1⟩ := hT.p j hlj
            obtain ⟨b1, Bv2, dw, rfl, q0, q1, hs2⟩ := hT.q j hlj
            have hvl := (HO.out.p j hlj).l
            generalize y.ps[j] = x at *
            have hxn : (x.n.toList == x.n.toList) = true := by simp
            have KS := hide (fun W (hb : Below wr.heap.size wr W) => same_any Av2 Bv2 cw dw x.vs W (hs1.later hb) (hs2.later hb) hvl)
            have HT := hide hT
            have HQ := hide (QS.mk t1 r1 p0 q0 p1 q1 (Below.refl _ wr))
            clear hs1 hs2 hT t0 t2 r0 r2 p0 p1 q0 q1
            go_upto_region 12 with fail
            have hS : QS wr g1 g2 (.slice (some a1) y.ps.length cv) (.slice (some b1) y.ps.length dv) (a1.add (j * 2)) (b1.add (j * 2)) x.n (.slice Av2 x.vs.length cw) (.slice Bv2 x.vs.length dw) wr.drew := ⟨HQ.out.a, HQ.out.b, HQ.out.c, HQ.out.d, HQ.out.e, HQ.out.f, HQ.out.w.drew⟩
            clear t1 r1 HQ
            --R12<
            refine wp_region_noPanic ?_
            refine wp_region_linGM (S := QS wr g1 g2 (.slice (some a1) y.ps.length cv) (.slice (some b1) y.ps.length dv) (a1.add (j * 2)) (b1.add (j * 2)) x.n (.slice Av2 x.vs.length cw) (.slice Bv2 x.vs.length dw)) (R := fun _ => True) [] (by kernel_rfl) (by kernel_rfl) [(0, none, 1), (1, none, 0), (2, none, 1), (3, none, 1), (4, none, 1), (5, none, 0), (6, none, 1), (7, none, 0), (8, none, 1), (9, none, 1), (10, none, 1), (11, none, 0), (12, none, 1), (13, none, 1), (14, some (91, false), 1), (15, some (91, false), 0), (16, some (91, false), 1), (17, some (91, false), 1), (18, some (91, false), 1), (19, some (91, false), 0), (20, some (91, false), 1), (21, some (91, false), 0), (22, some (91, false), 1), (23, some (91, false), 1), (24, some (91, false), 1), (25, some (91, false), 0), (26, some (91, false), 2), (27, some (91, false), 1), (28, none, 1)] (by kernel_rfl) (by kernel_rfl) (fun _ _ _ _ _ h => h) (by exact trivial) (by exact hS) (fun ops' Q' hops hQ' => ?_)
            refine wpLinG_pure (o := { dst := some 78, op := Go.Op.fieldAddr 56 (Go.Operand.tmp 6) 1, type := 0, pos := "house.go:59", after := #[], guard := none }) (v := ?vx0) (by rw [hops]; rfl) (by first | exact trivial | rfl) ?ex0 ?hx0
            case ex0 => intro w'; go_simp; (try rfl)
            (try simp only [Act.put, List.setIfInBounds_toArray, List.set_cons_zero, List.set_cons_succ])
            refine wpLinG_read (o := { dst := some 79, op := Go.Op.load 54 (Go.Operand.tmp 78), type := 54, pos := "house.go:59", after := #[{ on := 0, ground := Go.Ground.data }], guard := none }) (v := ?vx1) (by rw [hops]; rfl) (by first | exact trivial | rfl) hS ?ex1 ?hx1
            case ex1 => intro w' hw'; obtain ⟨d0, d1, d2, d3, d4, d5, _⟩ := hw'; go_simp; (try rfl)
            (try simp only [Act.put, List.setIfInBounds_toArray, List.set_cons_zero, List.set_cons_succ])
            refine wpLinG_pure (o := { dst := some 80, op := Go.Op.move (Go.Operand.tmp 8), type := 3, pos := "house.go:59", after := #[], guard := none }) (v := ?vx2) (by rw [hops]; rfl) (by first | exact trivial | rfl) ?ex2 ?hx2
            case ex2 => intro w'; go_simp; (try rfl)
            (try simp only [Act.put, List.setIfInBounds_toArray, List.set_cons_zero, List.set_cons_succ])
            refine wpLinG_pure (o := { dst := some 81, op := Go.Op.indexAddr 54 (Go.Operand.tmp 79) (Go.Operand.tmp 80), type := 0, pos := "house.go:59", after := #[{ on := 1, ground := Go.Ground.data }, { on := 2, ground := Go.Ground.data }], guard := none }) (v := ?vx3) (by rw [hops]; rfl) (by first | exact trivial | rfl) ?ex3 ?hx3
            case ex3 => intro w'; go_simp; (try rfl)
            (try simp only [Act.put, List.setIfInBounds_toArray, List.set_cons_zero, List.set_cons_succ])
            refine wpLinG_pure (o := { dst := some 82, op := Go.Op.fieldAddr 58 (Go.Operand.tmp 81) 0, type := 0, pos := "house.go:59", after := #[{ on := 3, ground := Go.Ground.data }], guard := none }) (v := ?vx4) (by rw [hops]; rfl) (by first | exact trivial | rfl) ?ex4 ?hx4
            case ex4 => intro w'; go_simp; (try rfl)
            (try simp only [Act.put, List.setIfInBounds_toArray, List.set_cons_zero, List.set_cons_succ])
            refine wpLinG_read (o := { dst := some 83, op := Go.Op.load 9 (Go.Operand.tmp 82), type := 9, pos := "house.go:59", after := #[{ on := 4, ground := Go.Ground.data }], guard := none }) (v := ?vx5) (by rw [hops]; rfl) (by first | exact trivial | rfl) hS ?ex5 ?hx5
            case ex5 => intro w' hw'; obtain ⟨d0, d1, d2, d3, d4, d5, _⟩ := hw'; go_simp; (try rfl)
            (try simp only [Act.put, List.setIfInBounds_toArray, List.set_cons_zero, List.set_cons_succ])
            refine wpLinG_pure (o := { dst := some 84, op := Go.Op.fieldAddr 56 (Go.Operand.tmp 7) 1, type := 0, pos := "house.go:59", after := #[], guard := none }) (v := ?vx6) (by rw [hops]; rfl) (by first | exact trivial | rfl) ?ex6 ?hx6
            case ex6 => intro w'; go_simp; (try rfl)
            (try simp only [Act.put, List.setIfInBounds_toArray, List.set_cons_zero, List.set_cons_succ])
            refine wpLinG_read (o := { dst := some 85, op := Go.Op.load 54 (Go.Operand.tmp 84), type := 54, pos := "house.go:59", after := #[{ on := 6, ground := Go.Ground.data }], guard := none }) (v := ?vx7) (by rw [hops]; rfl) (by first | exact trivial | rfl) hS ?ex7 ?hx7
            case ex7 => intro w' hw'; obtain ⟨d0, d1, d2, d3, d4, d5, _⟩ := hw'; go_simp; (try rfl)
            (try simp only [Act.put, List.setIfInBounds_toArray, List.set_cons_zero, List.set_cons_succ])
            refine wpLinG_pure (o := { dst := some 86, op := Go.Op.move (Go.Operand.tmp 8), type := 3, pos := "house.go:59", after := #[], guard := none }) (v := ?vx8) (by rw [hops]; rfl) (by first | exact trivial | rfl) ?ex8 ?hx8
            case ex8 => intro w'; go_simp; (try rfl)
            (try simp only [Act.put, List.setIfInBounds_toArray, List.set_cons_zero, List.set_cons_succ])
            refine wpLinG_pure (o := { dst := some 87, op := Go.Op.indexAddr 54 (Go.Operand.tmp 85) (Go.Operand.tmp 86), type := 0, pos := "house.go:59", after := #[{ on := 7, ground := Go.Ground.data }, { on := 8, ground := Go.Ground.data }], guard := none }) (v := ?vx9) (by rw [hops]; rfl) (by first | exact trivial | rfl) ?ex9 ?hx9
            case ex9 => intro w'; go_simp; (try rfl)
            (try simp only [Act.put, List.setIfInBounds_toArray, List.set_cons_zero, List.set_cons_succ])
            refine wpLinG_pure (o := { dst := some 88, op := Go.Op.fieldAddr 58 (Go.Operand.tmp 87) 0, type := 0, pos := "house.go:59", after := #[{ on := 9, ground := Go.Ground.data }], guard := none }) (v := ?vx10) (by rw [hops]; rfl) (by first | exact trivial | rfl) ?ex10 ?hx10
            case ex10 => intro w'; go_simp; (try rfl)
            (try simp only [Act.put, List.setIfInBounds_toArray, List.set_cons_zero, List.set_cons_succ])
            refine wpLinG_read (o := { dst := some 89, op := Go.Op.load 9 (Go.Operand.tmp 88), type := 9, pos := "house.go:59", after := #[{ on := 10, ground := Go.Ground.data }], guard := none }) (v := ?vx11) (by rw [hops]; rfl) (by first | exact trivial | rfl) hS ?ex11 ?hx11
            case ex11 => intro w' hw'; obtain ⟨d0, d1, d2, d3, d4, d5, _⟩ := hw'; go_simp; (try rfl)
            (try simp only [Act.put, List.setIfInBounds_toArray, List.set_cons_zero, List.set_cons_succ])
            refine wpLinG_pure (o := { dst := some 90, op := Go.Op.binOp Go.BinOp.neq 9 (Go.Operand.tmp 83) (Go.Operand.tmp 89) 9, type := 4, pos := "house.go:59", after := #[{ on := 5, ground := Go.Ground.data }, { on := 11, ground := Go.Ground.data }], guard := none }) (v := ?vx12) (by rw [hops]; rfl) (by first | exact trivial | rfl) ?ex12 ?hx12
            case ex12 => intro w'; go_simp; (try rfl)
            (try simp only [Act.put, List.setIfInBounds_toArray, List.set_cons_zero, List.set_cons_succ])
            refine wpLinG_pure (o := { dst := some 91, op := Go.Op.move (Go.Operand.tmp 90), type := 4, pos := "house.go:59", after := #[{ on := 12, ground := Go.Ground.data }], guard := none }) (v := ?vx13) (by rw [hops]; rfl) (by first | exact trivial | rfl) ?ex13 ?hx13
            case ex13 => intro w'; go_simp; (try rfl)
            (try simp only [Act.put, List.setIfInBounds_toArray, List.set_cons_zero, List.set_cons_succ])
            refine wpLinG_pure (o := { dst := some 92, op := Go.Op.fieldAddr 56 (Go.Operand.tmp 6) 1, type := 0, pos := "house.go:59", after := #[{ on := 13, ground := Go.Ground.guard }], guard := some (13, false) }) (v := ?vx14) (by rw [hops]; rfl) (by first | exact trivial | rfl) ?ex14 ?hx14
            case ex14 => intro w'; go_simp; (try rfl)
            (try simp only [Act.put, List.setIfInBounds_toArray, List.set_cons_zero, List.set_cons_succ])
            refine wpLinG_read (o := { dst := some 93, op := Go.Op.load 54 (Go.Operand.tmp 92), type := 54, pos := "house.go:59", after := #[{ on := 14, ground := Go.Ground.data }, { on := 13, ground := Go.Ground.guard }], guard := some (13, false) }) (v := ?vx15) (by rw [hops]; rfl) (by first | exact trivial | rfl) hS ?ex15 ?hx15
            case ex15 => intro w' hw'; obtain ⟨d0, d1, d2, d3, d4, d5, _⟩ := hw'; go_simp; (try rfl)
            (try simp only [Act.put, List.setIfInBounds_toArray, List.set_cons_zero, List.set_cons_succ])
            refine wpLinG_pure (o := { dst := some 94, op := Go.Op.move (Go.Operand.tmp 8), type := 3, pos := "house.go:59", after := #[{ on := 13, ground := Go.Ground.guard }], guard := some (13, false) }) (v := ?vx16) (by rw [hops]; rfl) (by first | exact trivial | rfl) ?ex16 ?hx16
            case ex16 => intro w'; go_simp; (try rfl)
            (try simp only [Act.put, List.setIfInBounds_toArray, List.set_cons_zero, List.set_cons_succ])
            refine wpLinG_pure (o := { dst := some 95, op := Go.Op.indexAddr 54 (Go.Operand.tmp 93) (Go.Operand.tmp 94), type := 0, pos := "house.go:59", after := #[{ on := 15, ground := Go.Ground.data }, { on := 16, ground := Go.Ground.data }, { on := 13, ground := Go.Ground.guard }], guard := some (13, false) }) (v := ?vx17) (by rw [hops]; rfl) (by first | exact trivial | rfl) ?ex17 ?hx17
            case ex17 => intro w'; go_simp; (try rfl)
            (try simp only [Act.put, List.setIfInBounds_toArray, List.set_cons_zero, List.set_cons_succ])
            refine wpLinG_pure (o := { dst := some 96, op := Go.Op.fieldAddr 58 (Go.Operand.tmp 95) 1, type := 0, pos := "house.go:59", after := #[{ on := 17, ground := Go.Ground.data }, { on := 13, ground := Go.Ground.guard }], guard := some (13, false) }) (v := ?vx18) (by rw [hops]; rfl) (by first | exact trivial | rfl) ?ex18 ?hx18
            case ex18 => intro w'; go_simp; (try rfl)
            (try simp only [Act.put, List.setIfInBounds_toArray, List.set_cons_zero, List.set_cons_succ])
            refine wpLinG_read (o := { dst := some 97, op := Go.Op.load 31 (Go.Operand.tmp 96), type := 31, pos := "house.go:59", after := #[{ on := 18, ground := Go.Ground.data }, { on := 13, ground := Go.Ground.guard }], guard := some (13, false) }) (v := ?vx19) (by rw [hops]; rfl) (by first | exact trivial | rfl) hS ?ex19 ?hx19
            case ex19 => intro w' hw'; obtain ⟨d0, d1, d2, d3, d4, d5, _⟩ := hw'; go_simp; (try rfl)
            (try simp only [Act.put, List.setIfInBounds_toArray, List.set_cons_zero, List.set_cons_succ])
            refine wpLinG_pure (o := { dst := some 98, op := Go.Op.fieldAddr 56 (Go.Operand.tmp 7) 1, type := 0, pos := "house.go:59", after := #[{ on := 13, ground := Go.Ground.guard }], guard := some (13, false) }) (v := ?vx20) (by rw [hops]; rfl) (by first | exact trivial | rfl) ?ex20 ?hx20
            case ex20 => intro w'; go_simp; (try rfl)
            (try simp only [Act.put, List.setIfInBounds_toArray, List.set_cons_zero, List.set_cons_succ])
            refine wpLinG_read (o := { dst := some 99, op := Go.Op.load 54 (Go.Operand.tmp 98), type := 54, pos := "house.go:59", after := #[{ on := 20, ground := Go.Ground.data }, { on := 13, ground := Go.Ground.guard }], guard := some (13, false) }) (v := ?vx21) (by rw [hops]; rfl) (by first | exact trivial | rfl) hS ?ex21 ?hx21
            case ex21 => intro w' hw'; obtain ⟨d0, d1, d2, d3, d4, d5, _⟩ := hw'; go_simp; (try rfl)
            (try simp only [Act.put, List.setIfInBounds_toArray, List.set_cons_zero, List.set_cons_succ])
            refine wpLinG_pure (o := { dst := some 100, op := Go.Op.move (Go.Operand.tmp 8), type := 3, pos := "house.go:59", after := #[{ on := 13, ground := Go.Ground.guard }], guard := some (13, false) }) (v := ?vx22) (by rw [hops]; rfl) (by first | exact trivial | rfl) ?ex22 ?hx22
            case ex22 => intro w'; go_simp; (try rfl)
            (try simp only [Act.put, List.setIfInBounds_toArray, List.set_cons_zero, List.set_cons_succ])
            refine wpLinG_pure (o := { dst := some 101, op := Go.Op.indexAddr 54 (Go.Operand.tmp 99) (Go.Operand.tmp 100), type := 0, pos := "house.go:59", after := #[{ on := 21, ground := Go.Ground.data }, { on := 22, ground := Go.Ground.data }, { on := 13, ground := Go.Ground.guard }], guard := some (13, false) }) (v := ?vx23) (by rw [hops]; rfl) (by first | exact trivial | rfl) ?ex23 ?hx23
            case ex23 => intro w'; go_simp; (try rfl)
            (try simp only [Act.put, List.setIfInBounds_toArray, List.set_cons_zero, List.set_cons_succ])
            refine wpLinG_pure (o := { dst := some 102, op := Go.Op.fieldAddr 58 (Go.Operand.tmp 101) 1, type := 0, pos := "house.go:59", after := #[{ on := 23, ground := Go.Ground.data }, { on := 13, ground := Go.Ground.guard }], guard := some (13, false) }) (v := ?vx24) (by rw [hops]; rfl) (by first | exact trivial | rfl) ?ex24 ?hx24
            case ex24 => intro w'; go_simp; (try rfl)
            (try simp only [Act.put, List.setIfInBounds_toArray, List.set_cons_zero, List.set_cons_succ])
            refine wpLinG_read (o := { dst := some 103, op := Go.Op.load 31 (Go.Operand.tmp 102), type := 31, pos := "house.go:59", after := #[{ on := 24, ground := Go.Ground.data }, { on := 13, ground := Go.Ground.guard }], guard := some (13, false) }) (v := ?vx25) (by rw [hops]; rfl) (by first | exact trivial | rfl) hS ?ex25 ?hx25
            case ex25 => intro w' hw'; obtain ⟨d0, d1, d2, d3, d4, d5, _⟩ := hw'; go_simp; (try rfl)
            (try simp only [Act.put, List.setIfInBounds_toArray, List.set_cons_zero, List.set_cons_succ])
            refine wpLinG_do (o := { dst := some 104, op := Go.Op.call { callee := Go.Callee.value (Go.Operand.func 11), args := #[Go.Operand.tmp 97, Go.Operand.tmp 103], argTypes := #[31, 31] }, type := 4, pos := "house.go:59", after := #[{ on := 19, ground := Go.Ground.data }, { on := 25, ground := Go.Ground.data }, { on := 13, ground := Go.Ground.chain }, { on := 13, ground := Go.Ground.guard }], guard := some (13, false) }) (by rw [hops]; rfl) (by first | exact trivial | rfl) (fun K hK => ?_)
            go_simp
            refine (KS.out _ hS.w).mono ?_
            rintro e Z ⟨rfl, hb⟩
            replace hS := hS.later hb
            clear hb
            go_simp
            refine hK _ _ trivial hS ?_
            clear hK K
            (try simp only [Act.put, List.setIfInBounds_toArray, List.set_cons_zero, List.set_cons_succ])
            refine wpLinG_pure (o := { dst := some 105, op := Go.Op.unOp Go.UnOp.not 4 (Go.Operand.tmp 104), type := 4, pos := "house.go:59", after := #[{ on := 26, ground := Go.Ground.data }, { on := 13, ground := Go.Ground.guard }], guard := some (13, false) }) (v := ?vx27) (by rw [hops]; rfl) (by first | exact trivial | rfl) ?ex27 ?hx27
            case ex27 => intro w'; go_simp; (try rfl)
            (try simp only [Act.put, List.setIfInBounds_toArray, List.set_cons_zero, List.set_cons_succ])
            refine wpLinG_pure (o := { dst := some 106, op := Go.Op.pick (Go.Operand.tmp 91) (Go.Operand.const (Go.Value.bool true)) (Go.Operand.tmp 105), type := 4, pos := "house.go:59", after := #[{ on := 13, ground := Go.Ground.data }, { on := 27, ground := Go.Ground.data }], guard := none }) (v := ?vx28) (by rw [hops]; rfl) (by first | exact trivial | rfl) ?ex28 ?hx28
            case ex28 => intro w'; go_simp; (try rfl)
            (try simp only [Act.put, List.setIfInBounds_toArray, List.set_cons_zero, List.set_cons_succ])
            subst hQ'
            refine NoPanic.normal ?_
            --R12>
            have HT2 := hide (HT.out.later hS.w)
            clear hS HT KS
            go_wp2
            go_roundw
            case rel => exact ⟨j + 1, by omega, by go_num, HT2.out⟩
            case measure => simp [intOf]; omega
          · obtain rfl : j = y.ps.length := by omega
            have hji : ¬ (y.ps.length : Int) < y.ps.length := by omega
            have HS2 := hide hT.s
            clear hT
            go_wp2
            go_roundw
            case rel => exact ⟨k + 1, by omega, by go_num, HS2.out⟩
            case measure => simp [intOf]; omega
    · obtain rfl : k = ls.length := by omega
      have hki : ¬ (ls.length : Int) < ls.length := by omega
      have HS := hide hS
      clear hS hlt0
      go_wp2_with fail
      clear e0 e1 e2 e3 e4 e5
      go_loopw [9] (fun i wx => ∃ j : Nat, j ≤ ks.length ∧ i = .int .i64 j ∧ SW w #[.string nm, .slice A ls.length c, .slice A2 ks.length c2] #[.string nm, .slice B ls.length d, .slice B2 ks.length d2] wx) (fun i _ => ks.length - (intOf i).toNat)
      case atStart => exact ⟨0, by omega, rfl, HS.out⟩
      case round =>
        clear HS
        obtain ⟨j, hj, rfl, hS⟩ := hrel
        obtain ⟨e0, e1, e2, e3, e4, e5⟩ := hS.cells
        by_cases hlj : j < ks.length
        · have hji : (j : Int) < ks.length := by omega
          have hj0 : (0 : Int) ≤ j := by omega
          have hk1 := KsM.later hS.b _ _ _ HP.out.2.1
          have hk2 := KsM.later hS.b _ _ _ HP.out.2.2.2
          obtain ⟨ad, x0, x1, x2, rfl, p0, p1, p2, hp⟩ := hk1.at j hlj
          obtain ⟨bd, y0, y1, y2, rfl, q0, q1, q2, hq⟩ := hk2.at j hlj
          rw [Nat.zero_add] at p0 p1 p2 q0 q1 q2
          have hIH := HI.out j hlj
          generalize ks[j] = t at *
          have KS := hide (fun W (hb : Below wr.heap.size wr W) => hIH _ _ W (PtM.later hb _ _ hp) (PtM.later hb _ _ hq))
          have HQ := hide (QP.mk hS p0 p1 p2 q0 q1 q2 (Below.refl _ wr))
          clear hS hk1 hk2 hp hq hIH p0 p1 p2 q0 q1 q2 e0 e1 e3 e4
          go_upto_region 17 with fail
          have hS : QP w wr #[.string nm, .slice A ls.length c, .slice (some ad) ks.length c2] #[.string nm, .slice B ls.length d, .slice (some bd) ks.length d2] (ad.add (j * 3)) (bd.add (j * 3)) x0 x1 x2 y0 y1 y2 wr.drew := ⟨⟨HQ.out.s.x, HQ.out.s.y, HQ.out.s.b.drew⟩, HQ.out.a, HQ.out.b, HQ.out.c, HQ.out.d, HQ.out.e, HQ.out.f, HQ.out.w.drew⟩
          clear e2 e5 HQ
          --R17<
          refine wp_region_noPanic ?_
          refine wp_region_linGM (S := QP w wr #[.string nm, .slice A ls.length c, .slice (some ad) ks.length c2] #[.string nm, .slice B ls.length d, .slice (some bd) ks.length d2] (ad.add (j * 3)) (bd.add (j * 3)) x0 x1 x2 y0 y1 y2) (R := fun _ => True) [] (by kernel_rfl) (by kernel_rfl) [(0, none, 1), (1, none, 0), (2, none, 1), (3, none, 1), (4, none, 0), (5, none, 1), (6, none, 0), (7, none, 1), (8, none, 1), (9, none, 0), (10, none, 2), (11, none, 1)] (by kernel_rfl) (by kernel_rfl) (fun _ _ _ _ _ h => h) (by exact trivial) (by exact hS) (fun ops' Q' hops hQ' => ?_)
          refine wpLinG_pure (o := { dst := some 114, op := Go.Op.fieldAddr 25 (Go.Operand.tmp 2) 2, type := 0, pos := "house.go:65", after := #[], guard := none }) (v := ?vy0) (by rw [hops]; rfl) (by first | exact trivial | rfl) ?ey0 ?hy0
          case ey0 => intro w'; go_simp; (try rfl)
          (try simp only [Act.put, List.setIfInBounds_toArray, List.set_cons_zero, List.set_cons_succ])
          refine wpLinG_read (o := { dst := some 115, op := Go.Op.load 23 (Go.Operand.tmp 114), type := 23, pos := "house.go:65", after := #[{ on := 0, ground := Go.Ground.data }], guard := none }) (v := ?vy1) (by rw [hops]; rfl) (by first | exact trivial | rfl) hS ?ey1 ?hy1
          case ey1 => intro w' hw'; obtain ⟨ss, d0, d1, d2, d3, d4, d5, _⟩ := hw'; obtain ⟨f0, f1, f2, f3, f4, f5⟩ := ss.cells; go_simp; (try rfl)
          (try simp only [Act.put, List.setIfInBounds_toArray, List.set_cons_zero, List.set_cons_succ])
          refine wpLinG_pure (o := { dst := some 116, op := Go.Op.move (Go.Operand.tmp 9), type := 3, pos := "house.go:65", after := #[], guard := none }) (v := ?vy2) (by rw [hops]; rfl) (by first | exact trivial | rfl) ?ey2 ?hy2
          case ey2 => intro w'; go_simp; (try rfl)
          (try simp only [Act.put, List.setIfInBounds_toArray, List.set_cons_zero, List.set_cons_succ])
          refine wpLinG_pure (o := { dst := some 117, op := Go.Op.indexAddr 23 (Go.Operand.tmp 115) (Go.Operand.tmp 116), type := 0, pos := "house.go:65", after := #[{ on := 1, ground := Go.Ground.data }, { on := 2, ground := Go.Ground.data }], guard := none }) (v := ?vy3) (by rw [hops]; rfl) (by first | exact trivial | rfl) ?ey3 ?hy3
          case ey3 => intro w'; go_simp; (try rfl)
          (try simp only [Act.put, List.setIfInBounds_toArray, List.set_cons_zero, List.set_cons_succ])
          refine wpLinG_read (o := { dst := some 118, op := Go.Op.load 25 (Go.Operand.tmp 117), type := 25, pos := "house.go:65", after := #[{ on := 3, ground := Go.Ground.data }], guard := none }) (v := ?vy4) (by rw [hops]; rfl) (by first | exact trivial | rfl) hS ?ey4 ?hy4
          case ey4 => intro w' hw'; obtain ⟨ss, d0, d1, d2, d3, d4, d5, _⟩ := hw'; obtain ⟨f0, f1, f2, f3, f4, f5⟩ := ss.cells; go_simp; (try rfl)
          (try simp only [Act.put, List.setIfInBounds_toArray, List.set_cons_zero, List.set_cons_succ])
          refine wpLinG_pure (o := { dst := some 119, op := Go.Op.fieldAddr 25 (Go.Operand.tmp 3) 2, type := 0, pos := "house.go:65", after := #[], guard := none }) (v := ?vy5) (by rw [hops]; rfl) (by first | exact trivial | rfl) ?ey5 ?hy5
          case ey5 => intro w'; go_simp; (try rfl)
          (try simp only [Act.put, List.setIfInBounds_toArray, List.set_cons_zero, List.set_cons_succ])
          refine wpLinG_read (o := { dst := some 120, op := Go.Op.load 23 (Go.Operand.tmp 119), type := 23, pos := "house.go:65", after := #[{ on := 5, ground := Go.Ground.data }], guard := none }) (v := ?vy6) (by rw [hops]; rfl) (by first | exact trivial | rfl) hS ?ey6 ?hy6
          case ey6 => intro w' hw'; obtain ⟨ss, d0, d1, d2, d3, d4, d5, _⟩ := hw'; obtain ⟨f0, f1, f2, f3, f4, f5⟩ := ss.cells; go_simp; (try rfl)
          (try simp only [Act.put, List.setIfInBounds_toArray, List.set_cons_zero, List.set_cons_succ])
          refine wpLinG_pure (o := { dst := some 121, op := Go.Op.move (Go.Operand.tmp 9), type := 3, pos := "house.go:65", after := #[], guard := none }) (v := ?vy7) (by rw [hops]; rfl) (by first | exact trivial | rfl) ?ey7 ?hy7
          case ey7 => intro w'; go_simp; (try rfl)
          (try simp only [Act.put, List.setIfInBounds_toArray, List.set_cons_zero, List.set_cons_succ])
          refine wpLinG_pure (o := { dst := some 122, op := Go.Op.indexAddr 23 (Go.Operand.tmp 120) (Go.Operand.tmp 121), type := 0, pos := "house.go:65", after := #[{ on := 6, ground := Go.Ground.data }, { on := 7, ground := Go.Ground.data }], guard := none }) (v := ?vy8) (by rw [hops]; rfl) (by first | exact trivial | rfl) ?ey8 ?hy8
          case ey8 => intro w'; go_simp; (try rfl)
          (try simp only [Act.put, List.setIfInBounds_toArray, List.set_cons_zero, List.set_cons_succ])
          refine wpLinG_read (o := { dst := some 123, op := Go.Op.load 25 (Go.Operand.tmp 122), type := 25, pos := "house.go:65", after := #[{ on := 8, ground := Go.Ground.data }], guard := none }) (v := ?vy9) (by rw [hops]; rfl) (by first | exact trivial | rfl) hS ?ey9 ?hy9
          case ey9 => intro w' hw'; obtain ⟨ss, d0, d1, d2, d3, d4, d5, _⟩ := hw'; obtain ⟨f0, f1, f2, f3, f4, f5⟩ := ss.cells; go_simp; (try rfl)
          (try simp only [Act.put, List.setIfInBounds_toArray, List.set_cons_zero, List.set_cons_succ])
          refine wpLinG_do (o := { dst := some 124, op := Go.Op.call { callee := Go.Callee.value (Go.Operand.func 13), args := #[Go.Operand.tmp 118, Go.Operand.tmp 123], argTypes := #[25, 25] }, type := 4, pos := "house.go:65", after := #[{ on := 4, ground := Go.Ground.data }, { on := 9, ground := Go.Ground.data }], guard := none }) (by rw [hops]; rfl) (by first | exact trivial | rfl) (fun K hK => ?_)
          go_simp
          refine (KS.out _ hS.w).mono ?_
          rintro e Z ⟨rfl, hb⟩
          replace hS := hS.later hb
          clear hb
          go_simp
          refine hK _ _ trivial hS ?_
          clear hK K
          (try simp only [Act.put, List.setIfInBounds_toArray, List.set_cons_zero, List.set_cons_succ])
          refine wpLinG_pure (o := { dst := some 125, op := Go.Op.unOp Go.UnOp.not 4 (Go.Operand.tmp 124), type := 4, pos := "house.go:65", after := #[{ on := 10, ground := Go.Ground.data }], guard := none }) (v := ?vy11) (by rw [hops]; rfl) (by first | exact trivial | rfl) ?ey11 ?hy11
          case ey11 => intro w'; go_simp; (try rfl)
          (try simp only [Act.put, List.setIfInBounds_toArray, List.set_cons_zero, List.set_cons_succ])
          subst hQ'
          refine NoPanic.normal ?_
          --R17>
          have HT2 := hide hS.s
          clear hS KS
          go_wp2
          go_roundw
          case rel => exact ⟨j + 1, by omega, by go_num, HT2.out⟩
          case measure => simp [intOf]; omega
        · obtain rfl : j = ks.length := by omega
          have hji : ¬ (ks.length : Int) < ks.length := by omega
          have HB := hide hS.b
          clear hS
          go_wp2
          go_ret
          exact ⟨rfl, HB.out⟩
mutual
theorem partS_any : ∀ t, PartS t
  | .mk nm ls ks => partS_step nm ls ks (partsS_any ks)
theorem partsS_any : ∀ (ks : List PPt) (k : Nat) (h : k < ks.length), PartS ks[k]
  | [], k, h => absurd h (Nat.not_lt_zero _)
  | x :: ks, 0, h => partS_any x
  | x :: ks, k + 1, h => partsS_any ks k (by simpa using h)
end
end Go.Proofs.YtponocolfjkapaaDoor
