/- package text: lineText. -/
import Derived.Test.YtponocolfjkapaaDoorMTextBackUpto28
import Derived.Deep.Cut
namespace Go.Proofs.YtponocolfjkapaaDoor
open Go.RowKit Go.Shelf
set_option linter.unusedVariables false
set_option linter.unusedSimpArgs false

/-- what lineText's walk keeps -/
structure LQ (w : World) (x : PLn) (A : Option Addr) (c : Nat) (v : Value) (l : List UInt8) (W : World) : Prop where
  b : LnBox W w.heap.size x A c
  e : Below w.heap.size w W
  r : CO W (w.heap.size + 1) v l
set_option maxRecDepth 100000 in
set_option maxHeartbeats 8000000 in
theorem lineText_any (x : PLn) (A : Option Addr) (c : Nat) (w : World) (h : PS A x.ps w) (ho : LnOk x) (hb : (lT x).length ≤ 1000000000) :
    Calls Tryd.prog 35 #[.agg #[.string x.n, .slice A x.ps.length c, .string x.v]] w fun e w' => e = .returned (.string (Tl.str (lT x))) ∧ Below w.heap.size w w' := by
  have hl := ho.l
  have HPS := hide (fun W (hW : Below w.heap.size w W) => h.later hW)
  have HO := hide ho
  have HLB := hide hb
  have hx0 : LnBox (w.alloc (.cells #[.string x.n, .slice A x.ps.length c, .string x.v] 56)) w.heap.size x A c := World.alloc_heap_new w _
  have hb0 : Below w.heap.size w (w.alloc (.cells #[.string x.n, .slice A x.ps.length c, .string x.v] 56)) := (Below.refl _ w).alloc (Nat.le_refl _) _
  have HX := hide (And.intro hx0 hb0)
  clear h ho hb hx0 hb0
  go_enter Tryd.func35, Tryd.ntmps35
  go_upto_region 1 with fail
  obtain ⟨W0, hW0⟩ : ∃ W0, (w.alloc (.cells #[.string x.n, .slice A x.ps.length c, .string x.v] 56)) = W0 := ⟨_, rfl⟩
  rw [hW0] at HX ⊢
  obtain ⟨hx0, hb0⟩ := HX.out
  have hs0 : W0.heap.size = w.heap.size + 1 := by rw [← hW0, World.size_alloc]
  clear hW0 HX
  obtain ⟨c0, c1, c2⟩ := hx0.cells
  have hcv := Lib.run_convert_string_bytes (P := Tryd.prog) W0 9 59 5 x.n Tryd.underlying9 Tryd.underlying59 Tryd.underlying5
  have hbw : Below W0.heap.size W0 (Lib.bytesWorld W0 5 x.n) := ⟨rfl, rfl, rfl, by rw [Lib.bytesWorld_size]; omega, fun k hk => Lib.bytesWorld_at_old _ _ _ k hk⟩
  have hcb := CB.new W0 x.n (by have := HO.out.n; omega)
  have hq : LQ w x A c (.slice (some ⟨W0.heap.size, 0, none⟩) x.n.size (grownCap W0 x.n.size 0 5)) (Tl.tx x.n ++ psT (x.ps.take 0)) (Lib.bytesWorld W0 5 x.n) := by
    refine ⟨hx0.later hbw, hb0.trans (hbw.mono (by omega)), ?_⟩
    rw [show Tl.tx x.n ++ psT (x.ps.take 0) = Tl.tx x.n by simp [psT]]
    exact ⟨W0.heap.size, _, by rw [Tl.tx_len], by omega, hcb⟩
  rw [hs0] at hq
  have HQ := hide hq
  obtain ⟨d0, d1, d2⟩ := hq.b.cells
  clear hcb hq hbw
  generalize Lib.bytesWorld W0 5 x.n = W5 at *
  go_wp2_with fail
  go_loopw [3, 15] (fun u i wr => ∃ k : Nat, k ≤ x.ps.length ∧ i = .int .i64 k ∧ LQ w x A c u (Tl.tx x.n ++ psT (x.ps.take k)) wr) (fun _ i _ => x.ps.length - (intOf i).toNat)
  case atStart => exact ⟨0, by omega, rfl, HQ.out⟩
  case round =>
    clear d0 d1 d2 c0 c1 c2 HQ hx0 hb0 hcv hs0
    obtain ⟨k, hk, rfl, hw⟩ := hrel
    by_cases hlt : k < x.ps.length
    · have hi : (k : Int) < x.ps.length := by omega
      obtain ⟨ad, Av, cv, hA, p0w, p1w, hsw⟩ := (HPS.out w (Below.refl _ _)) k hlt
      subst hA
      have p0 := (hw.e.cell (World.block_lt_of_cell? _ _ p0w)).trans p0w
      have p1 := (hw.e.cell (World.block_lt_of_cell? _ _ p1w)).trans p1w
      have HSL := hide (fun W (hb : Below w.heap.size w W) => hsw.later hb)
      clear p0w p1w hsw
      have hstep : Tl.tx x.n ++ psT (x.ps.take (k + 1)) = Tl.tx x.n ++ psT (x.ps.take k) ++ pT x.ps[k] := by rw [psT_step _ _ hlt, List.append_assoc]
      have hL : (Tl.tx x.n ++ psT (x.ps.take k) ++ pT x.ps[k]).length ≤ 1000000000 := by
        rw [← hstep]
        have h1 := psT_le x.ps (k + 1)
        have h2 := HLB.out
        unfold lT at h2
        simp only [List.length_append, List.length_cons] at h1 h2 ⊢
        omega
      have hok := HO.out.p k hlt
      have HST := hide hstep
      clear hstep
      generalize Tl.tx x.n ++ psT (x.ps.take k) = L at *
      generalize x.ps[k] = y at *
      have hb1 : Below wr.heap.size wr (wr.alloc (.cells #[.string y.n, .slice Av y.vs.length cv] 58)) := (Below.refl _ wr).alloc (Nat.le_refl _) _
      have hpb : PmBox (wr.alloc (.cells #[.string y.n, .slice Av y.vs.length cv] 58)) wr.heap.size y Av cv := World.alloc_heap_new wr _
      have hr1 : CO (wr.alloc (.cells #[.string y.n, .slice Av y.vs.length cv] 58)) (w.heap.size + 1) u3 L := hw.r.later hb1
      have hln : L.length ≤ 1000000000 := by simp only [List.length_append] at hL; omega
      have hnn : y.n.size ≤ 1000000000 := hok.n
      have hsz : w.heap.size + 1 ≤ wr.heap.size := hw.b.lt
      have HW := hide hw
      have HL := hide hL
      have HOK := hide hok
      clear hw hL hok
      have hbT : Below (wr.alloc (.cells #[.string y.n, .slice Av y.vs.length cv] 58)).heap.size (wr.alloc (.cells #[.string y.n, .slice Av y.vs.length cv] 58)) ((wr.alloc (.cells #[.string y.n, .slice Av y.vs.length cv] 58)).alloc (.cells #[.int .u8 59] 5)) := (Below.refl _ _).alloc (Nat.le_refl _) _
      have hpT := hpb.later hbT
      have hrT := hr1.later hbT
      have hnT := hrT.not_box hpT (by decide)
      have hbeT : Below w.heap.size w ((wr.alloc (.cells #[.string y.n, .slice Av y.vs.length cv] 58)).alloc (.cells #[.int .u8 59] 5)) := (HW.out.e.trans (hb1.mono (by omega))).trans (hbT.mono (by simp; omega))
      have hnw : ∀ j u, (Tl.bs [59])[j]? = some u → ((wr.alloc (.cells #[.string y.n, .slice Av y.vs.length cv] 58)).alloc (.cells #[.int .u8 59] 5)).cell? ((⟨wr.heap.size + 1, 0, none⟩ : Addr).add j) = some u := by
        have := one_new (wr.alloc (.cells #[.string y.n, .slice Av y.vs.length cv] 58)) 5 59 59 rfl .nilIface
        rw [World.size_alloc] at this
        exact this
      have hzT : wr.heap.size + 2 = ((wr.alloc (.cells #[.string y.n, .slice Av y.vs.length cv] 58)).alloc (.cells #[.int .u8 59] 5)).heap.size := by simp
      have hlT := (HW.out.b.later hb1).later hbT
      have HT := hide (And.intro hlT (And.intro hpT (And.intro hrT (And.intro hnT (And.intro hbeT (And.intro hnw hzT))))))
      clear hlT hbT hpT hrT hnT hbeT hnw hzT hpb hr1 hb1
      go_wp2_with (first
        | (at_builtin; obtain ⟨hlT, hpT, hrT, hnT, hbeT, hnw, hzT⟩ := HT.out; refine wpList_append_co rfl (.tmp 19) (.tmp 20) rfl (w.heap.size + 1) u3 L [59] rfl hrT ⟨wr.heap.size + 1, 0, none⟩ 1 1 rfl rfl hnw (by simp only [List.length_cons, List.length_nil]; omega) (by decide) (by omega) ?_; intro v1 w1 q1 q2 q3
           have hp1 : PmBox w1 wr.heap.size y Av cv := (q2.block _ (by omega) (fun e => hnT e.symm)).trans hpT
           have hn1 := q1.not_box hp1 (by decide)
           have hz1 : wr.heap.size + 2 ≤ w1.heap.size := by have := q3.size; omega
           have hbe1 := hbeT.trans (q3.mono (by omega))
           have hl1 : LnBox w1 w.heap.size x (some ad) c := (q3.block _ (by omega)).trans hlT
           obtain ⟨e0, e1⟩ := hp1.cells
           clear hlT hpT hrT hnT hbeT hnw hzT q2)
        | (at_builtin; refine wpList_append_cos rfl (.tmp 22) (.tmp 24) rfl (w.heap.size + 1) v1 (L ++ [59]) rfl q1 y.n rfl (by simp only [List.length_append, List.length_cons, List.length_nil]; omega) (by omega) ?_; intro v2 w2 r1 r2 r3
           have hp2 : PmBox w2 wr.heap.size y Av cv := (r2.block _ (by omega) (fun e => hn1 e.symm)).trans hp1
           have hz2 : wr.heap.size + 2 ≤ w2.heap.size := by have := r3.size; omega
           have hbe2 := hbe1.trans (r3.mono (by omega))
           have hl2 : LnBox w2 w.heap.size x (some ad) c := (r3.block _ (by omega)).trans hl1
           clear e0 e1 hp1 hn1 hz1 q1 q3 r2 hbe1 hl1
           obtain ⟨e0, e1⟩ := hp2.cells))
      have hq2 : LQ w x (some ad) c v2 (L ++ [59] ++ Tl.tx y.n ++ vT 0 (y.vs.take 0)) w2 := ⟨hl2, hbe2, by rw [show vT 0 (y.vs.take 0) = [] from rfl, List.append_nil]; exact r1⟩
      have HQ2 := hide hq2
      have hvl : y.vs.length ≤ 1000000000 := HOK.out.l
      clear HT r1 r3 hp2 hz2 hl2 hq2 e0 e1
      go_loopw [3, 6, 29] (fun u mk i wv => ∃ j : Nat, j ≤ y.vs.length ∧ i = .int .i64 j ∧ mk = .int .u8 (((if j = 0 then 61 else 44 : UInt8).toNat : Nat) : Int) ∧ LQ w x (some ad) c u (L ++ [59] ++ Tl.tx y.n ++ vT 0 (y.vs.take j)) wv) (fun _ _ i _ => y.vs.length - (intOf i).toNat)
      case atStart => exact ⟨0, by omega, rfl, rfl, HQ2.out⟩
      case round =>
        clear HQ2
        obtain ⟨j, hj, rfl, rfl, hq⟩ := hrel
        by_cases hlt2 : j < y.vs.length
        · have hi2 : (j : Int) < y.vs.length := by omega
          obtain ⟨ad3, hA3, hc3⟩ := (HSL.out wr hq.e) j hlt2
          subst hA3
          have hst : vT 0 (y.vs.take (j + 1)) = vT 0 (y.vs.take j) ++ (if j = 0 then 61 else 44) :: Tl.tx (quo y.vs[j]) := by
            have h1 := vT_app 0 (y.vs.take j) y.vs[j]
            rw [List.length_take, Nat.zero_add, Nat.min_eq_left hj] at h1
            rw [← h1, List.take_add_one, List.getElem?_eq_getElem hlt2]
            rfl
          have hlen : (L ++ [59] ++ Tl.tx y.n ++ vT 0 (y.vs.take j)).length + 1 + (quo y.vs[j]).size ≤ 1000000000 := by
            have h1 := vT_le 0 y.vs (j + 1)
            have h2 := HL.out
            rw [hst] at h1
            unfold pT at h2
            simp only [List.length_append, List.length_cons, List.length_nil, Tl.tx_len] at h1 h2 ⊢
            omega
          have KQ := hide (fun W => quoted_any y.vs[j] W (HOK.out.v j hlt2))
          have HNX : Hid (L ++ [59] ++ Tl.tx y.n ++ vT 0 (y.vs.take (j + 1)) = L ++ [59] ++ Tl.tx y.n ++ vT 0 (y.vs.take j) ++ [if j = 0 then 61 else 44] ++ Tl.tx (quo y.vs[j])) := by
            show _ = _
            rw [hst]; simp
          clear hst
          generalize L ++ [59] ++ Tl.tx y.n ++ vT 0 (y.vs.take j) = E at *
          generalize (if j = 0 then 61 else 44 : UInt8) = b at *
          generalize y.vs[j] = z at *
          have hbT : Below wr.heap.size wr (wr.alloc (.cells #[.int .u8 b.toNat] 5)) := (Below.refl _ _).alloc (Nat.le_refl _) _
          have hz0 : w.heap.size + 1 ≤ wr.heap.size := hq.b.lt
          have HT := hide (And.intro (hq.b.later hbT) (And.intro (hq.r.later hbT) (hq.e.trans (hbT.mono (by omega)))))
          clear hq hbT
          go_wp2_with (first
            | (at_builtin; obtain ⟨hlT, hrT, hbeT⟩ := HT.out; refine wpList_append_co rfl (.tmp 33) (.tmp 35) rfl (w.heap.size + 1) u3 E [b] rfl hrT ⟨wr.heap.size, 0, none⟩ 1 1 rfl rfl (one_new wr _ b _ rfl .nilIface) (by simp only [List.length_cons, List.length_nil]; omega) (by simp) (by simp; omega) ?_; intro v3 w3 q1 q2 q3
               have hl3 : LnBox w3 w.heap.size x (some ad) c := (q3.block _ (by omega)).trans hlT
               have hbe3 := hbeT.trans (q3.mono (by omega))
               clear hlT hrT hbeT q2 q3)
            | (go_at_call 50; refine (KQ.out _).mono ?_; rintro e w4 ⟨rfl, b4⟩
               have hl4 := hl3.later b4
               have hr4 := q1.later b4
               have hbe4 := hbe3.trans (b4.mono hbe3.size)
               have hz4 : w.heap.size + 1 ≤ w4.heap.size := hl4.lt
               clear hl3 q1 hbe3 b4)
            | (at_builtin; refine wpList_append_cos rfl (.tmp 37) (.tmp 39) rfl (w.heap.size + 1) v3 (E ++ [b]) rfl hr4 (quo z) rfl (by simp only [List.length_append, List.length_cons, List.length_nil]; omega) (by omega) ?_; intro v5 w5 r1 r2 r3
               have hl5 : LnBox w5 w.heap.size x (some ad) c := (r3.block _ (by omega)).trans hl4
               have hbe5 := hbe4.trans (r3.mono (by omega))
               clear hl4 hr4 hbe4 r2 r3))
          go_roundw
          case rel => exact ⟨j + 1, by omega, by go_num, by simp, ⟨hl5, hbe5, by rw [HNX.out]; exact r1⟩⟩
          case measure => simp [intOf]; omega
        · obtain rfl : j = y.vs.length := by omega
          have hi2 : ¬ (y.vs.length : Int) < y.vs.length := by omega
          have hq3 : LQ w x (some ad) c u3 (Tl.tx x.n ++ psT (x.ps.take (k + 1))) wr := by
            rw [List.take_length] at hq
            rw [HST.out]
            have e : L ++ pT y = L ++ [59] ++ Tl.tx y.n ++ vT 0 y.vs := by unfold pT; simp
            rw [e]
            exact hq
          have HQ3 := hide hq3
          clear hq hq3
          go_wp2
          go_roundw
          case rel => exact ⟨k + 1, by omega, by go_num, HQ3.out⟩
          case measure => simp [intOf]; omega
    · obtain rfl : k = x.ps.length := by omega
      have hi : ¬ (x.ps.length : Int) < x.ps.length := by omega
      rw [List.take_length] at hw
      have hlen : (Tl.tx x.n ++ psT x.ps).length + 1 + x.v.size ≤ 1000000000 := by
        have h2 := HLB.out
        unfold lT at h2
        simp only [List.length_append, List.length_cons, Tl.tx_len] at h2 ⊢
        omega
      have HLT : Hid (lT x = Tl.tx x.n ++ psT x.ps ++ 58 :: Tl.tx x.v) := rfl
      generalize Tl.tx x.n ++ psT x.ps = E at *
      have hbT : Below wr.heap.size wr (wr.alloc (.cells #[.int .u8 58] 5)) := (Below.refl _ _).alloc (Nat.le_refl _) _
      have hz0 : w.heap.size + 1 ≤ wr.heap.size := hw.b.lt
      have HT := hide (And.intro (hw.b.later hbT) (And.intro (hw.r.later hbT) (hw.e.trans (hbT.mono (by omega)))))
      clear hw hbT
      go_wp2_with (first
        | (at_builtin; obtain ⟨hlT, hrT, hbeT⟩ := HT.out; refine wpList_append_co rfl (.tmp 43) (.tmp 44) rfl (w.heap.size + 1) u3 E [58] rfl hrT ⟨wr.heap.size, 0, none⟩ 1 1 rfl rfl (one_new wr _ 58 _ rfl .nilIface) (by simp only [List.length_cons, List.length_nil]; omega) (by decide) (by simp; omega) ?_; intro v3 w3 q1 q2 q3
           have hl3 : LnBox w3 w.heap.size x A c := (q3.block _ (by omega)).trans hlT
           have hbe3 := hbeT.trans (q3.mono (by omega))
           have hz3 : w.heap.size + 1 ≤ w3.heap.size := hl3.lt
           obtain ⟨e0, e1, e2⟩ := hl3.cells
           clear hlT hrT hbeT q2 q3)
        | (at_builtin; refine wpList_append_cos rfl (.tmp 46) (.tmp 48) rfl (w.heap.size + 1) v3 (E ++ [58]) rfl q1 x.v rfl (by simp only [List.length_append, List.length_cons, List.length_nil]; omega) (by omega) ?_; intro v5 w5 r1 r2 r3
           have hbe5 := hbe3.trans (r3.mono (by omega))
           have hcv := r1.conv))
      go_ret
      exact ⟨by rw [HLT.out]; rfl, hbe5⟩
end Go.Proofs.YtponocolfjkapaaDoor
