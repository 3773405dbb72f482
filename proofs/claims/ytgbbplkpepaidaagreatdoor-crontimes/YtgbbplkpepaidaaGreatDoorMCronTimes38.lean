/- package cron: fitting, and its closure: an iterator that goes over all days that fit, or as far as it is asked. -/
import Derived.Test.YtgbbplkpepaidaaGreatDoorMCronTimes37
namespace Go.Proofs.YtgbbplkpepaidaaGreatDoor
open Go.RowKit Go.Shelf
set_option linter.unusedVariables false
set_option linter.unusedSimpArgs false
attribute [local go_sem] Oper.semAt_some

set_option maxRecDepth 100000 in
set_option maxHeartbeats 8000000 in
theorem fit1_in (n : Nat) (hn : 1 ≤ n) (A : CAd) (x : Crn.C) (hu : OkU x) (M D L : Int → Int) (hm : Mon M D L) (a z : Int) (a1 : -4000000 ≤ a) (a2 : a ≤ z) (a3 : z ≤ 4000000) (l b n₀ : Nat)
    (km : ∀ d W, a ≤ d → d ≤ z → Calls Tryz.prog 17 #[.int .i64 d] W fun e w' => e = .returned (monV (M d) (d - D d) (L d)) ∧ Below W.heap.size W w')
    (J Jx : List Int → World → Prop)
    (hY : ∀ pre y W, a ≤ y → y ≤ z → J pre W → pre.length < (fu (fDay x M D L) a z (z + 1)).length → YieldAt Fence.wide (n - 1) Tryz.prog l #[.int .i64 y] W fun e W' =>
      (e = .returned (.bool true) ∧ J (pre ++ [y]) W' ∧ KpC n₀ W W') ∨ (e = .returned (.bool false) ∧ Jx (pre ++ [y]) W'))
    (w W : World) (hn₀ : n₀ = w.heap.size) (hW : Below n₀ w W) (hx : FX A x a z b w) (hJA : AbidesFrom W.heap.size J) (h0 : J [] W) :
    CallsIn Fence.wide n Tryz.prog 46 #[.func (.yield l) #[] #[], .pointer (some ⟨b + 1, 0, none⟩), .pointer (some ⟨b + 1 + 1, 0, none⟩), .pointer (some ⟨b, 0, none⟩)] W fun e W' => (∃ v, e = .returned v) ∧
      ((∃ ys, ys = fu (fDay x M D L) a z (z + 1) ∧ J ys W') ∨ (∃ pre, pre <+: fu (fDay x M D L) a z (z + 1) ∧ Jx pre W')) := by
  have HJ : Hid (∀ s X Y, J s X → W.heap.size ≤ X.heap.size → Below X.heap.size X Y → J s Y) := fun s X Y h hs hb => hJA s X Y none h (grownBy_of_below hb) (fun r e => by cases e)
  have HX := hide (fun X (h : Below n₀ w X) => hx.later (by rw [← hn₀]; exact h))
  have HM := hide hm
  have KM := hide (fun d X (h1 : a ≤ d) (h2 : d ≤ z) => callsIn_wide (n := n - 1).2 (km d X h1 h2))
  have KC := hide (fun d X (h : Below n₀ w X) => callsIn_wide (n := n - 1).2 (contains_any A.o A.co x.mo (M d) X (HX.out X h).cl.mo hu.mo))
  have KF := hide (fun d k X (h : Below n₀ w X) (h1 : a ≤ d) (h2 : d ≤ z) (h3 : D d ≤ k) (h4 : k ≤ L d) => callsIn_wide (n := n - 1).2 (fits_any A x (M d) (d - D d) (L d) k X (HX.out X h).cl hu.t (by have := HM.out.one d (by omega) (by omega); omega) (by have := HM.out.one d (by omega) (by omega); omega) (by have := HM.out.one d (by omega) (by omega); omega) (by have := HM.out.one d (by omega) (by omega); omega)))
  have HY := hide hY
  have HS : Hid (n₀ ≤ W.heap.size) := by have := hW.size; show n₀ ≤ W.heap.size; omega
  have hfx := HX.out W hW
  have c0 := hfx.f.cell
  have HF : Hid (∀ d k : Int, a ≤ d → d ≤ z → D d ≤ k → k ≤ L d → d - D d + k ≤ z → fDay x M D L (d - D d + k) = (memB x.mo (M d) && fitD x (d - D d) (L d) k)) := fun d k e1 e2 e3 e4 e5 => fDay_in HM.out (by omega) (by omega) e3 e4 (by omega)
  have h1' := hn
  have g1 : Fence.wide.fn 17 := trivial
  have g2 : Fence.wide.fn 18 := trivial
  have g3 : Fence.wide.fn 19 := trivial
  clear hY km hm hu hJA hfx hx hn
  generalize fDay x M D L = f at *
  refine callsIn_of_wp Tryz.func46 rfl trivial ?_ rfl
  simp only [Tryz.ntmps46, List.size_toArray, List.length_cons, List.length_nil, Nat.reduceAdd, Nat.reduceSub, Array.replicate_succ, Array.replicate_zero, List.push_toArray, List.append_toArray, List.nil_append, List.cons_append]
  gi_wp2
  gi_loopw [5] (fun v wr => ∃ d : Int, a ≤ d ∧ d ≤ 4000050 ∧ v = .int .i64 d ∧ J (fu f a z d) wr ∧ Below n₀ w wr ∧ W.heap.size ≤ wr.heap.size) (fun v _ => (z + 1 - intOf v).toNat)
  case atStart => exact ⟨a, by omega, by omega, rfl, by rw [fu_first f a z (by omega)]; exact h0, hW, Nat.le_refl _⟩
  case round =>
    clear c0 hW h0
    obtain ⟨d, d1, d2, rfl, hj, hb, hsz⟩ := hrel
    have c2 := (HX.out wr hb).l.cell
    by_cases hd : d ≤ z
    · obtain ⟨o1, o2, o3⟩ := HM.out.one d (by omega) (by omega)
      have HO : Hid (1 ≤ D d ∧ D d ≤ L d ∧ L d ≤ 31) := ⟨o1, o2, o3⟩
      gi_wp2_with (first
        | (gi_at_call 17; refine (KM.out d _ d1 hd).mono ?_; rintro e W1 ⟨rfl, b1⟩; have hb1 : Below n₀ w (W1.alloc (.cells #[.int .i64 (M d), .int .i64 (d - D d), .int .i64 (L d)] 49)) := (hb.trans (b1.mono (by have := HS.out; omega))).alloc (by have := b1.size; have := HS.out; omega) _; have mb := MBox.new W1 (M d) (d - D d) (L d); have hj1 := HJ.out _ _ _ hj hsz (b1.alloc (by have := b1.size; omega) (.cells #[.int .i64 (M d), .int .i64 (d - D d), .int .i64 (L d)] 49)); have hs1 : W.heap.size ≤ (W1.alloc (.cells #[.int .i64 (M d), .int .i64 (d - D d), .int .i64 (L d)] 49)).heap.size := by have := b1.size; simp; omega
           obtain ⟨y0, y1, y2, y3, y4, y5, y6, y7, y8, y9, y10⟩ := (HX.out _ hb1).bx.cells
           obtain ⟨m0, m1, m2⟩ := mb.cells)
        | (gi_at_call 18; refine (KC.out d _ hb1).mono ?_; rintro e W3 ⟨rfl, b3⟩; have hb3 : Below n₀ w W3 := hb1.trans (b3.mono (by have := HS.out; omega)); have mb3 := mb.later b3; have hj3 := HJ.out _ _ _ hj1 hs1 b3; have hs3 : W.heap.size ≤ W3.heap.size := by (have := b3.size; omega)
           clear y0 y1 y2 y3 y4 y5 y6 y7 y8 y9 y10 m0 m1 m2
           obtain ⟨m0, m1, m2⟩ := mb3.cells))
      clear mb hj1 hs1 hb1 b1 b3 m0 m1 m2 c2 hb hj hsz
      generalize W1.heap.size = B at *
      clear W1
      have KFd := hide (fun k X h h3 h4 => KF.out d k X h d1 hd h3 h4)
      have HFd := hide (fun k => HF.out d k d1 hd)
      have q0 : d - (d - D d) = D d := by omega
      clear KF HF KM KC HM
      generalize D d = Dd at *
      generalize L d = Ld at *
      generalize M d = Md at *
      generalize hT : memB x.mo Md = T at *
      clear hT
      gi_loopw [8] (fun v wr => ∃ k : Int, Dd ≤ k ∧ k ≤ Ld + 1 ∧ d - Dd + k ≤ z + 1 ∧ v = .int .i64 k ∧ J (fu f a z (d - Dd + k)) wr ∧ Below n₀ w wr ∧ W.heap.size ≤ wr.heap.size ∧ MBox wr B Md (d - Dd) Ld) (fun v _ => (Ld + 1 - intOf v).toNat)
      case atStart => exact ⟨Dd, by omega, by omega, by omega, by rw [q0], by rw [show d - Dd + Dd = d by omega]; exact hj3, hb3, hs3, mb3⟩
      case round =>
        clear hb3 hj3 hs3 mb3 q0
        rename_i wr0 wr
        obtain ⟨k, k1, k2, k3, rfl, hj, hb, hsz, mb⟩ := hrel
        obtain ⟨m0, m1, m2⟩ := mb.cells
        have hfx := HX.out wr hb
        have c2 := hfx.l.cell
        have out : ∀ (h : ∀ j : Nat, (j : Int) < Ld + 1 - k → d - Dd + k + j ≤ z → f (d - Dd + k + j) = false), fu f a z (d - Dd + Ld + 1) = fu f a z (d - Dd + k) := fun h => by
          have := fu_none (f := f) (a := a) (z := z) (d := d - Dd + k) (by omega) (Ld + 1 - k).toNat (fun j hj => h j (by omega))
          rw [← this, show d - Dd + k + ((Ld + 1 - k).toNat : Nat) = d - Dd + Ld + 1 by omega]
        cases T
        · have ho := out fun j h1 h2 => by rw [show d - Dd + k + (j : Int) = d - Dd + (k + j) by omega, HFd.out (k + j) (by omega) (by omega) (by omega)]; rfl
          rw [← ho] at hj
          clear out ho
          gi_wp2
          go_roundw
          case rel => exact ⟨d - Dd + Ld + 1, by omega, by omega, by go_num, hj, hb, hsz⟩
          case measure => simp [intOf]; omega
        · obtain ⟨y0, y1, y2, y3, y4, y5, y6, y7, y8, y9, y10⟩ := hfx.bx.cells
          by_cases hk : k ≤ Ld ∧ d - Dd + k ≤ z
          · clear out
            by_cases hmin : Ld ≤ z - (d - Dd)
            · have hfk := HFd.out k k1 hk.1 hk.2
              have KK := hide (KFd.out k wr hb k1 hk.1)
              have hmk : k ≤ Ld := by omega
              generalize fitD x (d - Dd) Ld k = R at hfk KK
              cases R
              · have ho := fu_skip (z := z) (show a ≤ d - Dd + k by omega) hfk
                rw [← ho] at hj
                clear ho hfk
                gi_wp2_with (gi_at_call 19; refine KK.out.mono ?_; rintro e W5 ⟨rfl, b5⟩; have hj5 := HJ.out _ _ _ hj hsz b5; have mb5 := mb.later b5; have hb5 : Below n₀ w W5 := hb.trans (b5.mono (by have := HS.out; omega)); have hs5 : W.heap.size ≤ W5.heap.size := by (have := b5.size; omega))
                refine ⟨fun f hf => (by cases hf), ?_⟩
                gi_wp2
                go_roundw
                case rel => exact ⟨k + 1, by omega, by omega, by omega, by go_num, by rw [show d - Dd + (k + 1) = d - Dd + k + 1 by omega]; exact hj5, hb5, hs5, mb5⟩
                case measure => simp [intOf]; omega
              · have ho := fu_step (show a ≤ d - Dd + k by omega) hk.2 hfk
                have hlt := fu_lt (show a ≤ d - Dd + k by omega) hk.2 hfk
                have hpre := fu_pre f a z (d - Dd + k + 1)
                clear hfk
                gi_wp2_with (gi_at_call 19; refine KK.out.mono ?_; rintro e W5 ⟨rfl, b5⟩; have hj5 := HJ.out _ _ _ hj hsz b5; have mb5 := mb.later b5; have hb5 : Below n₀ w W5 := hb.trans (b5.mono (by have := HS.out; omega)); have hs5 : W.heap.size ≤ W5.heap.size := by (have := b5.size; omega)
                             obtain ⟨fn, tmps, assign, body, hy, hRr⟩ := HY.out _ (d - Dd + k) W5 (by omega) hk.2 hj5 hlt
                             clear m0 m1 m2
                             obtain ⟨m0, m1, m2⟩ := mb5.cells)
                refine hRr.mono ?_
                rintro e W6 (⟨rfl, hJ6, hk6⟩ | ⟨rfl, hJx6⟩)
                · rw [← ho] at hJ6
                  have hb6 := hb5.trans hk6.b
                  have mb6 := mb5.kept hk6
                  have hs6 : W.heap.size ≤ W6.heap.size := by have := hk6.b.size; omega
                  gi_wp2
                  go_roundw
                  case rel => exact ⟨k + 1, by omega, by omega, by omega, by go_num, by rw [show d - Dd + (k + 1) = d - Dd + k + 1 by omega]; exact hJ6, hb6, hs6, mb6⟩
                  case measure => simp [intOf]; omega
                · rw [← ho] at hJx6
                  gi_wp2
                  refine bodyPost_ret (results_none rfl _ _ _) rfl ?_
                  exact ⟨⟨_, rfl⟩, .inr ⟨_, hpre, hJx6⟩⟩
            · have hfk := HFd.out k k1 hk.1 hk.2
              have KK := hide (KFd.out k wr hb k1 hk.1)
              have hmk : k ≤ z - (d - Dd) := by omega
              generalize fitD x (d - Dd) Ld k = R at hfk KK
              cases R
              · have ho := fu_skip (z := z) (show a ≤ d - Dd + k by omega) hfk
                rw [← ho] at hj
                clear ho hfk
                gi_wp2_with (gi_at_call 19; refine KK.out.mono ?_; rintro e W5 ⟨rfl, b5⟩; have hj5 := HJ.out _ _ _ hj hsz b5; have mb5 := mb.later b5; have hb5 : Below n₀ w W5 := hb.trans (b5.mono (by have := HS.out; omega)); have hs5 : W.heap.size ≤ W5.heap.size := by (have := b5.size; omega))
                refine ⟨fun f hf => (by cases hf), ?_⟩
                gi_wp2
                go_roundw
                case rel => exact ⟨k + 1, by omega, by omega, by omega, by go_num, by rw [show d - Dd + (k + 1) = d - Dd + k + 1 by omega]; exact hj5, hb5, hs5, mb5⟩
                case measure => simp [intOf]; omega
              · have ho := fu_step (show a ≤ d - Dd + k by omega) hk.2 hfk
                have hlt := fu_lt (show a ≤ d - Dd + k by omega) hk.2 hfk
                have hpre := fu_pre f a z (d - Dd + k + 1)
                clear hfk
                gi_wp2_with (gi_at_call 19; refine KK.out.mono ?_; rintro e W5 ⟨rfl, b5⟩; have hj5 := HJ.out _ _ _ hj hsz b5; have mb5 := mb.later b5; have hb5 : Below n₀ w W5 := hb.trans (b5.mono (by have := HS.out; omega)); have hs5 : W.heap.size ≤ W5.heap.size := by (have := b5.size; omega)
                             obtain ⟨fn, tmps, assign, body, hy, hRr⟩ := HY.out _ (d - Dd + k) W5 (by omega) hk.2 hj5 hlt
                             clear m0 m1 m2
                             obtain ⟨m0, m1, m2⟩ := mb5.cells)
                refine hRr.mono ?_
                rintro e W6 (⟨rfl, hJ6, hk6⟩ | ⟨rfl, hJx6⟩)
                · rw [← ho] at hJ6
                  have hb6 := hb5.trans hk6.b
                  have mb6 := mb5.kept hk6
                  have hs6 : W.heap.size ≤ W6.heap.size := by have := hk6.b.size; omega
                  gi_wp2
                  go_roundw
                  case rel => exact ⟨k + 1, by omega, by omega, by omega, by go_num, by rw [show d - Dd + (k + 1) = d - Dd + k + 1 by omega]; exact hJ6, hb6, hs6, mb6⟩
                  case measure => simp [intOf]; omega
                · rw [← ho] at hJx6
                  gi_wp2
                  refine bodyPost_ret (results_none rfl _ _ _) rfl ?_
                  exact ⟨⟨_, rfl⟩, .inr ⟨_, hpre, hJx6⟩⟩
          · have ho := out fun j h1 h2 => by omega
            rw [← ho] at hj
            clear out ho
            by_cases hmin : Ld ≤ z - (d - Dd)
            · have hmk : ¬ k ≤ Ld := by omega
              gi_wp2
              go_roundw
              case rel => exact ⟨d - Dd + Ld + 1, by omega, by omega, by go_num, hj, hb, hsz⟩
              case measure => simp [intOf]; omega
            · have hmk : ¬ k ≤ z - (d - Dd) := by omega
              gi_wp2
              go_roundw
              case rel => exact ⟨d - Dd + Ld + 1, by omega, by omega, by go_num, hj, hb, hsz⟩
              case measure => simp [intOf]; omega
    · gi_wp2
      go_end0
      exact ⟨⟨_, rfl⟩, .inl (by rw [← fu_past (f := f) (a := a) (z := z) (d := d) (e := z + 1) (by omega) (by omega)]; exact hj)⟩
/-- a day from a to z -/
abbrev Dy (a z : Int) : Type := { d : Int // a ≤ d ∧ d ≤ z }
theorem fit_stops (n : Nat) (hn : 1 ≤ n) (A : CAd) (x : Crn.C) (hu : OkU x) (M D L : Int → Int) (hm : Mon M D L) (a z : Int) (a1 : -4000000 ≤ a) (a2 : a ≤ z) (a3 : z ≤ 4000000) (b : Nat)
    (km : ∀ d W, a ≤ d → d ≤ z → Calls Tryz.prog 17 #[.int .i64 d] W fun e w' => e = .returned (monV (M d) (d - D d) (L d)) ∧ Below W.heap.size W w')
    (w : World) (hx : FX A x a z b w) :
    SeqStopsK Fence.wide n Tryz.prog 46 #[.pointer (some ⟨b + 1, 0, none⟩), .pointer (some ⟨b + 1 + 1, 0, none⟩), .pointer (some ⟨b, 0, none⟩)] (fun y : Dy a z => #[Value.int .i64 y.1]) (KpC w.heap.size)
      (fun ys => ys.map (·.1) = fu (fDay x M D L) a z (z + 1)) (fun pre => pre.map (·.1) <+: fu (fDay x M D L) a z (z + 1)) (fu (fDay x M D L) a z (z + 1)).length w := fun l J Jx W hW hJ _ hY h0 => by
  refine (fit1_in n hn A x hu M D L hm a z a1 a2 a3 l b w.heap.size km (fun p W => ∃ q : List (Dy a z), q.map (·.1) = p ∧ J q W) (fun p W => ∃ q : List (Dy a z), q.map (·.1) = p ∧ Jx q W) ?_ w W rfl hW hx ?_ ⟨[], rfl, h0⟩).mono ?_
  · rintro pre y X y1 y2 ⟨q, rfl, hj⟩ hlen
    refine (hY q ⟨y, y1, y2⟩ X hj (by simpa using hlen)).mono ?_
    rintro e X' (⟨h1, h2, h3⟩ | ⟨h1, h2⟩)
    · exact .inl ⟨h1, ⟨_, by simp, h2⟩, h3⟩
    · exact .inr ⟨h1, _, by simp, h2⟩
  · rintro p X Y row ⟨q, e, hj⟩ hg hr
    exact ⟨q, e, hJ q X Y row hj hg hr⟩
  · rintro e X ⟨hv, (⟨ys, rfl, q, e2, hj⟩ | ⟨pre, hp, q, rfl, hj⟩)⟩
    · exact ⟨hv, .inl ⟨q, e2, hj⟩⟩
    · exact ⟨hv, .inr ⟨q, hp, hj⟩⟩
end Go.Proofs.YtgbbplkpepaidaaGreatDoor
