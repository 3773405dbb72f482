/- The reference's CloseNet. -/
import Derived.Test.YtnaggcadmfmibaaDoorSpnI
import Derived.Test.YtnaggcadmfmibaaDoorSpnW
import Derived.Test.YtnaggcadmfmibaaDoorSpnX
import Derived.Test.YtnaggcadmfmibaaDoorSpnT
import Derived.Test.YtnaggcadmfmibaaDoorSpnU
import Derived.Deep.RegionLawGrows
namespace Go.Proofs.YtnaggcadmfmibaaDoor
open Go.RowKit
set_option linter.unusedVariables false
set_option linter.unusedSimpArgs false

theorem T1_row (X : World) (Z : Array Value) : (X.alloc (.cells Z 76)).heap[X.heap.size]? = some (.cells Z 76 (0, 0)) := heap_alloc_last _ _
theorem T1_there (X : World) (Z T : Array Value) (hZ : Z.size = 169) (hT : T.size = 169) : (X.alloc (.cells Z 76)).there X.heap.size 0 T.size := fun j hj => by
  rw [Nat.zero_add, cell_of_row _ _ _ _ _ (0, 0) (T1_row X Z)]
  exact ⟨by rw [Array.getElem?_eq_getElem (by rw [hZ]; rw [hT] at hj; exact hj)]; rfl, frozen_of_row _ _ _ _ _ (T1_row X Z)⟩
theorem T1_set {X W1 : World} {Z T : Array Value} (hs : Z.size = T.size) (h : (X.alloc (.cells Z 76)).setCells X.heap.size 0 T.toList = W1) :
    W1.heap[X.heap.size]? = some (.cells T 76 (0, 0)) ∧ Below X.heap.size X W1 := by
  subst h
  exact ⟨setCells_whole (T1_row X Z) hs, setCells_bel (Nat.le_refl _) _ _ _ ((Below.refl _ X).alloc (Nat.le_refl _) _)⟩
theorem infoTab1 : (Tryd.prog.info? 76).map (·.size) = some 169 := by kernel_rfl
theorem tabA_one (M : Nat → Nat → Nat) : (tabA M).all (·.oneCell') = true := by
  rw [Array.all_eq_true_iff_forall_mem]
  intro v hv
  unfold tabA at hv
  simp only [List.mem_toArray, List.mem_map] at hv
  obtain ⟨j, _, rfl⟩ := hv
  rfl
/-- the reference's rows laid so far: each in a block of its own -/
structure RL (n b : Nat) (G Cp : Nat → Nat) (N : Nat → Nat → Nat) (r : Nat) (X : World) : Prop where
  own : ∀ i, i < r → X.ownsRow b 47 1 (.slice (some ⟨G i, 0, none⟩) n (Cp i)) n (rwV n (N i))
  ne : ∀ i j, i < j → j < r → G i ≠ G j
theorem rwV_set (n r : Nat) (S : Nat → Nat → Nat) (hr : r < n) : (rwV n (S r)).set r (.int .i64 ((S r r &&& 64 : Nat) : Int)) = rwV n (dg S n r) := by
  apply List.ext_getElem?
  intro j
  rw [List.getElem?_set]
  by_cases hj : j < n
  · rw [rwV_get n (dg S n r) j hj]
    by_cases e : r = j
    · subst e
      rw [if_pos rfl, if_pos (by rw [rwV_len]; exact hr)]
      unfold dg
      rw [if_pos ⟨hr, rfl⟩]
    · rw [if_neg e, rwV_get n _ j hj]
      unfold dg
      rw [if_neg (fun h => e h.2)]
  · rw [List.getElem?_eq_none (l := rwV n (dg S n r)) (by rw [rwV_len]; omega)]
    rw [if_neg (by omega), List.getElem?_eq_none (by rw [rwV_len]; omega)]
theorem rwL_last (n : Nat) (G Cp : Nat → Nat) (r : Nat) (x : Value) : (rwL n G Cp r ++ [x])[r]? = some x := by
  rw [List.getElem?_append_right (by simp [rwL])]; simp [rwL]
/-- a row of the given net, where it lies -/
structure SR (a ar : Addr) (n r c : Nat) (S : Nat → Nat) (w : World) : Prop where
  hd : w.cell? (a.add r) = some (.slice (some ar) n c)
  cs : ∀ k, k < n → w.cell? (ar.add k) = some (.int .i64 (S k : Nat))
theorem SR.step {a ar : Addr} {n r c : Nat} {S : Nat → Nat} {w X : World} (h : SR a ar n r c S w) (hb : Below w.heap.size w X) : SR a ar n r c S X :=
  ⟨(hb.cell (lt_of_cell h.hd)).trans h.hd, fun k hk => (hb.cell (lt_of_cell (h.cs k hk))).trans (h.cs k hk)⟩
theorem SR.news {a ar : Addr} {n r c : Nat} {S : Nat → Nat} {X : World} (h : SR a ar n r c S X) : ∀ j u, (rwV n S)[j]? = some u → X.cell? (ar.add j) = some u := fun j u hj => by
  have hl : j < n := by
    rcases Nat.lt_or_ge j n with g | g
    · exact g
    · rw [List.getElem?_eq_none (by rw [rwV_len]; exact g)] at hj; cases hj
  rw [rwV_get n S j hl] at hj
  cases hj
  exact h.cs j hl
theorem rwV_one (n : Nat) (f : Nat → Nat) : ∀ u ∈ rwV n f, u.oneCell' = true := by
  intro u hu
  unfold rwV at hu
  obtain ⟨c, _, rfl⟩ := List.mem_map.1 hu
  rfl
theorem rwV_upd (n k v : Nat) (f : Nat → Nat) : (rwV n f).set k (.int .i64 (v : Nat)) = rwV n (fun b => if b = k then v else f b) := by
  apply List.ext_getElem?
  intro j
  rw [List.getElem?_set]
  by_cases hj : j < n
  · rw [rwV_get n (fun b => if b = k then v else f b) j hj]
    by_cases e : k = j
    · subst e
      rw [if_pos rfl, if_pos (by rw [rwV_len]; exact hj)]
      simp
    · rw [if_neg e, rwV_get n f j hj]
      have e2 : ¬ j = k := fun h => e h.symm
      simp only [e2, if_false]
  · rw [List.getElem?_eq_none (l := rwV n (fun b => if b = k then v else f b)) (by rw [rwV_len]; omega)]
    split
    · rw [if_neg (by rw [rwV_len]; omega)]
    · rw [List.getElem?_eq_none (by rw [rwV_len]; omega)]
/-- the reference's net, whole -/
structure MN (b n c L : Nat) (G Cp : Nat → Nat) (N : Nat → Nat → Nat) (X : World) : Prop where
  out : X.ownsRow L 78 1 (.slice (some ⟨b, 0, none⟩) n c) n (rwL n G Cp n)
  rl : RL n L G Cp N n X
theorem MN.top {b n c L : Nat} {G Cp : Nat → Nat} {N : Nat → Nat → Nat} {X : World} (h : MN b n c L G Cp N X) (k : Nat) (hk : k < n) : X.cell? ⟨b, k, none⟩ = some (.slice (some ⟨G k, 0, none⟩) n (Cp k)) :=
  (World.ownsRow.cellAt h.out k (by omega)).trans (by unfold rwL; rw [List.getElem?_map, List.getElem?_range hk]; rfl)
theorem MN.at {b n c L : Nat} {G Cp : Nat → Nat} {N : Nat → Nat → Nat} {X : World} (h : MN b n c L G Cp N X) (i k : Nat) (hi : i < n) (hk : k < n) : X.cell? ⟨G i, k, none⟩ = some (.int .i64 (N i k : Nat)) ∧ X.frozen? ⟨G i, k, none⟩ = false :=
  ⟨(World.ownsRow.cellAt (h.rl.own i hi) k (by omega)).trans (rwV_get n (N i) k hk), World.ownsRow.frozenAt (h.rl.own i hi) k⟩
theorem MN.net {b n c L : Nat} {G Cp : Nat → Nat} {N : Nat → Nat → Nat} {X : World} (h : MN b n c L G Cp N X) : NetAt (some ⟨b, 0, none⟩) n (fun i => some ⟨G i, 0, none⟩) (fun _ => n) Cp (fun i c => (N i c : Int)) X :=
  ⟨fun k hk => ⟨⟨b, 0, none⟩, rfl, by rw [Addr.add_lit, Nat.zero_add]; exact h.top k hk⟩, fun i hi k hk => ⟨⟨G i, 0, none⟩, rfl, by rw [Addr.add_lit, Nat.zero_add]; exact (h.at i k hi hk).1⟩⟩
theorem MN.step {b n c L : Nat} {G Cp : Nat → Nat} {N : Nat → Nat → Nat} {X X' : World} (h : MN b n c L G Cp N X) (hb : Below X.heap.size X X') : MN b n c L G Cp N X' :=
  ⟨own_step h.out hb, fun i hi => own_step (h.rl.own i hi) hb, h.rl.ne⟩
theorem MN.set {b n c L : Nat} {G Cp : Nat → Nat} {N : Nat → Nat → Nat} {X : World} (h : MN b n c L G Cp N X) (i k v : Nat) (hi : i < n) :
    MN b n c L G Cp (upd N i k v) (X.setCell ⟨G i, k, none⟩ (.int .i64 (v : Nat))) ∧ L ≤ G i := by
  have hr := h.rl.own i hi
  have hst := World.ownsRow.stored hr k (.int .i64 (v : Nat))
  rw [rwV_upd] at hst
  refine ⟨⟨World.ownsRow.kept h.out hst.2 (.inr fun e => own_apart h.out hr (by decide) (G i) rfl e), fun a ha => ?_, h.rl.ne⟩, (hr.lt (G i) rfl).1⟩
  by_cases e : a = i
  · subst e
    have : (upd N a k v) a = fun b => if b = k then v else N a b := by funext b; unfold upd; simp
    rw [this]
    exact hst.1
  · have : (upd N i k v) a = N a := by funext b; unfold upd; rw [if_neg (fun g => e g.1)]
    rw [this]
    refine World.ownsRow.kept (h.rl.own a ha) hst.2 (.inr fun e2 => ?_)
    have e3 := Option.some.inj (show some (G a) = some (G i) from e2)
    rcases Nat.lt_or_gt_of_ne e with g | g
    · exact h.rl.ne a i g hi e3
    · exact h.rl.ne i a g ha e3.symm
set_option maxRecDepth 100000 in
set_option maxHeartbeats 16000000 in
theorem rclose_ok (a : Addr) (n cap : Nat) (A : Nat → Option Addr) (C : Nat → Nat) (g : Nat → Nat → Int) (w : World) (hz : chk n (fun _ => n) g = 0) (h : NetAt (some a) n A (fun _ => n) C g w) :
    Calls Tryd.prog 12 #[.slice (some a) n cap] w fun e w' => Below w.heap.size w w' ∧ ∃ N, Great n (cpN n g n) N ∧
      ((noWay n N n = true ∧ e = .returned (.tuple #[.slice none 0 0, .int .i64 12])) ∨ (noWay n N n = false ∧ ∃ (b c : Nat) (G Cp : Nat → Nat), e = .returned (.tuple #[.slice (some ⟨b, 0, none⟩) n c, .int .i64 0]) ∧ NetAt (some ⟨b, 0, none⟩) n (fun i => some ⟨G i, 0, none⟩) (fun _ => n) Cp (fun i c => (N i c : Int)) w')) := by
  obtain ⟨n1, n6, _, hg⟩ := chk_ok hz
  have K1 := hide (rcheck_any (some a) n cap A (fun _ => n) C g w h)
  rw [hz] at K1
  have HR : Hid (∀ r, r < n → ∃ ar, SR a ar n r (C r) (cpN n g n r) w) := fun r hr => by
    obtain ⟨a1, ha1, hc⟩ := h.rows r hr
    cases ha1
    obtain ⟨ar, har, _⟩ := h.sets r hr 0 (show 0 < n by omega)
    refine ⟨ar, by rw [hc]; dsimp only; rw [har], fun k hk => ?_⟩
    obtain ⟨a2, ha2, hc2⟩ := h.sets r hr k hk
    rw [har] at ha2
    cases ha2
    rw [hc2]
    have := (hg r k hr hk).1
    show some (Value.int .i64 (g r k)) = some (.int .i64 ((cpN n g n r k : Nat) : Int))
    unfold cpN
    rw [if_pos ⟨hr, hk⟩]
    congr 2
    omega
  have HS := hide (cpN_lt hg)
  have K3 := hide table_any
  have K4 := hide (fun p q => rjoin_any p q)
  have hT := tabA_size Spn.fol
  obtain ⟨hzz, hzs⟩ := zero_of_info infoTab
  have hZ := tabA_size fun _ _ => 0
  obtain ⟨i0, hi, hz0, hz1, hz2⟩ := info_parts infoRow3
  obtain ⟨i1, hj, hy0, hy1, hy2⟩ := info_parts infoSet3
  generalize (tabA fun _ _ => 0) = Z at *
  have HO : Hid ((tabA Spn.fol).all (·.oneCell') = true) := tabA_one _
  generalize tabA Spn.fol = T at *
  have HT : Hid (T.size = 169) := hT
  have HZ : Hid (Z.size = 169) := hZ
  generalize cpN n g n = S at *
  clear hz h hg hT hZ
  go_enter Tryd.func12, Tryd.ntmps12
  go_wp2_with fail
  refine K1.out.mono ?_
  rintro e X ⟨rfl, rfl⟩
  go_wp2_with fail
  refine (K3.out _).mono ?_
  rintro e W1 ⟨rfl, hb1⟩
  have HB1 := hide hb1
  clear hb1 K1
  go_wp2_with (first | (refine wpList_store_mid rfl 76 (.tmp 6) (.tmp 25) rfl W1.heap.size 0 T rfl rfl (T1_there W1 Z T HZ.out HT.out) (by rw [HT.out]; exact infoTab1) HO.out ?_; generalize hW : World.setCells _ _ _ _ = W2))
  have hA := T1_set (HZ.out.trans HT.out.symm) hW
  have HA := hide hA
  have HB2 := hide (HB1.out.trans (hA.2.mono HB1.out.size))
  clear hW hA hzz hzs
  have HRW := hide (fun r hr => (HR.out r hr).imp fun ar h => h.step HB2.out)
  have HXW := hide HB2.out.size
  have HWl : Hid (W1.heap.size < W2.heap.size) := by
    rcases Nat.lt_or_ge W1.heap.size W2.heap.size with hl | hl
    · exact hl
    · have := HA.out.1; rw [Array.getElem?_eq_none hl] at this; cases this
  clear HR K3
  go_loopw [7, 8] (fun v i wr => ∃ (r : Nat) (G Cp : Nat → Nat), r ≤ n ∧ i = .int .i64 r ∧ wr.ownsRow W2.heap.size 78 1 v r (rwL n G Cp r) ∧ RL n W2.heap.size G Cp (dg S n) r wr ∧ Below W2.heap.size W2 wr) (fun _ i _ => n - (intOf i).toNat)
  case atStart => exact ⟨0, fun _ => 0, fun _ => 0, by omega, rfl, World.ownsRow_nil _ _ _ _, ⟨fun i hi => absurd hi (Nat.not_lt_zero _), fun i j _ hj => absurd hj (Nat.not_lt_zero _)⟩, Below.refl _ _⟩
  case round =>
    obtain ⟨r, G, Cp, hr, rfl, hown, hrl, hb⟩ := hrel
    by_cases hlt : r < n
    · have hri : (r : Int) < n := by omega
      have hri6 : (r : Int) < 6 := by omega
      obtain ⟨ar, hsr⟩ := HRW.out r hlt
      have hsr1 := hsr.step hb
      have hsr2 := hsr1.step ((Below.refl _ wr).alloc (Nat.le_refl _) (.cells #[] 47))
      have hc := hsr2.hd
      have HSR := hide hsr2
      have HOW := hide (And.intro hown (And.intro hrl hb))
      clear hsr hsr1 hsr2 hown hrl hb
      go_wp2_with (first
        | (at_builtin; refine wpList_append_own _ rfl (.tmp 32) (.tmp 36) 78 rfl wr.heap.size 47 i1 (.int .i64 0) 1 8 Tryd.underlying78 hj hy0 hy1 hy2 rfl (by decide) _ 0 [] rfl (World.ownsRow_lit wr #[] 0 (Nat.le_refl _) (by decide) rfl) ar n (C r) (rwV n (S r)) rfl (by rw [rwV_len]; omega) HSR.out.news (rwV_one _ _) (by unfold maxLen; omega) (by omega) (by simp) ?_; intro v1 w1 hown1 hgrow1 _; simp only [Nat.zero_add, List.nil_append] at hown1; obtain ⟨g1, c1, rfl, hg1, hlt1⟩ := World.ownsRow.form hown1 (by omega); have hgr1 : (wr.alloc (.cells #[] 47)).grownBy w1 (some wr.heap.size) := hgrow1; have hu1 := World.ownsRow.kept (HOW.out.1.alloc _) hgr1 (.inr fun e => by have := (HOW.out.1.lt _ e).2; omega))
        | (at_builtin; refine wpList_append_own _ rfl (.tmp 31) (.tmp 38) 22 rfl W2.heap.size 78 i0 (.slice none 0 0) 1 24 Tryd.underlying22 hi hz0 hz1 hz2 rfl (by decide) _ r (rwL n G Cp r) rfl (hu1.alloc _) ⟨w1.heap.size, 0, none⟩ 1 1 [.slice (some ⟨g1, 0, none⟩) n c1] rfl rfl (by intro j u hj; match j, hj with | 0, hj => simp at hj; subst hj; simp [Addr.add]) (by intro u hu; simp at hu; subst hu; rfl) (by unfold maxLen; omega) (by omega) (by have h1 := HOW.out.2.2.size; have h2 := hgr1.size; simp at h2 ⊢; omega) ?_; intro v2 w2 hown2 hgrow2 _; obtain ⟨g2, c2, rfl, hg2, hlt2⟩ := World.ownsRow.form hown2 (by omega)))
      have hsz := HOW.out.2.2.size
      have hgr2 : (w1.alloc (.cells #[.slice (some ⟨g1, 0, none⟩) n c1] 78)).grownBy w2 u7.ownBlock := hgrow2
      have hN0 := own_mono hown1 hsz
      have hNew := World.ownsRow.kept (hN0.alloc _) hgr2 (.inr fun e => own_apart hu1 hN0 (by decide) g1 rfl e.symm)
      have hOld : ∀ i, i < r → w2.ownsRow W2.heap.size 47 1 (.slice (some ⟨G i, 0, none⟩) n (Cp i)) n (rwV n (dg S n i)) ∧ G i < wr.heap.size := fun i hi =>
        have h0 := HOW.out.2.1.own i hi
        have hl := (h0.lt (G i) rfl).2
        have h1 := World.ownsRow.kept (h0.alloc _) hgr1 (.inr fun e => by have e1 := Option.some.inj (show some (G i) = some wr.heap.size from e); omega)
        ⟨World.ownsRow.kept (h1.alloc _) hgr2 (.inr fun e => own_apart hu1 h1 (by decide) (G i) rfl e.symm), hl⟩
      have hsz1 := hgr1.size
      have hbw1 : Below W2.heap.size W2 w1 := Below.grown (HOW.out.2.2.alloc hsz _) hgr1 (by simp; omega) (fun k hk => by cases hk; exact hsz)
      have hbw : Below W2.heap.size W2 w2 := Below.grown (hbw1.alloc hbw1.size _) hgr2 (by have := hbw1.size; simp; omega) (fun k hk => (hu1.lt k hk).1)
      have hc2 : w2.cell? ⟨g2, r, none⟩ = some (.slice (some ⟨g1, 0, none⟩) n c1) := (World.ownsRow.cellAt hown2 r (by omega)).trans (rwL_last _ _ _ _ _)
      have hd2 : w2.cell? ⟨g1, r, none⟩ = some (.int .i64 (S r r : Nat)) := (World.ownsRow.cellAt hNew r (by omega)).trans (rwV_get n (S r) r hlt)
      have hf2 : w2.frozen? ⟨g1, r, none⟩ = false := World.ownsRow.frozenAt hNew r
      have HA : Hid (bits .and .i64 ((S r r : Nat) : Int) 64 = ((S r r &&& 64 : Nat) : Int)) := i64_and_nat' (S r r) 64 (HS.out r r) (by omega)
      have HNW := hide (And.intro hown2 (And.intro hNew (And.intro hOld (And.intro hbw hg1))))
      have HNE := hide HOW.out.2.1.ne
      clear hgr1 hgr2 hgrow1 hgrow2 hu1 hN0 hown1 hown2 hNew hOld hbw hbw1 hsz1 hg1 hlt1 hg2 hlt2 HOW HSR hc
      go_region
      rw [HA.out]
      obtain ⟨hown2, hNew, hOld, hbw, hg1⟩ := HNW.out
      have hst := World.ownsRow.stored hNew r (.int .i64 ((S r r &&& 64 : Nat) : Int))
      rw [rwV_set n r S hlt] at hst
      generalize w2.setCell ⟨g1, r, none⟩ (.int .i64 ((S r r &&& 64 : Nat) : Int)) = w3 at *
      have hown3 : w3.drew.ownsRow _ _ _ _ _ _ := World.ownsRow.kept (w' := w3) hown2 hst.2 (.inr fun e => own_apart hown2 hNew (by decide) g1 rfl e)
      have hold3 : ∀ i, i < r → w3.drew.ownsRow W2.heap.size 47 1 (.slice (some ⟨G i, 0, none⟩) n (Cp i)) n (rwV n (dg S n i)) := fun i hi =>
        World.ownsRow.kept (w' := w3) (hOld i hi).1 hst.2 (.inr fun e => by have e1 := Option.some.inj (show some (G i) = some g1 from e); have := (hOld i hi).2; omega)
      have hnew3 : w3.drew.ownsRow _ _ _ _ _ _ := hst.1
      have hb3 : Below W2.heap.size W2 w3.drew := (Below.grown hbw hst.2 hbw.size (fun k hk => by have e1 := Option.some.inj hk; omega)).drew
      have hne3 : ∀ i, i < r → G i ≠ g1 := fun i hi => by have := (hOld i hi).2; omega
      rw [rwL_next] at hown3
      clear hst hOld hbw hNew hown2 HNW hc2 hd2 hf2 HA
      go_wp2
      go_roundw
      case rel =>
        refine ⟨r + 1, fun i => if i < r then G i else g1, fun i => if i < r then Cp i else c1, by omega, by go_num, hown3, ⟨fun i hi => ?_, fun i j hi hj => ?_⟩, hb3⟩
        · by_cases h : i < r
          · simp only [h, if_true]; exact hold3 i h
          · obtain rfl : i = r := by omega
            simp only [h, if_false]; exact hnew3
        · have h : i < r := by omega
          by_cases h2 : j < r
          · simp only [h, h2, if_true]; exact HNE.out i j hi h2
          · simp only [h, h2, if_true, if_false]; exact hne3 i h
      case measure => simp [intOf]; omega
    · obtain rfl : n = r := by omega
      obtain ⟨b, cb, rfl, hg0, hg1⟩ := World.ownsRow.form hown (by omega)
      have hni : ¬ (n : Int) < n := by omega
      have HN4 : Hid (MN b n cb W2.heap.size G Cp (dg S n) wr) := ⟨hown, hrl⟩
      have HB4 : Hid (Below W2.heap.size W2 wr) := hb
      have HD4 := hide (dg_ri (n := n) (S := S) (fun i k _ _ => HS.out i k))
      clear hown hrl hb hg0 hg1 HRW hr hlt
      have hn1 := n1
      clear n1
      generalize dg S n = N4 at *
      go_wp2_with fail
      go_loopg [9] (tot N4 n n + 1) (fun gk v wx => ∃ N ls, v = .bool ls ∧ tot N n n + (if ls = true then 1 else 0) ≤ gk ∧ MN b n cb W2.heap.size G Cp N wx ∧ RI n S N ∧ (ls = false → Great n S N) ∧ Below W2.heap.size W2 wx)
      case atStart => exact ⟨N4, true, rfl, Nat.le_refl _, HN4.out, HD4.out, fun h => (by cases h), HB4.out⟩
      case round =>
        clear HN4 HD4 HB4
        obtain ⟨N, ls, rfl, ht, hmn, hri, hgr, hb⟩ := hrel
        cases ls
        · have HMN := hide hmn
          have HGR := hide (hgr rfl)
          have HB := hide hb
          clear hmn hri hgr hb
          have HBX := hide (HB2.out.trans (HB.out.mono HXW.out))
          go_wp2_with fail
          go_loop [16] (fun i => ∃ r : Nat, r ≤ n ∧ i = .int .i64 r ∧ noWay n N r = false) (fun i => n - (intOf i).toNat)
          case atStart => exact ⟨0, by omega, rfl, rfl⟩
          case round =>
            obtain ⟨r, hr, rfl, hnw⟩ := hrel
            by_cases hrn : r < n
            · have hri : (r : Int) < n := by omega
              have HNW := hide hnw
              clear hnw
              go_wp2_with fail
              go_loop [17] (fun k => ∃ m : Nat, m ≤ n ∧ k = .int .i64 m ∧ anyB (fun c => (0 : Int) == (N r c : Int)) m = false) (fun k => n - (intOf k).toNat)
              case atStart => exact ⟨0, by omega, rfl, rfl⟩
              case round =>
                obtain ⟨m, hm, rfl, hny⟩ := hrel
                have HNY := hide hny
                clear hny
                by_cases hmt : m < n
                · have hmi : (m : Int) < n := by omega
                  have t2 := HMN.out.top r hrn
                  have c2 := (HMN.out.at r m hrn hmt).1
                  by_cases e : N r m = 0
                  · have he : ((N r m : Nat) : Int) = 0 := by omega
                    have hall : noWay n N n = true := anyB_hit (b := fun a => anyB (fun c => (0 : Int) == (N a c : Int)) n) (k := r) (anyB_hit (b := fun c => (0 : Int) == (N r c : Int)) (k := m) (by simp [e]) n hmt) n hrn
                    have HALL := hide hall
                    clear hall
                    rw [he] at c2
                    go_wp2_with fail
                    go_ret2
                    exact ⟨HBX.out, N, HGR.out, .inl ⟨HALL.out, rfl⟩⟩
                  · have he : ¬ ((N r m : Nat) : Int) = 0 := by omega
                    have hnx : anyB (fun c => (0 : Int) == (N r c : Int)) (m + 1) = false := by
                      show (anyB (fun c => (0 : Int) == (N r c : Int)) m || _) = false
                      have h9 : (0 : Int) ≠ (N r m : Int) := by omega
                      rw [HNY.out]; simp [h9]
                    have HNX := hide hnx
                    clear hnx
                    go_wp2_with fail
                    go_round
                    case rel => exact ⟨m + 1, by omega, by go_num, HNX.out⟩
                    case measure => simp [intOf]; omega
                · have e : m = n := by omega
                  have hnx : noWay n N (r + 1) = false := by
                    show (anyB _ r || anyB (fun c => (0 : Int) == (N r c : Int)) n) = false
                    rw [e] at HNY
                    rw [HNY.out, Bool.or_false]; exact HNW.out
                  have HNX := hide hnx
                  clear hnx
                  go_wp2
                  go_round
                  case rel => exact ⟨r + 1, by omega, by go_num, HNX.out⟩
                  case measure => simp [intOf]; omega
            · have e : r = n := by omega
              rw [e] at hnw
              have HNW := hide hnw
              clear hnw e
              go_wp2
              go_ret2
              exact ⟨HBX.out, N, HGR.out, .inr ⟨HNW.out, b, ⟨cb, rfl⟩, G, Cp, HMN.out.net⟩⟩
        · simp only [if_true] at ht
          have HT0 := hide ht
          have HMN := hide hmn
          have HRI := hide hri
          have HB := hide hb
          clear hmn hri hgr hb ht
          go_wp2_with fail
          go_loopw [9, 10] (fun l i wx => ∃ (r : Nat) (N' : Nat → Nat → Nat) (ls : Bool), r ≤ n ∧ i = .int .i64 r ∧ l = .bool ls ∧ MN b n cb W2.heap.size G Cp N' wx ∧ PI n S N N' ls r 0 ∧ Below W2.heap.size W2 wx) (fun _ i _ => n - (intOf i).toNat)
          case atStart => exact ⟨0, N, false, by omega, rfl, rfl, HMN.out, PI.start HRI.out, HB.out⟩
          case round =>
            clear HMN HRI HB
            obtain ⟨r, N1, ls1, hr, rfl, rfl, hmn, hpi, hb⟩ := hrel
            have HMN := hide hmn
            have HPI := hide hpi
            have HB := hide hb
            clear hmn hpi hb
            by_cases hrn : r < n
            · have hri : (r : Int) < n := by omega
              go_wp2_with fail
              go_loopw [9, 11] (fun l i wx => ∃ (m : Nat) (N' : Nat → Nat → Nat) (ls : Bool), m ≤ n ∧ i = .int .i64 m ∧ l = .bool ls ∧ MN b n cb W2.heap.size G Cp N' wx ∧ PI n S N N' ls r m ∧ Below W2.heap.size W2 wx) (fun _ i _ => n - (intOf i).toNat)
              case atStart => exact ⟨0, N1, ls1, by omega, rfl, rfl, HMN.out, HPI.out, HB.out⟩
              case round =>
                clear HMN HPI HB
                obtain ⟨m, N2, ls2, hm, rfl, rfl, hmn, hpi, hb⟩ := hrel
                have HMN := hide hmn
                have HPI := hide hpi
                have HB := hide hb
                by_cases hmt : m < n
                · have hmi : (m : Int) < n := by omega
                  have t1 := hmn.top m hmt
                  have t2 := hmn.top r hrn
                  have c1 := (hmn.at m r hmt hrn).1
                  have c2 := (hmn.at r m hrn hmt).1
                  have l1 := hpi.ri.lt m r hmt hrn
                  have l2 := hpi.ri.lt r m hrn hmt
                  have KB := hide (rback_any (N2 m r : Nat) wr)
                  have eB : bkR ((N2 m r : Nat) : Int) = ((Bk (N2 m r) : Nat) : Int) := by unfold bkR; rw [if_pos (by omega)]; rfl
                  have HA0 : Hid (bits .and .i64 ((N2 r m : Nat) : Int) ((Bk (N2 m r) : Nat) : Int) = ((rst N2 r m 0 : Nat) : Int)) := i64_and_nat' _ _ l2 (Bk_lt _)
                  rw [eB] at KB
                  clear hmn hpi hb eB l1 l2
                  go_wp2_with fail
                  refine KB.out.mono ?_
                  rintro e X' ⟨rfl, rfl⟩
                  go_wp2_with fail
                  clear KB t1 t2 c1 c2
                  go_loopw [14, 15] (fun v i wx => ∃ j : Nat, j ≤ n ∧ i = .int .i64 j ∧ v = .int .i64 (rst N2 r m j : Nat) ∧ MN b n cb W2.heap.size G Cp N2 wx ∧ Below W2.heap.size W2 wx) (fun _ i _ => n - (intOf i).toNat)
                  case atStart => exact ⟨0, by omega, rfl, by rw [HA0.out], HMN.out, HB.out⟩
                  case round =>
                    clear HA0 HMN HB
                    obtain ⟨j, hj1, rfl, rfl, hmn, hb⟩ := hrel
                    have HMN := hide hmn
                    have HB := hide hb
                    by_cases hjn : j < n
                    · have hji : (j : Int) < n := by omega
                      clear hmn hb
                      have SX : Hid (∀ Y, MN b n cb W2.heap.size G Cp N2 Y → Below W2.heap.size W2 Y → (((Y.cell? ⟨b, r, none⟩ = some (.slice (some ⟨G r, 0, none⟩) n (Cp r)) ∧ Y.cell? ⟨G r, j, none⟩ = some (.int .i64 (N2 r j : Nat))) ∧ (Y.cell? ⟨b, j, none⟩ = some (.slice (some ⟨G j, 0, none⟩) n (Cp j)) ∧ Y.cell? ⟨G j, m, none⟩ = some (.int .i64 (N2 j m : Nat)))) ∧ Y.rangeAt W1.heap.size 0 T.toList) ∧ MN b n cb W2.heap.size G Cp N2 Y ∧ Below W2.heap.size W2 Y) := fun Y hm hb =>
        ⟨⟨⟨⟨hm.top r hrn, (hm.at r j hrn hjn).1⟩, ⟨hm.top j hjn, (hm.at j m hjn hmt).1⟩⟩, fun q v hv => by
          rw [Nat.zero_add, cell_of_row _ _ _ _ _ (0, 0) ((hb.block _ HWl.out).trans HA.out.1)]; simpa using hv⟩, hm, hb⟩
                      have hun := Tryd.underlying76
                      have hsT : (Tryd.prog.info? 76).map (·.size) = some T.toList.length := by rw [Array.length_toList, HT.out]; exact infoTab1
                      have HMD := hide (MN.step HMN.out ((Below.refl wr.heap.size wr).drew))
                      have hlr := Nat.lt_of_le_of_lt (rst_sub N2 r m j).le (HPI.out.ri.lt r m hrn hmt)
                      have HA1 : Hid (bits .and .i64 ((rst N2 r m j : Nat) : Int) ((joinN ((N2 r j : Nat) : Int) ((N2 j m : Nat) : Int) : Nat) : Int) = ((rst N2 r m (j + 1) : Nat) : Int)) := i64_and_nat' _ _ hlr (Jn_lt _ _)
                      have hS := SX.out wr.drew HMD.out HB.out.drew
                      clear hlr
                      go_wp2_with fail
                      go_region_held3 (fun Y => (((Y.cell? ⟨b, r, none⟩ = some (.slice (some ⟨G r, 0, none⟩) n (Cp r)) ∧ Y.cell? ⟨G r, j, none⟩ = some (.int .i64 (N2 r j : Nat))) ∧ (Y.cell? ⟨b, j, none⟩ = some (.slice (some ⟨G j, 0, none⟩) n (Cp j)) ∧ Y.cell? ⟨G j, m, none⟩ = some (.int .i64 (N2 j m : Nat)))) ∧ Y.rangeAt W1.heap.size 0 T.toList) ∧ MN b n cb W2.heap.size G Cp N2 Y ∧ Below W2.heap.size W2 Y)
                        (first | (with_reducible exact hS))
                        (first
                          | (go_at_call 24; refine (K4.out _ _ _).mono ?_; rintro e X' ⟨rfl, hx⟩; have hS := SX.out _ (MN.step HMD.out hx) ((HB.out.drew).trans (hx.mono HB.out.size))))
                      rw [HA1.out]
                      have hm9 := hS.2.1
                      have hb9 := hS.2.2
                      clear hS hx
                      go_wp2
                      go_roundw
                      case rel => exact ⟨j + 1, by omega, by go_num, rfl, hm9, hb9⟩
                      case measure => simp [intOf]; omega
                    · have ej : j = n := by omega
                      have hji : ¬ (j : Int) < n := by omega
                      have t2 := hmn.top r hrn
                      obtain ⟨c2, f2⟩ := hmn.at r m hrn hmt
                      have HST := hide (fun v => hmn.set r m v hrn)
                      rw [ej]
                      rw [ej] at hji
                      clear hmn hb ej hjn hj1
                      by_cases e : rst N2 r m n = N2 r m
                      · rw [e]
                        go_wp2_with fail
                        go_roundw
                        case rel => exact ⟨m + 1, N2, ls2, by omega, by go_num, rfl, HMN.out, HPI.out.keep e, HB.out⟩
                        case measure => simp [intOf]; omega
                      · have hne : ¬ ((rst N2 r m n : Nat) : Int) = (N2 r m : Nat) := by omega
                        have HCH := hide (HPI.out.chg hrn hmt e)
                        have HS2 := hide (HST.out (rst N2 r m n))
                        clear HST
                        generalize rst N2 r m n = z at *
                        go_wp2_with fail
                        go_roundw
                        case rel => exact ⟨m + 1, upd N2 r m z, true, by omega, by go_num, rfl, HS2.out.1, HCH.out, HB.out.setCell HS2.out.2 _⟩
                        case measure => simp [intOf]; omega
                · clear hmn hpi hb
                  go_wp2
                  go_roundw
                  case rel => exact ⟨r + 1, N2, ls2, by omega, by go_num, rfl, HMN.out, by have e : m = n := by omega
                                                                                           rw [e] at HPI; exact HPI.out.row, HB.out⟩
                  case measure => simp [intOf]; omega
            · go_wp2
              go_roundg (tot N1 n n + (if ls1 = true then 1 else 0))
              case measure =>
                have := HT0.out
                cases ls1
                · rw [HPI.out.same rfl]; simp; omega
                · have := HPI.out.dec rfl; simp; omega
              case rel => exact ⟨N1, ls1, rfl, Nat.le_refl _, HMN.out, HPI.out.ri, fun h => by subst h; exact HPI.out.fin (by omega), HB.out⟩
end Go.Proofs.YtnaggcadmfmibaaDoor
