/- package text: Unfold. -/
import Derived.Test.YtponocolfjkapaaDoorMTextBackUpto8
import Derived.Test.YtponocolfjkapaaDoorLinG
import Derived.Deep.RegionHeld3
namespace Go.Proofs.YtponocolfjkapaaDoor
open Go.RowKit Go.Shelf
set_option linter.unusedVariables false
set_option linter.unusedSimpArgs false

theorem els_app (E F : List El) : els (E ++ F) = els E ++ els F := by unfold els; rw [List.map_append]
theorem els_len (E : List El) : (els E).length = E.length := by unfold els; rw [List.length_map]
theorem els_ne {E : List El} (h : E ≠ []) : els E ≠ [] := fun e => h (List.map_eq_nil_iff.1 e)
theorem els_dropLast (E : List El) : els E.dropLast = (els E).dropLast := by unfold els; rw [List.map_dropLast]
theorem mem_total {l : List UInt8} : ∀ {L : List (List UInt8)}, l ∈ L → l.length ≤ Tl.total L
  | x :: r, h => by
    simp only [Tl.total, List.map_cons, List.sum_cons]
    rcases List.mem_cons.1 h with rfl | h
    · omega
    · have := mem_total h
      simp only [Tl.total] at this
      omega
theorem getLastD_le : ∀ L : List (List UInt8), (L.getLastD []).length ≤ Tl.total L := fun L => by
  by_cases h : L = []
  · subst h; simp
  · have := Tl.total_last L h; omega
set_option maxRecDepth 100000 in
set_option maxHeartbeats 8000000 in
theorem unfold_any (s : ByteArray) (C : List (List UInt8)) (w : World) (h1 : s.size ≤ 10000000) (hC : Tl.Cts (Tl.tx s) C) (hC3 : Tl.total C ≤ 10000000) :
    Calls Tryd.prog 32 #[.string s] w fun e w' => ∃ v L, e = .returned v ∧ SR w' w.heap.size v L ∧ txs L = Tl.unf [] (Tl.strip C) ∧ L.length ≤ 10000001 ∧ Below w.heap.size w w' := by
  have HC := hide hC
  obtain ⟨R, hR⟩ : ∃ R, R = Tl.unf [] (Tl.strip C) := ⟨_, rfl⟩
  rw [← hR]
  have HR := hide hR
  clear hC hR hC3
  go_enter Tryd.func32, Tryd.ntmps32
  go_wp2_with fail
  go_loopw [0, 3] (fun v0 v3 wr => ∃ (r : ByteArray) (E : List El) (C' : List (List UInt8)), v0 = .string r ∧ RR wr w.heap.size v3 E ∧ Tl.Cts (Tl.tx r) C' ∧ R = Tl.unf (els E) (Tl.strip C') ∧ Tl.total (els E) + r.size ≤ s.size ∧ E.length + r.size ≤ s.size ∧ Below w.heap.size w wr) (fun v0 _ _ => match v0 with | .string r => r.size | _ => 0)
  case atStart => exact ⟨s, [], C, rfl, RR.nil _ _, HC.out, HR.out, by simp [els, Tl.total], by simp, Below.refl _ _⟩
  case round =>
    obtain ⟨r, E, C', rfl, hrr, hct, hun, htot, hlen, hB⟩ := hrel
    obtain ⟨a3, l3, c3, hv3⟩ := ownr_form' hrr.own
    have hl3 : l3 = E.length := by
      rcases hrr.own.2 with ⟨h', h1⟩ | ⟨g, cap, cur, h', _⟩
      · rw [hv3] at h'; cases h'; exact h1.symm
      · rw [hv3] at h'; cases h'; rfl
    subst hv3 hl3
    rcases Nat.eq_zero_or_pos r.size with h0 | h0
    · obtain rfl := size_zero_eq r h0
      have hC1 := hct.inv_last (by simp [Tl.tx])
      subst hC1
      have hR2 : Hid (R = els E) := hun
      clear hct hun h0
      have hEl : E.length ≤ 10000000 := by omega
      obtain ⟨W0, hW0⟩ : ∃ W0, W0 = wr := ⟨_, rfl⟩
      subst hW0
      have HRR := hide hrr
      clear hrr
      go_wp2_with fail
      go_loopw [6, 45] (fun v6 v45 wx => ∃ (k : Nat) (T : List ByteArray), k ≤ E.length ∧ v45 = .int .i64 k ∧ SR wx W0.heap.size v6 T ∧ txs T = (els E).take k ∧ T.length = k ∧ Below W0.heap.size W0 wx) (fun _ v45 _ => E.length - (intOf v45).toNat)
      case atStart => exact ⟨0, [], by omega, rfl, SR.nil _ _, rfl, rfl, Below.refl _ _⟩
      case round =>
        obtain ⟨k, T, hk, rfl, hs, hT, hTl, hb⟩ := hrel
        have hrx := HRR.out.later hb
        obtain ⟨a6, l6, c6, rfl⟩ := ownr_form' hs
        by_cases hlt : k < E.length
        · have hki : (k : Int) < E.length := by omega
          have hk0 : (0 : Int) ≤ k := by omega
          obtain ⟨gr, cr, hv, hg0, hg1⟩ := World.ownsRow.form hrx.own (by omega)
          cases hv
          have hc : wr.cell? ⟨gr, k, none⟩ = some (el E[k]) := by
            have := World.ownsRow.cellAt hrx.own k (by omega)
            rw [this, List.getElem?_map, List.getElem?_eq_getElem hlt]; rfl
          have hcv := (hrx.cb E[k] (List.getElem_mem hlt)).1.conv
          have hT2 : Hid (txs (T ++ [Tl.str (E[k]).2.2]) = (els E).take (k + 1)) := by
            show _ = _
            rw [txs_snoc, hT, List.take_add_one, List.getElem?_eq_getElem (by rw [els_len]; exact hlt)]
            simp [els]
          have hes : (E[k]).2.2.length ≤ 10000000 := by
            have h := (hrx.cb E[k] (List.getElem_mem hlt)).1
            have : (E[k]).2.2.length ≤ Tl.total (els E) := by
              have hm : (E[k]).2.2 ∈ els E := List.mem_map.2 ⟨E[k], List.getElem_mem hlt, rfl⟩
              exact mem_total hm
            omega
          unfold el at hc
          generalize E[k] = x at *
          clear hrx hT
          go_wp2_with (at_builtin; refine wpList_append_sr rfl (.tmp 49) (.tmp 52) rfl W0.heap.size _ T [Tl.str x.2.2] rfl (hs.alloc _) ⟨wr.heap.size, 0, none⟩ 1 1 rfl rfl (one_newS wr _ (Tl.str x.2.2)) (by simp; omega) (by have := hb.size; simp; omega) ?_)
          intro v7 w7 hs7 hgrow hb7
          have hb8 := (hb.alloc hb.size (.cells #[.string (Tl.str x.2.2)] 9)).trans hb7
          obtain ⟨a7, l7, c7, rfl⟩ := ownr_form' hs7
          clear hgrow hb7 hs hcv hc
          go_wp2
          go_roundw
          case rel => exact ⟨k + 1, T ++ [Tl.str x.2.2], by omega, by go_num, hs7, hT2.out, by simp; omega, hb8⟩
          case measure => simp [intOf]; omega
        · have hkn : k = E.length := by omega
          have hki : (E.length : Int) ≤ k := by omega
          subst hkn
          have hT2 : txs T = R := by rw [hT, hR2.out, ← els_len, List.take_length]
          clear hrx hT
          go_wp2
          go_ret
          exact ⟨_, T, rfl, mono0u hs hB.size, hT2, by omega, hB.trans (hb.mono hB.size)⟩
    · have hne := size_pos_ne r h0
      have hne2 : r.toList.isEmpty = false := by cases h : r.toList.isEmpty with
        | false => rfl
        | true => have := congrArg List.length ((tx_nil_iffE r).1 h); rw [Tl.tx_len] at this; simp only [List.length_nil] at this; omega
      go_wp2_with fail
      refine (cutnl_any r C' _ (by omega) h0 hct).mono ?_
      rintro e W1 ⟨p, q, b, C2, rfl, hct2, hst, hpq, hqr, hb1⟩
      have hrr1 := hrr.later hb1
      have hB1 := hB.trans (hb1.mono hB.size)
      rw [hst] at hun
      clear hrr hct hst hb1 hB
      go_wp2_with fail
      refine (Tryd.strings_TrimSuffix p ⟨#[13]⟩ _ (by omega)).mono ?_
      rintro e W2 ⟨he, rfl⟩
      have hz : Hid (Tl.tx ⟨(Lib.trimSuffix p.data.toList [13]).toArray⟩ = Tl.trim (Tl.tx p)) := by
        show _ = _
        rw [← Tl.trim_eq]; rfl
      have hzs : (⟨(Lib.trimSuffix p.data.toList [13]).toArray⟩ : ByteArray).size ≤ p.size := by
        rw [← Tl.tx_len, hz.out, ← Tl.tx_len p]; exact Tl.trim_len _
      rw [show (⟨#[13]⟩ : ByteArray).data.toList = [13] from rfl] at he
      generalize (⟨(Lib.trimSuffix p.data.toList [13]).toArray⟩ : ByteArray) = z at *
      subst he
      have hun2 : Hid (R = Tl.unf (Tl.step (els E) (Tl.tx p)) (Tl.strip C2)) := hun
      have hstep : Tl.step (els E) (Tl.tx p) = if Tl.folded (Tl.tx z) = true ∧ els E ≠ [] then (els E).dropLast ++ [(els E).getLastD [] ++ (Tl.tx z).tail] else els E ++ [Tl.tx z] := by
        rw [hz.out]; rfl
      have HS := hide hstep
      clear hun hstep hz
      by_cases hE : E = []
      · subst hE
        have hi0 : ¬ (0 : Int) ≤ ((List.length ([] : List El) : Nat) : Int) - 1 := by simp
        have hcv := Lib.run_convert_string_bytes (P := Tryd.prog) W2 9 59 5 z Tryd.underlying9 Tryd.underlying59 Tryd.underlying5
        have hbw : Below W2.heap.size W2 (Lib.bytesWorld W2 5 z) := ⟨rfl, rfl, rfl, by rw [Lib.bytesWorld_size]; omega, fun k hk => Lib.bytesWorld_at_old _ _ _ k hk⟩
        have hcb := CB.new W2 z (by omega)
        have hrr4 := hrr1.later hbw
        have hB4 := hB1.trans (hbw.mono hB1.size)
        have hWs := hB1.size
        have hcl : (Tl.tx z).length = z.size := Tl.tx_len z
        have hun3 : Hid (R = Tl.unf (els ([] ++ [(W2.heap.size, grownCap W2 z.size 0 5, Tl.tx z)])) (Tl.strip C2)) := by
          show _ = _
          rw [hun2.out, HS.out, if_neg (by simp [els]), els_app]; rfl
        have htot3 : Tl.total (els ([] ++ [(W2.heap.size, grownCap W2 z.size 0 5, Tl.tx z)])) + q.size ≤ s.size := by
          rw [els_app, Tl.total_app]
          have e : Tl.total (els [((W2.heap.size, grownCap W2 z.size 0 5, Tl.tx z) : El)]) = z.size := by simp [els, Tl.total, hcl]
          rw [e]
          omega
        have hltE : ∀ x : El, x ∈ ([] : List El) → Prod.fst x < W2.heap.size := fun x hx => (hrr1.cb x hx).1.lt
        clear HS hun2
        generalize Lib.bytesWorld W2 5 z = W5 at *
        generalize grownCap W2 z.size 0 5 = cz at *
        go_wp2_with (at_builtin; refine wpList_append_rr rfl (.tmp 38) (.tmp 41) rfl w.heap.size _ [] (W2.heap.size, cz, Tl.tx z) rfl (hrr4.later ((Below.refl _ W5).alloc (Nat.le_refl _) _)) (hcb.later ((Below.refl _ W5).alloc (Nat.le_refl _) _)) hWs (fun x hx => Nat.ne_of_lt (hltE x hx)) ⟨W5.heap.size, 0, none⟩ 1 rfl (by unfold el; rw [hcl]; simp) (by first | omega | simp) (by have := hB4.size; simp; omega) ?_)
        intro v6 W6 hrr6 hb6
        have hB6 := (hB4.alloc hB4.size (.cells #[.slice (some ⟨W2.heap.size, 0, none⟩) z.size cz] 59)).trans hb6
        obtain ⟨a6, l6, c6, rfl⟩ := ownr_form' hrr6.own
        have HRR := hide hrr6
        clear hrr6 hb6 hB4 hcb hcv hbw hrr4 hrr1 hB1 hltE
        go_wp2
        go_roundw
        case rel => exact ⟨q, _, C2, rfl, HRR.out, hct2, hun3.out, htot3, by simp; omega, hB6⟩
        case measure => exact hqr
      · have hEp : 0 < E.length := List.length_pos_iff.2 hE
        have hi0 : (0 : Int) ≤ (E.length : Int) - 1 := by omega
        go_wp2_with fail
        refine (isFolded_any z _ (by omega)).mono ?_
        rintro e W3 ⟨rfl, hb3⟩
        have hrr3 := hrr1.later hb3
        have hB3 := hB1.trans (hb3.mono hB1.size)
        clear hrr1 hb3 hB1
        cases hf : Tl.folded (Tl.tx z)
        · have hz0q : z.size ≤ 10000000 := by omega
          have hcv := Lib.run_convert_string_bytes (P := Tryd.prog) W3 9 59 5 z Tryd.underlying9 Tryd.underlying59 Tryd.underlying5
          have hbw : Below W3.heap.size W3 (Lib.bytesWorld W3 5 z) := ⟨rfl, rfl, rfl, by rw [Lib.bytesWorld_size]; omega, fun k hk => Lib.bytesWorld_at_old _ _ _ k hk⟩
          have hcb := CB.new W3 z (by omega)
          have hrr4 := hrr3.later hbw
          have hB4 := hB3.trans (hbw.mono hB3.size)
          have hWs := hB3.size
          have hcl : (Tl.tx z).length = z.size := Tl.tx_len z
          have hun3 : Hid (R = Tl.unf (els (E ++ [(W3.heap.size, grownCap W3 z.size 0 5, Tl.tx z)])) (Tl.strip C2)) := by
            show _ = _
            rw [hun2.out, HS.out, if_neg (fun e => by rw [hf] at e; cases e.1), els_app]; rfl
          have htot3 : Tl.total (els (E ++ [(W3.heap.size, grownCap W3 z.size 0 5, Tl.tx z)])) + q.size ≤ s.size := by
            rw [els_app, Tl.total_app]
            have e : Tl.total (els [((W3.heap.size, grownCap W3 z.size 0 5, Tl.tx z) : El)]) = z.size := by simp [els, Tl.total, hcl]
            rw [e]
            omega
          have hltE : ∀ x ∈ E, x.1 < W3.heap.size := fun x hx => (hrr3.cb x hx).1.lt
          clear HS hun2
          generalize Lib.bytesWorld W3 5 z = W5 at *
          generalize grownCap W3 z.size 0 5 = cz at *
          go_wp2_with (at_builtin; refine wpList_append_rr rfl (.tmp 38) (.tmp 41) rfl w.heap.size _ E (W3.heap.size, cz, Tl.tx z) rfl (hrr4.later ((Below.refl _ W5).alloc (Nat.le_refl _) _)) (hcb.later ((Below.refl _ W5).alloc (Nat.le_refl _) _)) hWs (fun x hx => Nat.ne_of_lt (hltE x hx)) ⟨W5.heap.size, 0, none⟩ 1 rfl (by unfold el; rw [hcl]; simp) (by first | omega | simp) (by have := hB4.size; simp; omega) ?_)
          intro v6 W6 hrr6 hb6
          have hB6 := (hB4.alloc hB4.size (.cells #[.slice (some ⟨W3.heap.size, 0, none⟩) z.size cz] 59)).trans hb6
          obtain ⟨a6, l6, c6, rfl⟩ := ownr_form' hrr6.own
          have HRR := hide hrr6
          clear hrr6 hb6 hB4 hcb hcv hbw hrr4 hrr3 hB3 hltE
          go_wp2
          go_roundw
          case rel => exact ⟨q, _, C2, rfl, HRR.out, hct2, hun3.out, htot3, by simp; omega, hB6⟩
          case measure => exact hqr
        · have hz0 : 0 < z.size := by
            rcases Nat.eq_zero_or_pos z.size with h0 | h0
            · obtain rfl := size_zero_eq z h0
              exact absurd hf (by decide)
            · exact h0
          have hY : Tl.tx (z.extract 1 z.size) = (Tl.tx z).tail := by
            rw [Tl.tx_extract, ← List.drop_one, List.take_of_length_le (by rw [List.length_drop, Tl.tx_len]; omega)]
          have hYs : (z.extract 1 z.size).size = z.size - 1 := by rw [ByteArray.size_extract]; omega
          have hgl := getLastD_le (els E)
          obtain ⟨gr, cr, x, hv, hgr, hEx, hxc, hxf, hxl, happ⟩ := (RR.later hrr3 ((Below.refl _ W3).drew)).last hE (z.extract 1 z.size) (by rw [hYs]; omega)
          cases hv
          obtain ⟨y, W8, hrun, hy1, hy2, hyl, hyr⟩ := happ 59
          obtain ⟨hrr8, hB8⟩ := hyr hB3.size
          have hn1 : (0 : Int) ≤ (E.length : Int) - 1 := hi0
          have hn2 : (E.length : Int) - 1 < E.length := by omega
          have hn3 : ((E.length : Int) - 1).toNat = E.length - 1 := by omega
          have hi1 : (1 : Int) ≤ z.size := by omega
          have hun3 : Hid (R = Tl.unf (els (E.dropLast ++ [y])) (Tl.strip C2)) := by
            show _ = _
            rw [hun2.out, HS.out, if_pos ⟨hf, els_ne hE⟩, els_app, els_dropLast, hxl, ← hY, ← hyl]; rfl
          have htot3 : Tl.total (els (E.dropLast ++ [y])) + q.size ≤ s.size := by
            have h2 := Tl.total_last (els E) (els_ne hE)
            rw [els_app, Tl.total_app, els_dropLast]
            have e : Tl.total (els [y]) = y.2.2.length := by simp [els, Tl.total]
            rw [hxl] at h2
            rw [e, hyl, List.length_append, Tl.tx_len, hYs]
            omega
          have hlen3 : (E.dropLast ++ [y]).length = E.length := by rw [List.length_append, List.length_dropLast, List.length_singleton]; omega
          have HH := hide (And.intro hrr8 (And.intro (hB3.trans (((Below.refl _ W3).drew).trans hB8)) (And.intro htot3 hlen3)))
          clear HS hun2 hrr3 hB3 hyr hrr8 hB8 htot3 happ hxl hEx hgl hY hYs hlen3 hyl
          unfold el at hrun hxc hy1 HH
          go_upto_region 8 with fail
          have hS : W3.drew.cell? ⟨gr, E.length - 1, none⟩ = some (.slice (some ⟨x.1, 0, none⟩) x.2.2.length x.2.1) ∧ W3.drew.frozen? ⟨gr, E.length - 1, none⟩ = false := ⟨hxc, hxf⟩
          refine wp_region_noPanic ?_
          refine wp_region_linGM (S := fun X => X.cell? ⟨gr, E.length - 1, none⟩ = some (.slice (some ⟨x.1, 0, none⟩) x.2.2.length x.2.1) ∧ X.frozen? ⟨gr, E.length - 1, none⟩ = false) (R := fun _ => True) [10] (by kernel_rfl) (by kernel_rfl) [(0, none, 1), (1, none, 1), (2, none, 1), (3, none, 1), (4, none, 1), (5, none, 0), (6, none, 1), (7, none, 1), (8, none, 2), (9, none, 1), (10, none, 3)] (by kernel_rfl) (by kernel_rfl) (fun _ _ _ _ _ h => h) (by exact trivial) (by exact hS) (fun ops' Q' hops hQ' => ?_)
          refine wpLinG_pure (o := { dst := some 28, op := Go.Op.move (Go.Operand.tmp 3), type := 97, pos := "fold.go:52", after := #[], guard := none }) (v := ?vx0) (by rw [hops]; rfl) (by first | exact trivial | rfl) ?ex0 ?hx0
          case ex0 => intro w'; go_simp; (try rfl)
          (try simp only [Act.put, List.setIfInBounds_toArray, List.set_cons_zero, List.set_cons_succ])
          refine wpLinG_pure (o := { dst := some 29, op := Go.Op.move (Go.Operand.tmp 5), type := 3, pos := "fold.go:52", after := #[], guard := none }) (v := ?vx1) (by rw [hops]; rfl) (by first | exact trivial | rfl) ?ex1 ?hx1
          case ex1 => intro w'; go_simp; (try rfl)
          (try simp only [Act.put, List.setIfInBounds_toArray, List.set_cons_zero, List.set_cons_succ])
          refine wpLinG_pure (o := { dst := some 30, op := Go.Op.move (Go.Operand.tmp 3), type := 97, pos := "fold.go:52", after := #[], guard := none }) (v := ?vx2) (by rw [hops]; rfl) (by first | exact trivial | rfl) ?ex2 ?hx2
          case ex2 => intro w'; go_simp; (try rfl)
          (try simp only [Act.put, List.setIfInBounds_toArray, List.set_cons_zero, List.set_cons_succ])
          refine wpLinG_pure (o := { dst := some 31, op := Go.Op.move (Go.Operand.tmp 5), type := 3, pos := "fold.go:52", after := #[], guard := none }) (v := ?vx3) (by rw [hops]; rfl) (by first | exact trivial | rfl) ?ex3 ?hx3
          case ex3 => intro w'; go_simp; (try rfl)
          (try simp only [Act.put, List.setIfInBounds_toArray, List.set_cons_zero, List.set_cons_succ])
          refine wpLinG_pure (o := { dst := some 32, op := Go.Op.indexAddr 97 (Go.Operand.tmp 30) (Go.Operand.tmp 31), type := 0, pos := "fold.go:52", after := #[{ on := 2, ground := Go.Ground.data }, { on := 3, ground := Go.Ground.data }], guard := none }) (v := ?vx4) (by rw [hops]; rfl) (by first | exact trivial | rfl) ?ex4 ?hx4
          case ex4 => intro w'; go_simp; (try rfl)
          (try simp only [Act.put, List.setIfInBounds_toArray, List.set_cons_zero, List.set_cons_succ])
          refine wpLinG_read (o := { dst := some 33, op := Go.Op.load 59 (Go.Operand.tmp 32), type := 59, pos := "fold.go:52", after := #[{ on := 4, ground := Go.Ground.data }], guard := none }) (v := ?vx5) (by rw [hops]; rfl) (by first | exact trivial | rfl) hS ?ex5 ?hx5
          case ex5 => intro w' hw'; obtain ⟨e1, e2⟩ := hw'; go_simp; (try rfl)
          (try simp only [Act.put, List.setIfInBounds_toArray, List.set_cons_zero, List.set_cons_succ])
          refine wpLinG_pure (o := { dst := some 34, op := Go.Op.move (Go.Operand.tmp 4), type := 9, pos := "fold.go:52", after := #[], guard := none }) (v := ?vx6) (by rw [hops]; rfl) (by first | exact trivial | rfl) ?ex6 ?hx6
          case ex6 => intro w'; go_simp; (try rfl)
          (try simp only [Act.put, List.setIfInBounds_toArray, List.set_cons_zero, List.set_cons_succ])
          refine wpLinG_pure (o := { dst := some 35, op := Go.Op.slice 9 (Go.Operand.tmp 34) (some (Go.Operand.const (Go.Value.int Go.IntKind.i64 1))) none none, type := 9, pos := "fold.go:52", after := #[{ on := 6, ground := Go.Ground.data }], guard := none }) (v := ?vx7) (by rw [hops]; rfl) (by first | exact trivial | rfl) ?ex7 ?hx7
          case ex7 => intro w'; go_simp; (try rfl)
          (try simp only [Act.put, List.setIfInBounds_toArray, List.set_cons_zero, List.set_cons_succ])
          refine wpLinG_do (o := { dst := some 36, op := Go.Op.call { callee := Go.Callee.builtin Go.Builtin.append, args := #[Go.Operand.tmp 33, Go.Operand.tmp 35], argTypes := #[59, 9] }, type := 59, pos := "fold.go:52", after := #[{ on := 5, ground := Go.Ground.data }, { on := 7, ground := Go.Ground.data }], guard := none }) (by rw [hops]; rfl) (by first | exact trivial | rfl) (fun K hK => ?_)
          refine wp_append_run (.tmp 33) (.tmp 35) 59 9 rfl rfl rfl hrun ?_
          clear hS
          have hS := And.intro hy1 hy2
          refine hK _ _ trivial hS ?_
          clear hK K
          (try simp only [Act.put, List.setIfInBounds_toArray, List.set_cons_zero, List.set_cons_succ])
          refine wpLinG_pure (o := { dst := some 37, op := Go.Op.indexAddr 97 (Go.Operand.tmp 28) (Go.Operand.tmp 29), type := 0, pos := "fold.go:52", after := #[{ on := 0, ground := Go.Ground.data }, { on := 1, ground := Go.Ground.data }, { on := 0, ground := Go.Ground.phase }, { on := 1, ground := Go.Ground.phase }, { on := 2, ground := Go.Ground.phase }, { on := 3, ground := Go.Ground.phase }, { on := 4, ground := Go.Ground.phase }, { on := 5, ground := Go.Ground.phase }, { on := 6, ground := Go.Ground.phase }, { on := 7, ground := Go.Ground.phase }, { on := 8, ground := Go.Ground.phase }], guard := none }) (v := ?vx9) (by rw [hops]; rfl) (by first | exact trivial | rfl) ?ex9 ?hx9
          case ex9 => intro w'; go_simp; (try rfl)
          (try simp only [Act.put, List.setIfInBounds_toArray, List.set_cons_zero, List.set_cons_succ])
          refine wpLinG_store (o := { dst := none, op := Go.Op.store 59 (Go.Operand.tmp 37) (Go.Operand.tmp 36), type := 0, pos := "fold.go:52", after := #[{ on := 9, ground := Go.Ground.data }, { on := 8, ground := Go.Ground.data }, { on := 8, ground := Go.Ground.chain }, { on := 0, ground := Go.Ground.phase }, { on := 1, ground := Go.Ground.phase }, { on := 2, ground := Go.Ground.phase }, { on := 3, ground := Go.Ground.phase }, { on := 4, ground := Go.Ground.phase }, { on := 5, ground := Go.Ground.phase }, { on := 6, ground := Go.Ground.phase }, { on := 7, ground := Go.Ground.phase }, { on := 8, ground := Go.Ground.phase }], guard := none }) (by rw [hops]; rfl) (by first | exact trivial | rfl) (fun K hK => ?_)
          go_simp
          refine hK _ _ trivial ?_
          clear hK K
          (try simp only [Act.put, List.setIfInBounds_toArray, List.set_cons_zero, List.set_cons_succ])
          subst hQ'
          refine NoPanic.normal ?_
          clear hops hS
          obtain ⟨hrr8, hB8, htot3, hlen3⟩ := HH.out
          have HRR := hide hrr8
          clear HH hrr8 hxc hxf hrun hy1 hy2
          go_wp2
          go_roundw
          case rel => exact ⟨q, E.dropLast ++ [y], C2, rfl, HRR.out, hct2, hun3.out, htot3, by omega, hB8⟩
          case measure => exact hqr
end Go.Proofs.YtponocolfjkapaaDoor
