/- The reference's Unfold. -/
import Derived.Test.YtmfjnkfijnggbaaUnfB
namespace Go.Proofs.Ytmfjnkfijnggbaa
open Go.RowKit
set_option linter.unusedVariables false
set_option linter.unusedSimpArgs false

theorem SR.sl' {w : World} {base : Nat} {v : Value} {L : List ByteArray} (h : SR w base v L) : ∃ a c, v = .slice a L.length c ∧ SL a L w := by
  rcases Nat.eq_zero_or_pos L.length with h0 | h0
  · obtain ⟨a, l, c, rfl⟩ := ownr_form' h
    have hl : l = L.length := by
      rcases h.2 with ⟨h', h1⟩ | ⟨g, cap, cur, h', _⟩
      · cases h'; exact h1.symm
      · cases h'; rfl
    subst hl
    exact ⟨a, c, rfl, fun k hk => absurd hk (by omega)⟩
  · obtain ⟨g, c, rfl, hg, hlt⟩ := World.ownsRow.form h h0
    refine ⟨_, c, rfl, fun k hk => ⟨_, rfl, ?_⟩⟩
    refine h.cells (g := g) rfl k _ ?_
    unfold strs'
    rw [List.getElem?_map, List.getElem?_eq_getElem hk]; rfl
theorem txs_dropLast (L : List ByteArray) : txs L.dropLast = (txs L).dropLast := by unfold txs; rw [List.map_dropLast]
theorem unf_take (C : List (List UInt8)) (k : Nat) (h : k < C.length) : Tl.unf [] (C.take (k + 1)) = Tl.step (Tl.unf [] (C.take k)) C[k] := by
  rw [List.take_add_one, List.getElem?_eq_getElem h]
  unfold Tl.unf
  rw [List.foldl_append]; rfl
theorem mono0' {w : World} {b b' : Nat} {e : TypeId} {s : Nat} {v : Value} {n : Nat} {xs : List Value} (h : w.ownsRow b e s v n xs) (hb : b' ≤ b) : w.ownsRow b' e s v n xs :=
  ⟨h.1, h.2.imp id fun ⟨g, cap, cur, h1, h2, h3⟩ => ⟨g, cap, cur, h1, Nat.le_trans hb h2, h3⟩⟩
/-- the line without the return at its end -/
theorem trim_of (s : ByteArray) : (∃ h : 0 < s.size, s[s.size - 1] = 13 ∧ Tl.trim (Tl.tx s) = Tl.tx (s.extract 0 (s.size - 1))) ∨ (Tl.trim (Tl.tx s) = Tl.tx s ∧ (s.size = 0 ∨ ∃ h : 0 < s.size, s[s.size - 1] ≠ 13)) := by
  rcases Nat.eq_zero_or_pos s.size with h0 | h0
  · refine .inr ⟨?_, .inl h0⟩
    have : Tl.tx s = [] := List.eq_nil_of_length_eq_zero (by rw [Tl.tx_len]; exact h0)
    rw [this]; rfl
  · have hl : (Tl.tx s).getLast? = some s[s.size - 1] := by
      rw [List.getLast?_eq_getElem?, Tl.tx_len, List.getElem?_eq_getElem (by rw [Tl.tx_len]; omega)]; rfl
    by_cases e : s[s.size - 1] = 13
    · refine .inl ⟨h0, e, ?_⟩
      unfold Tl.trim
      rw [hl, e, if_pos rfl, Tl.tx_extract, List.drop_zero, Nat.sub_zero, List.dropLast_eq_take, Tl.tx_len]
    · refine .inr ⟨?_, .inr ⟨h0, e⟩⟩
      unfold Tl.trim
      rw [hl, if_neg (fun h => e (Option.some.inj h))]
theorem size_pos_ne (s : ByteArray) (h : 0 < s.size) : (s.toList == []) = false := by
  rw [ByteArray.toList_eq, beq_eq_false_iff_ne]
  intro e
  have := congrArg List.length e
  rw [Array.length_toList] at this
  have : s.size = 0 := this
  omega
theorem size_zero_eq (s : ByteArray) (h : s.size = 0) : s = ⟨#[]⟩ := by
  have e : Tl.tx s = [] := List.eq_nil_of_length_eq_zero (by rw [Tl.tx_len]; exact h)
  exact Tl.tx_inj (by rw [e]; rfl)
theorem tx_nil_iffE (s : ByteArray) : s.toList.isEmpty = true ↔ Tl.tx s = [] := by
  rw [ByteArray.toList_eq, List.isEmpty_iff]; rfl
theorem strip_txs (L : List ByteArray) (h : L ≠ []) (hp : L.length - 1 < L.length) : Tl.strip (txs L) = if Tl.tx L[L.length - 1] = [] then txs L.dropLast else txs L := by
  have hsn : txs L = txs L.dropLast ++ [Tl.tx L[L.length - 1]] := by
    have := congrArg txs (List.dropLast_concat_getLast h)
    rw [← this, List.getLast_eq_getElem]
    unfold txs
    rw [List.map_append]; rfl
  rw [hsn, Tl.strip_snoc]
theorem tx_nil_iff' (s : ByteArray) : (s.toList == []) = true ↔ Tl.tx s = [] := by
  rw [ByteArray.toList_eq]
  exact ⟨fun h => eq_of_beq h, fun h => by unfold Tl.tx at h; rw [h]; rfl⟩
set_option maxRecDepth 100000 in
set_option maxHeartbeats 8000000 in
theorem runfold_any (s : ByteArray) (C : List (List UInt8)) (w : World) (h1 : s.size ≤ 10000000) (hC : Tl.Cts (Tl.tx s) C) (hC2 : C.length ≤ 10000001) (hC3 : Tl.total C ≤ 10000000) :
    Calls Try.prog 8 #[.string s] w fun e w' => ∃ v L, e = .returned v ∧ SR w' w.heap.size v L ∧ txs L = Tl.unf [] (Tl.strip C) ∧ L.length ≤ 10000001 ∧ Below w.heap.size w w' := by
  have K := hide (fun W => cuts_any s C W (by omega) hC)
  have HCn := hide hC.ne
  clear hC
  go_enter Try.func8, Try.ntmps8
  go_wp2_with fail
  refine (K.out _).mono ?_
  rintro e W1 ⟨v, L, rfl, hs, hL, hLl, hB⟩
  have hLn : L ≠ [] := fun e => HCn.out (by rw [← hL, e]; rfl)
  have hpos : 0 < L.length := List.length_pos_iff.2 hLn
  obtain ⟨g, cp, hv, hg0, hg1⟩ := World.ownsRow.form hs hpos
  subst hv
  have hsl : SL (some ⟨g, 0, none⟩) L W1 := by
    obtain ⟨a, c, e, h⟩ := SR.sl' hs
    cases e
    exact h
  obtain ⟨ad, e, hc⟩ := hsl (L.length - 1) (by omega)
  cases e
  have hLb : L.length ≤ 10000001 := by
    have hln := congrArg List.length hL
    rw [txs_len] at hln
    omega
  have hn1 : (0 : Int) ≤ (L.length : Int) - 1 := by omega
  have hn2 : (L.length : Int) - 1 < L.length := by omega
  have hn3 : ((L.length : Int) - 1).toNat = L.length - 1 := by omega
  have hn5 : (L.length : Int) - 1 ≤ cp := by
    have : L.length ≤ cp := by
      rcases hs.2 with ⟨h', _⟩ | ⟨g', cap, cur, h', _, _, h1, _⟩
      · cases h'
      · cases h'; exact h1
    omega
  have hst : Hid (Tl.strip C = if Tl.tx L[L.length - 1] = [] then txs L.dropLast else txs L) := (congrArg Tl.strip hL.symm).trans (strip_txs L hLn (by omega))
  clear hL
  rw [Addr.add_lit, Nat.zero_add] at hc
  generalize hlast : L[L.length - 1] = Z at *
  have hslD : SL (some ⟨g, 0, none⟩) L.dropLast W1 := fun k hk => by
    rw [List.length_dropLast] at hk
    obtain ⟨ad, e, h⟩ := hsl k (by omega)
    exact ⟨ad, e, by rw [h, List.getElem_dropLast]⟩
  go_upto_if 15 with fail
  go_cut [3] from 9 (fun s3 wc => ∃ (M : List ByteArray) (c : Nat), s3 = .slice (some ⟨g, 0, none⟩) M.length c ∧ SL (some ⟨g, 0, none⟩) M W1 ∧ txs M = Tl.strip C ∧ M.length ≤ 10000001 ∧ W1 = wc)
  case first =>
    cases hz : Z.toList.isEmpty
    · have e := hst.out
      rw [if_neg (fun h => by rw [(tx_nil_iffE Z).2 h] at hz; cases hz)] at e
      go_wp2_with fail
      go_meet
      case rel => exact ⟨L, _, rfl, hsl, e.symm, by omega, rfl⟩
    · have e := hst.out
      rw [if_pos ((tx_nil_iffE Z).1 hz)] at e
      have hln2 : L.dropLast.length = L.length - 1 := List.length_dropLast
      go_wp2_with fail
      go_meet
      case rel => exact ⟨L.dropLast, _, by rw [hln2], hslD, e.symm, by omega, rfl⟩
  case rest =>
    obtain ⟨M, c, rfl, hM, hMC, hMl, rfl⟩ := hcut
    have HT : Hid (∀ k, Tl.total (Tl.unf [] ((txs M).take k)) ≤ 10000000) := fun k => by
      rw [hMC]; exact Nat.le_trans (Tl.unf_small C k) hC3
    have HM : Hid (Tl.total (txs M) ≤ 10000000) := by
      show _ ≤ _
      rw [hMC]; exact Nat.le_trans (Tl.strip_total C) hC3
    have HMC := hide hMC
    clear hst hslD hn1 hn2 hn3 hn5 hc hlast hsl hs hLl hLn hpos
    go_wp2_with fail
    go_loopw [4, 23] (fun v4 v23 wr => ∃ (k : Nat) (Lo : List ByteArray), k ≤ M.length ∧ v23 = .int .i64 k ∧ SR wr W1.heap.size v4 Lo ∧ txs Lo = Tl.unf [] ((txs M).take k) ∧ Lo.length ≤ k ∧ Below W1.heap.size W1 wr) (fun _ v23 _ => M.length - (intOf v23).toNat)
    case atStart => exact ⟨0, [], by omega, rfl, SR.nil _ _, rfl, by simp, Below.refl _ _⟩
    case round =>
      obtain ⟨k, Lo, hk, rfl, hs, hlo, hll, hb⟩ := hrel
      obtain ⟨a4, c4, rfl, hso⟩ := SR.sl' hs
      by_cases hlt : k < M.length
      · have hki : (k : Int) < M.length := by omega
        have hk0 : (0 : Int) ≤ k := by omega
        obtain ⟨ad, e, hc⟩ := (hM.later hb) k hlt
        cases e
        have hstep := unf_take (txs M) k (by rw [txs_len]; exact hlt)
        rw [← hlo] at hstep
        have htk : (txs M)[k]'(by rw [txs_len]; exact hlt) = Tl.tx M[k] := by simp [txs]
        rw [htk] at hstep
        have htot := HT.out k
        rw [← hlo] at htot
        have hzt := HT.out (k + 1)
        rw [Addr.add_lit, Nat.zero_add] at hc
        have hzs : M[k].size ≤ 10000000 := Nat.le_trans (size_le_total M k hlt) HM.out
        generalize M[k] = z at *
        clear htk
        have HS := hide hstep
        clear hstep
        go_upto_region 8 with fail
        go_cut [36] from 24 to 77 (fun s36 wx => s36 = .bool ((Tl.tx z).getLast? == some 13) ∧ wr = wx)
        case first =>
          rcases Nat.eq_zero_or_pos z.size with h0 | h0
          · obtain rfl := size_zero_eq z h0
            go_wp2_with fail
            go_meet
            case rel => exact ⟨rfl, rfl⟩
          · have hne := size_pos_ne z h0
            have hne2 : z.toList.isEmpty = false := by cases h : z.toList.isEmpty with
              | false => rfl
              | true => have := congrArg List.length ((tx_nil_iffE z).1 h); rw [Tl.tx_len] at this; simp only [List.length_nil] at this; omega
            have hz1 : (0 : Int) ≤ (z.size : Int) - 1 := by omega
            have hz2 : (z.size : Int) - 1 < z.size := by omega
            have hl : Hid ((Tl.tx z).getLast? = some z[z.size - 1]) := by
              show _ = _
              rw [List.getLast?_eq_getElem?, Tl.tx_len, List.getElem?_eq_getElem (by rw [Tl.tx_len]; omega)]; rfl
            have hq : Hid (((Tl.tx z).getLast? == some 13) = ((z[z.size - 1].toNat : Int) == 13)) := by
              show _ = _
              rw [hl.out]
              by_cases e : z[z.size - 1] = 13
              · rw [e]; rfl
              · rw [show ((z[z.size - 1].toNat : Int) == 13) = false from Tl.ne_int (c := 13) e]
                simpa using e
            go_wp2_with fail
            go_meet
            case rel => exact ⟨by rw [hq.out], rfl⟩
        case rest =>
          obtain ⟨rfl, rfl⟩ := hcut
          go_upto_if 36 with fail
          go_cut [6] from 24 to 77 (fun s6 wx => ∃ z', s6 = .string z' ∧ Tl.tx z' = Tl.trim (Tl.tx z) ∧ z'.size ≤ 10000000 ∧ wr = wx)
          case first =>
            cases hB1 : ((Tl.tx z).getLast? == some 13)
            · go_wp2_with fail
              go_meet
              case rel =>
                refine ⟨z, rfl, ?_, hzs, rfl⟩
                unfold Tl.trim
                rw [if_neg (fun e => by rw [e] at hB1; exact absurd hB1 (by decide))]
            · have h0 : 0 < z.size := by
                rcases Nat.eq_zero_or_pos z.size with h0 | h0
                · obtain rfl := size_zero_eq z h0
                  exact absurd hB1 (by decide)
                · exact h0
              have hz1 : (0 : Int) ≤ (z.size : Int) - 1 := by omega
              have hz2 : (z.size : Int) - 1 ≤ z.size := by omega
              have hz3 : ((z.size : Int) - 1).toNat = z.size - 1 := by omega
              go_wp2_with fail
              go_meet
              case rel =>
                refine ⟨_, rfl, ?_, by rw [ByteArray.size_extract]; omega, rfl⟩
                unfold Tl.trim
                rw [if_pos (eq_of_beq hB1), Tl.tx_extract, List.drop_zero, Nat.sub_zero, List.dropLast_eq_take, Tl.tx_len]
          case rest =>
            obtain ⟨z', rfl, hz', hzl, rfl⟩ := hcut
            have HS' : Hid (Tl.unf [] ((txs M).take (k + 1)) = if Tl.folded (Tl.tx z') = true ∧ txs Lo ≠ [] then (txs Lo).dropLast ++ [(txs Lo).getLastD [] ++ (Tl.tx z').tail] else txs Lo ++ [Tl.tx z']) := by
              show _ = _
              rw [HS.out, hz']; rfl
            clear HS hz' hc hzs
            go_upto_region 10 with fail
            go_cut [58] from 24 to 77 (fun s58 wx => s58 = .bool (Tl.folded (Tl.tx z') && decide (0 < Lo.length)) ∧ wr = wx)
            case first =>
              clear HS'
              rcases Nat.eq_zero_or_pos z'.size with h0 | h0
              · obtain rfl := size_zero_eq z' h0
                go_wp2_with fail
                go_meet
                case rel => exact ⟨rfl, rfl⟩
              · have hne := size_pos_ne z' h0
                have hne2 : z'.toList.isEmpty = false := by cases h : z'.toList.isEmpty with
                  | false => rfl
                  | true => have := congrArg List.length ((tx_nil_iffE z').1 h); rw [Tl.tx_len] at this; simp only [List.length_nil] at this; omega
                have hi0 : (0 : Int) < z'.size := by omega
                have hf : Hid (Tl.folded (Tl.tx z') = (z'[0] == 32 || z'[0] == 9)) := by
                  show _ = _
                  have := Tl.drop_at z' 0 h0
                  rw [List.drop_zero] at this
                  rw [this]; rfl
                have hL0 : decide ((0 : Int) < (Lo.length : Int)) = decide (0 < Lo.length) := by rw [decide_eq_decide]; omega
                by_cases e32 : z'[0] = 32
                · have e1 : ((z'[0].toNat : Int) == 32) = true := by rw [e32]; rfl
                  have HF : Hid (Tl.folded (Tl.tx z') = true) := by show _ = _; rw [hf.out, e32]; rfl
                  clear e32 hf
                  go_wp2_with fail
                  go_meet
                  case rel => exact ⟨by first | (rw [HF.out, Bool.true_and]; done) | (rw [HF.out, Bool.true_and, ← hL0]; rfl), rfl⟩
                · have e1 : ((z'[0].toNat : Int) == 32) = false := Tl.ne_int e32
                  by_cases e9 : z'[0] = 9
                  · have e2 : ((z'[0].toNat : Int) == 9) = true := by rw [e9]; rfl
                    have HF : Hid (Tl.folded (Tl.tx z') = true) := by show _ = _; rw [hf.out, e9]; rfl
                    clear e32 hf e9
                    go_wp2_with fail
                    go_meet
                    case rel => exact ⟨by first | (rw [HF.out, Bool.true_and]; done) | (rw [HF.out, Bool.true_and, ← hL0]; rfl), rfl⟩
                  · have e2 : ((z'[0].toNat : Int) == 9) = false := Tl.ne_int e9
                    have HF : Hid (Tl.folded (Tl.tx z') = false) := by show _ = _; rw [hf.out, beq_eq_false_iff_ne.2 e32, beq_eq_false_iff_ne.2 e9]; rfl
                    clear e32 hf e9
                    go_wp2_with fail
                    go_meet
                    case rel => exact ⟨by rw [HF.out]; rfl, rfl⟩
            case rest =>
              obtain ⟨rfl, rfl⟩ := hcut
              cases hB2 : (Tl.folded (Tl.tx z') && decide (0 < Lo.length))
              · have hn : Hid (Tl.unf [] ((txs M).take (k + 1)) = txs (Lo ++ [z'])) := by
                  show _ = _
                  rw [HS'.out, if_neg]
                  · unfold txs; rw [List.map_append]; rfl
                  · rintro ⟨h1, h2⟩
                    rw [h1, Bool.true_and, decide_eq_false_iff_not] at hB2
                    exact hB2 (List.length_pos_iff.2 fun e => h2 (by rw [e]; rfl))
                clear HS' hB2 hso
                go_wp2_with (at_builtin; refine wpList_append_sr rfl (.tmp 73) (.tmp 75) rfl _ _ Lo [z'] rfl (hs.alloc _) ⟨_, 0, none⟩ 1 1 rfl rfl (one_newS _ _ z') (by simp; omega) (by have := hb.size; simp; omega) ?_)
                intro v1 w1 hs1 hgrow hb1
                have hb2 := (hb.alloc hb.size (.cells #[.string z'] 9)).trans hb1
                obtain ⟨a2, l2, c2, rfl⟩ := ownr_form' hs1
                clear hgrow hb1 hs hb
                go_wp2
                go_roundw
                case rel => exact ⟨k + 1, Lo ++ [z'], by omega, by go_num, hs1, hn.out.symm, by simp; omega, hb2⟩
                case measure => simp [intOf]; omega
              · rw [Bool.and_eq_true, decide_eq_true_eq] at hB2
                obtain ⟨hfo, hpos⟩ := hB2
                have hLn : Lo ≠ [] := List.length_pos_iff.1 hpos
                obtain ⟨g2, c2, hv, hg2, hg3⟩ := World.ownsRow.form hs hpos
                have hv2 : a4 = some ⟨g2, 0, none⟩ := by cases hv; rfl
                have hv3 : c4 = c2 := by cases hv; rfl
                subst hv2 hv3
                clear hv
                obtain ⟨X, hX⟩ : ∃ X, X = Lo[Lo.length - 1] := ⟨_, rfl⟩
                have hsn : Lo = Lo.dropLast ++ [X] := by rw [hX, ← List.getLast_eq_getElem hLn, List.dropLast_concat_getLast]
                have hXc : wr.cell? ⟨g2, Lo.length - 1, none⟩ = some (.string X) := by
                  obtain ⟨ad, e, h⟩ := hso (Lo.length - 1) (by omega)
                  cases e
                  rw [Addr.add_lit, Nat.zero_add] at h
                  rw [h, hX]
                have hXf : wr.frozen? ⟨g2, Lo.length - 1, none⟩ = false := World.ownsRow.frozenAt hs (Lo.length - 1)
                have hXs : X.size ≤ 10000000 := by
                  have := size_le_total Lo (Lo.length - 1) (by omega)
                  rw [← hX] at this
                  omega
                have hz0 : 0 < z'.size := by
                  rcases Nat.eq_zero_or_pos z'.size with h0 | h0
                  · obtain rfl := size_zero_eq z' h0
                    exact absurd hfo (by decide)
                  · exact h0
                have hY : Hid (Tl.tx (z'.extract 1 z'.size) = (Tl.tx z').tail) := by
                  show _ = _
                  rw [Tl.tx_extract, ← List.drop_one, List.take_of_length_le (by rw [List.length_drop, Tl.tx_len]; omega)]
                have hYs : (z'.extract 1 z'.size).size ≤ 10000000 := by rw [ByteArray.size_extract]; omega
                have hst := World.ownsRow.stored hs (Lo.length - 1) (.string (X ++ z'.extract 1 z'.size))
                have hset : (strs' Lo).set (Lo.length - 1) (.string (X ++ z'.extract 1 z'.size)) = strs' (Lo.dropLast ++ [X ++ z'.extract 1 z'.size]) := by
                  have e1 : strs' Lo = strs' Lo.dropLast ++ [.string X] := by conv => lhs; rw [hsn, strs_app']
                                                                              rfl
                  have e2 : (strs' Lo.dropLast).length = Lo.length - 1 := by rw [strs_len', List.length_dropLast]
                  rw [e1, ← e2, List.set_append_right _ _ (Nat.le_refl _), Nat.sub_self, strs_app']; rfl
                have hs2 : SR (wr.setCell ⟨g2, Lo.length - 1, none⟩ (.string (X ++ z'.extract 1 z'.size))) W1.heap.size (.slice (some ⟨g2, 0, none⟩) Lo.length c4) (Lo.dropLast ++ [X ++ z'.extract 1 z'.size]) := by
                  have h := hst.1
                  rw [hset] at h
                  unfold SR
                  have e3 : (Lo.dropLast ++ [X ++ z'.extract 1 z'.size]).length = Lo.length := by rw [List.length_append, List.length_dropLast, List.length_singleton]; omega
                  rw [e3]
                  exact h
                have hb2 := hb.setCell (p := ⟨g2, Lo.length - 1, none⟩) hg2 (.string (X ++ z'.extract 1 z'.size))
                have hn : Hid (Tl.unf [] ((txs M).take (k + 1)) = txs (Lo.dropLast ++ [X ++ z'.extract 1 z'.size])) := by
                  show _ = _
                  rw [HS'.out, if_pos ⟨hfo, fun e => hLn (List.map_eq_nil_iff.1 e)⟩]
                  have e4 : (txs Lo).getLastD [] = Tl.tx X := by
                    rw [hsn]
                    unfold txs
                    rw [List.map_append]; simp
                  rw [e4, ← txs_dropLast]
                  unfold txs
                  rw [List.map_append, List.map_cons, List.map_nil, Tl.tx_app, hY.out]
                have hlen3 : (Lo.dropLast ++ [X ++ z'.extract 1 z'.size]).length ≤ k + 1 := by rw [List.length_append, List.length_dropLast, List.length_singleton]; omega
                have hn1 : (0 : Int) ≤ (Lo.length : Int) - 1 := by omega
                have hn2 : (Lo.length : Int) - 1 < Lo.length := by omega
                have hn3 : ((Lo.length : Int) - 1).toNat = Lo.length - 1 := by omega
                have hi1 : (1 : Int) ≤ z'.size := by omega
                have hzz : X.size + (z'.extract 1 z'.size).size ≤ 20000000 := by omega
                have HH := hide (And.intro hs2 (And.intro hb2 hlen3))
                clear hs2 hb2 hlen3 hst hset hsn hs hso HS' hX
                generalize hY2 : z'.extract 1 z'.size = Y at *
                go_upto_region 11 with fail
                go_region
                obtain ⟨hs2, hb2, hlen3⟩ := HH.out
                have hs3 := World.ownsRow.drew hs2
                have hb3 := hb2.drew
                clear HH hXc hXf hs2 hb2
                go_wp2
                go_roundw
                case rel => exact ⟨k + 1, _, by omega, by go_num, hs3, hn.out.symm, hlen3, hb3⟩
                case measure => simp [intOf]; omega
      · have hkn : k = M.length := by omega
        have hki : (M.length : Int) ≤ k := by omega
        subst hkn
        rw [show (txs M).take M.length = txs M by rw [← txs_len, List.take_length]] at hlo
        go_wp2
        go_ret
        exact ⟨_, Lo, rfl, mono0' hs hB.size, hlo.trans (by rw [HMC.out]), by omega, hB.trans (hb.mono hB.size)⟩
end Go.Proofs.Ytmfjnkfijnggbaa
