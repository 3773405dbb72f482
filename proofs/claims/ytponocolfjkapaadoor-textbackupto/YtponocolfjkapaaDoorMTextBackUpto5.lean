/- package text: escaped, Items. -/
import Derived.Test.YtponocolfjkapaaDoorMTextBackUpto2
import Derived.Test.YtponocolfjkapaaDoorMTextBackUpto1
namespace Go.Proofs.YtponocolfjkapaaDoor
open Go.RowKit
set_option linter.unusedVariables false
set_option linter.unusedSimpArgs false

def strs' (l : List ByteArray) : List Value := l.map .string
theorem strs_app' (l m : List ByteArray) : strs' (l ++ m) = strs' l ++ strs' m := by unfold strs'; rw [List.map_append]
theorem strs_len' (l : List ByteArray) : (strs' l).length = l.length := by unfold strs'; rw [List.length_map]
theorem infoStr' : (Tryd.prog.info? 9).map (fun i => (i.zero, i.size, i.bytes)) = some (some (.string ⟨#[]⟩), 1, 16) := by kernel_rfl
/-- a row of texts of one's own -/
abbrev SR (w : World) (base : Nat) (v : Value) (L : List ByteArray) : Prop := w.ownsRow base 9 1 v L.length (strs' L)
theorem SR.nil (w : World) (base : Nat) : SR w base (.slice none 0 0) [] := World.ownsRow_nil _ _ _ _
theorem SR.later {w w' : World} {b : Nat} {v : Value} {l : List ByteArray} (h : SR w b v l) (hb : Below w.heap.size w w') : SR w' b v l :=
  ⟨h.1, h.2.imp id fun ⟨g, cap, cur, h1, h2, h3, h4⟩ => ⟨g, cap, cur, h1, h2, (hb.block g (Array.getElem?_eq_some_iff.1 h3).1).trans h3, h4⟩⟩
theorem own_apart {w : World} {b1 b2 : Nat} {e1 e2 : TypeId} {z1 z2 : Nat} {v1 v2 : Value} {n1 n2 : Nat} {xs1 xs2 : List Value} (h1 : w.ownsRow b1 e1 z1 v1 n1 xs1) (h2 : w.ownsRow b2 e2 z2 v2 n2 xs2) (hne : e1 ≠ e2) :
    v1.ownBlock = none ∨ v1.ownBlock ≠ v2.ownBlock := by
  rcases h1.2 with ⟨rfl, _⟩ | ⟨g1, c1, cur1, rfl, _, hg1, _⟩
  · exact .inl rfl
  · rcases h2.2 with ⟨rfl, _⟩ | ⟨g2, c2, cur2, rfl, _, hg2, _⟩
    · exact .inr (by simp [Value.ownBlock])
    · refine .inr fun e => hne ?_
      have e' : g1 = g2 := by simpa [Value.ownBlock] using e
      subst e'
      have := hg1.symm.trans hg2
      simp only [Option.some.injEq, Obj.cells.injEq] at this
      exact this.2.1
/-- append(row, texts...) -/
theorem wpList_append_sr {ops : Array Oper} {rest : List Oper} {o : Oper} {a : Act} {w : World} {Q : Exit → Act → World → Prop} (hgd : o.guard = none) (s x : Operand)
    (ho : o.op = .call { callee := .builtin .append, args := #[s, x], argTypes := #[31, 31] })
    (base : Nat) (v : Value) (l m : List ByteArray) (hs : a.eval s = v) (hown : SR w base v l) (ad : Addr) (n c : Nat) (hn : m.length = n) (hx : a.eval x = .slice (some ad) n c) (hnews : ∀ j u, (strs' m)[j]? = some u → w.cell? (ad.add j) = some u)
    (hlen : l.length + m.length ≤ 4000000000) (hbase : base ≤ w.heap.size)
    (h : ∀ v' w', SR w' base v' (l ++ m) → w.grownBy w' v.ownBlock → Below base w w' → wpList Tryd.prog ops Q rest (a.put o.dst v') w') : wpList Tryd.prog ops Q (o :: rest) a w := by
  obtain ⟨i0, hi, hz0, hz1, hz2⟩ := info_of' infoStr'
  subst hn
  refine wpList_append_own w hgd s x 31 ho base 9 i0 (.string ⟨#[]⟩) 1 16 Tryd.underlying31 hi hz0 hz1 hz2 rfl (by decide) v l.length (strs' l) hs hown ad m.length c (strs' m) hx (by rw [strs_len']; omega) hnews (by
    intro u hu
    obtain ⟨y, _, rfl⟩ := List.mem_map.1 hu
    rfl) (by unfold maxLen; omega) (by omega) hbase ?_
  intro v' w' hown' hgrow _
  exact h v' w' (by rw [← List.length_append, ← strs_app'] at hown'; exact hown') hgrow ((Below.refl _ w).grown hgrow hbase fun j hj => (hown.lt j hj).1)
theorem one_newS (w : World) (t : TypeId) (x : ByteArray) : ∀ j u, (strs' [x])[j]? = some u → (w.alloc (.cells #[.string x] t)).cell? ((⟨w.heap.size, 0, none⟩ : Addr).add j) = some u := by
  intro j u hj
  match j, hj with
  | 0, hj => simp [strs'] at hj; subst hj; simp [Addr.add]
theorem SR.kept {w w' : World} {b b2 : Nat} {v v2 : Value} {L : List ByteArray} {c : List UInt8} (h : SR w b v L) (h2 : BR w b2 v2 c) (hg : w.grownBy w' v2.ownBlock) : SR w' b v L :=
  World.ownsRow.kept h hg (own_apart h h2 (by decide))
theorem BR.kept {w w' : World} {b b2 : Nat} {v v2 : Value} {L : List ByteArray} {c : List UInt8} (h : BR w b v c) (h2 : SR w b2 v2 L) (hg : w.grownBy w' v2.ownBlock) : BR w' b v c :=
  World.ownsRow.kept h hg (own_apart h h2 (by decide))
set_option maxHeartbeats 4000000 in
theorem escaped_nil (w : World) : Calls Tryd.prog 30 #[.string ⟨#[]⟩] w fun e w' => e = .returned (.tuple #[.int .u8 0, .bool false]) ∧ w' = w := by
  go_enter Tryd.func30, Tryd.ntmps30
  go_wp2
  go_ret2
  exact ⟨rfl, rfl⟩
set_option maxHeartbeats 4000000 in
theorem escaped_any (s : ByteArray) (h : 0 < s.size) (w : World) : Calls Tryd.prog 30 #[.string s] w fun e w' =>
    e = .returned (.tuple #[.int .u8 (((Tl.un s[0]).getD 0).toNat), .bool (Tl.un s[0]).isSome]) ∧ w' = w := by
  have hk0 : (0 : Int) < s.size := by omega
  have hne : (s.toList == []) = false := by
    rw [ByteArray.toList_eq, beq_eq_false_iff_ne]
    intro e
    have := congrArg List.length e
    rw [Array.length_toList] at this
    have : s.size = 0 := this
    omega
  rcases Tl.un_cases s[0] with ⟨h1 | h1 | h1, h2⟩ | ⟨h1 | h1, h2⟩ | ⟨⟨n1, n2, n3, n4, n5⟩, h2⟩
  case inr.inr =>
    rw [h2]
    have e1 : ((s[0].toNat : Int) == 92) = false := Tl.ne_int n1
    have e2 : ((s[0].toNat : Int) == 44) = false := Tl.ne_int n2
    have e3 : ((s[0].toNat : Int) == 59) = false := Tl.ne_int n3
    have e4 : ((s[0].toNat : Int) == 110) = false := Tl.ne_int n4
    have e5 : ((s[0].toNat : Int) == 78) = false := Tl.ne_int n5
    clear n1 n2 n3 n4 n5 h2
    go_enter Tryd.func30, Tryd.ntmps30
    go_wp2
    go_ret2
    exact ⟨rfl, rfl⟩
  all_goals
    rw [h2]
    try rw [h1]
    clear h2
    go_enter Tryd.func30, Tryd.ntmps30
    go_wp2
    go_ret2
    exact ⟨rfl, rfl⟩
/-- what Items answers -/
def ItP (R : Except Nat (List (List UInt8))) (base : Nat) (w : World) (e : Ending) (w' : World) : Prop :=
  (∃ v L, R = .ok (txs L) ∧ e = .returned (.tuple #[v, .nilIface]) ∧ SR w' base v L ∧ L.length ≤ 1000000000 ∧ Below base w w') ∨
  (∃ B i, R = .error i ∧ i ≤ 1000000000 ∧ e = .returned (.tuple #[.slice none 0 0, .iface 69 (.pointer (some ⟨B, 0, none⟩))]) ∧ w'.cell? ⟨B, 0, none⟩ = some (.int .i64 5) ∧ w'.cell? ⟨B, 1, none⟩ = some (.int .i64 i) ∧ Below base w w')
theorem txs_snoc (L : List ByteArray) (c : List UInt8) : txs (L ++ [Tl.str c]) = txs L ++ [c] := by unfold txs; rw [List.map_append]; rfl
set_option maxRecDepth 100000 in
set_option maxHeartbeats 8000000 in
theorem items_any (s : ByteArray) (w : World) (h1 : s.size ≤ 100000000) :
    Calls Tryd.prog 19 #[.string s] w (ItP (Tl.run (Tl.tx s) 0 [] []) w.heap.size w) := by
  obtain ⟨R, hR⟩ : ∃ R, R = Tl.run (Tl.tx s) 0 [] [] := ⟨_, rfl⟩
  rw [← hR]
  go_enter Tryd.func19, Tryd.ntmps19
  go_wp2_with fail
  go_loopw [4, 5, 6] (fun v4 v5 i wr => ∃ (k : Nat) (L : List ByteArray) (c : List UInt8), k ≤ s.size ∧ i = .int .i64 k ∧ SR wr w.heap.size v4 L ∧ BR wr w.heap.size v5 c ∧ R = Tl.run ((Tl.tx s).drop k) k (txs L) c ∧ L.length + c.length ≤ k ∧ Below w.heap.size w wr) (fun _ _ i _ => s.size - (intOf i).toNat)
  case atStart => exact ⟨0, [], [], by omega, rfl, SR.nil _ _, BR.nil _ _, hR, by simp, Below.refl _ _⟩
  case round =>
    obtain ⟨k, L, c, hk, rfl, hs, hc, hrun, hlen, hB⟩ := hrel
    obtain ⟨a4, l4, c4, rfl⟩ := ownr_form' hs
    obtain ⟨a5, l5, c5, rfl⟩ := ownr_form' hc
    by_cases hlt : k < s.size
    · have hki : (k : Int) < s.size := by omega
      have hk0 : (0 : Int) ≤ k := by omega
      rw [Tl.drop_at s k hlt] at hrun
      by_cases e44 : s[k] = 44
      · have e1 : ((s[k].toNat : Int) == 44) = true := by rw [e44]; rfl
        rw [e44, Tl.run_com] at hrun
        have hcv := hc.conv
        go_wp2_with (at_builtin; refine wpList_append_sr rfl (.tmp 26) (.tmp 29) rfl w.heap.size _ L [Tl.str c] rfl (hs.alloc _) ⟨wr.heap.size, 0, none⟩ 1 1 rfl rfl (one_newS wr _ (Tl.str c)) (by simp; omega) (by have := hB.size; simp; omega) ?_)
        intro v1 w1 hs1 hgrow hb1
        have hB1 : Below w.heap.size w w1 := (hB.alloc hB.size _).trans hb1
        obtain ⟨a2, l2, c2, rfl⟩ := ownr_form' hs1
        clear hgrow hb1 hcv hs hc e44 e1
        go_wp2
        go_roundw
        case rel => exact ⟨k + 1, L ++ [Tl.str c], [], by omega, by go_num, hs1, BR.nil _ _, by rw [hrun, txs_snoc], by simp; omega, hB1⟩
        case measure => simp [intOf]; omega
      by_cases e59 : s[k] = 59
      · have e1 : ((s[k].toNat : Int) == 44) = false := Tl.ne_int e44
        have e2 : ((s[k].toNat : Int) == 59) = true := by rw [e59]; rfl
        rw [e59, Tl.run_sem] at hrun
        clear hs hc e44 e59
        go_wp2
        go_ret2
        exact .inr ⟨wr.heap.size, k, hrun, by omega, rfl, by simp, by simp, hB.alloc hB.size _⟩
      by_cases e92 : s[k] = 92
      · have e1 : ((s[k].toNat : Int) == 44) = false := Tl.ne_int e44
        have e2 : ((s[k].toNat : Int) == 59) = false := Tl.ne_int e59
        have e3 : ((s[k].toNat : Int) == 92) = true := by rw [e92]; rfl
        rw [e92] at hrun
        clear e44 e59 e92
        have hk1 : (k : Int) + 1 ≤ s.size := by omega
        have hk2 : (0 : Int) ≤ (k : Int) + 1 := by omega
        have hk3 : ((k : Int) + 1).toNat = k + 1 := by omega
        by_cases hl2 : k + 1 < s.size
        · have hX : (s.extract (k + 1) s.size).size = s.size - (k + 1) := by rw [ByteArray.size_extract]; omega
          have hX0 : 0 < (s.extract (k + 1) s.size).size := by omega
          have hXe : (s.extract (k + 1) s.size)[0] = s[k + 1] := by
            rw [ByteArray.getElem_extract]
          have K := hide (fun W => escaped_any (s.extract (k + 1) s.size) hX0 W)
          rw [hXe] at K
          rw [Tl.drop_at s (k + 1) hl2] at hrun
          clear hX hX0 hXe
          generalize hX : s.extract (k + 1) s.size = X at *
          cases hu : Tl.un s[k + 1] with
          | none =>
            rw [hu] at K
            rw [Tl.run_bad hu] at hrun
            clear hs hc hu
            go_wp2_with fail
            refine (K.out _).mono ?_
            rintro e W1 ⟨rfl, rfl⟩
            rw [show (none : Option UInt8).isSome = false from rfl]
            go_wp2
            go_ret2
            exact .inr ⟨W1.heap.size, k, hrun, by omega, rfl, by simp, by simp, hB.alloc hB.size _⟩
          | some m =>
            rw [hu] at K
            rw [Tl.run_esc hu] at hrun
            clear hu
            go_wp2_with fail
            refine (K.out _).mono ?_
            rintro e W1 ⟨rfl, rfl⟩
            rw [show (some m : Option UInt8).isSome = true from rfl, show (some m : Option UInt8).getD 0 = m from rfl]
            go_wp2_with (at_builtin; refine wpList_append_br rfl (.tmp 53) (.tmp 55) rfl w.heap.size _ c [m] rfl (hc.alloc _) ⟨W1.heap.size, 0, none⟩ 1 1 rfl rfl (one_new W1 _ m _ rfl .nilIface) (by simp; omega) (by have := hB.size; simp; omega) ?_)
            intro v1 w1 hc1 hgrow hb1
            have hB1 : Below w.heap.size w w1 := (hB.alloc hB.size _).trans hb1
            have hs1 := SR.kept (World.ownsRow.alloc hs _) (World.ownsRow.alloc hc _) hgrow
            obtain ⟨a2, l2, c2, rfl⟩ := ownr_form' hc1
            clear hgrow hb1 hs hc
            go_wp2
            go_roundw
            case rel => exact ⟨k + 2, L, c ++ [m], by omega, by go_num, hs1, hc1, hrun, by simp; omega, hB1⟩
            case measure => simp [intOf]; omega
        · have hX : s.extract (k + 1) s.size = ⟨#[]⟩ := by
            apply Tl.tx_inj
            rw [Tl.tx_extract, List.drop_of_length_le (by rw [Tl.tx_len]; omega), List.take_nil]; rfl
          rw [List.drop_of_length_le (by rw [Tl.tx_len]; omega), Tl.run_end] at hrun
          clear hs hc
          go_wp2_with fail
          refine (escaped_nil _).mono ?_
          rintro e W1 ⟨rfl, rfl⟩
          go_wp2
          go_ret2
          exact .inr ⟨W1.heap.size, k, hrun, by omega, rfl, by simp, by simp, hB.alloc hB.size _⟩
      have e1 : ((s[k].toNat : Int) == 44) = false := Tl.ne_int e44
      have e2 : ((s[k].toNat : Int) == 59) = false := Tl.ne_int e59
      have e3 : ((s[k].toNat : Int) == 92) = false := Tl.ne_int e92
      rw [Tl.run_any e44 e59 e92] at hrun
      clear e44 e59 e92
      go_wp2_with (at_builtin; refine wpList_append_br rfl (.tmp 20) (.tmp 22) rfl w.heap.size _ c [s[k]] rfl (hc.alloc _) ⟨wr.heap.size, 0, none⟩ 1 1 rfl rfl (one_new wr _ s[k] _ rfl .nilIface) (by simp; omega) (by have := hB.size; simp; omega) ?_)
      intro v1 w1 hc1 hgrow hb1
      have hB1 : Below w.heap.size w w1 := (hB.alloc hB.size _).trans hb1
      have hs1 := SR.kept (World.ownsRow.alloc hs _) (World.ownsRow.alloc hc _) hgrow
      obtain ⟨a2, l2, c2, rfl⟩ := ownr_form' hc1
      clear hgrow hb1 hs hc
      go_wp2
      go_roundw
      case rel => exact ⟨k + 1, L, c ++ [s[k]], by omega, by go_num, hs1, hc1, hrun, by simp; omega, hB1⟩
      case measure => simp [intOf]; omega
    · have hkn : k = s.size := by omega
      have hki : (s.size : Int) ≤ k := by omega
      subst hkn
      rw [List.drop_of_length_le (by rw [Tl.tx_len]; omega), Tl.run, ← txs_snoc] at hrun
      have hcv := hc.conv
      go_wp2_with (at_builtin; refine wpList_append_sr rfl (.tmp 59) (.tmp 62) rfl w.heap.size _ L [Tl.str c] rfl (hs.alloc _) ⟨wr.heap.size, 0, none⟩ 1 1 rfl rfl (one_newS wr _ (Tl.str c)) (by simp; omega) (by have := hB.size; simp; omega) ?_)
      intro v1 w1 hs1 hgrow hb1
      have hB1 : Below w.heap.size w w1 := (hB.alloc hB.size _).trans hb1
      obtain ⟨a2, l2, c2, rfl⟩ := ownr_form' hs1
      clear hgrow hb1 hcv hs hc
      go_wp2
      go_ret2
      exact .inl ⟨_, _, hrun, rfl, hs1, by simp; omega, hB1⟩
end Go.Proofs.YtponocolfjkapaaDoor
