/- package text: appendEscaped, Escape, Join. -/
import Derived.Test.YtponocolfjkapaaDoorMTextBackUpto1
import Derived.Laws.AppendOwn
import Derived.Laws.IdiomStrings
import Derived.OwnWalk
import Derived.WalkKit
import Derived.Lib.AppendStr
namespace Go.Proofs.YtponocolfjkapaaDoor
open Go.RowKit
set_option linter.unusedVariables false
set_option linter.unusedSimpArgs false

theorem infoByte : (Tryd.prog.info? 5).map (fun i => (i.zero, i.size, i.bytes)) = some (some (.int .u8 0), 1, 1) := by kernel_rfl
theorem info_of' {P : Program} {t : TypeId} {z : Value} {s b : Nat} (h : (P.info? t).map (fun i => (i.zero, i.size, i.bytes)) = some (some z, s, b)) : ∃ i, P.info? t = some i ∧ i.zero = some z ∧ i.size = s ∧ i.bytes = b := by
  cases hi : P.info? t with
  | none => rw [hi] at h; cases h
  | some i =>
    rw [hi] at h
    simp only [Option.map_some, Option.some.injEq, Prod.mk.injEq] at h
    exact ⟨i, rfl, h.1, h.2.1, h.2.2⟩
theorem ownr_form' {w : World} {b : Nat} {e : TypeId} {z : Nat} {v : Value} {n : Nat} {xs : List Value} (h : w.ownsRow b e z v n xs) : ∃ a l c, v = .slice a l c := by
  rcases h.2 with ⟨h', _⟩ | ⟨g, cap, cur, h', _⟩
  · exact ⟨_, _, _, h'⟩
  · exact ⟨_, _, _, h'⟩
/-- a row of bytes of one's own -/
abbrev BR (w : World) (base : Nat) (v : Value) (l : List UInt8) : Prop := w.ownsRow base 5 1 v l.length (Tl.bs l)
theorem BR.nil (w : World) (base : Nat) : BR w base (.slice none 0 0) [] := World.ownsRow_nil _ _ _ _
theorem BR.later {w w' : World} {b : Nat} {v : Value} {l : List UInt8} (h : BR w b v l) (hb : Below w.heap.size w w') : BR w' b v l :=
  ⟨h.1, h.2.imp id fun ⟨g, cap, cur, h1, h2, h3, h4⟩ => ⟨g, cap, cur, h1, h2, (hb.block g (Array.getElem?_eq_some_iff.1 h3).1).trans h3, h4⟩⟩
/-- string(row) -/
theorem BR.conv {w : World} {base : Nat} {v : Value} {l : List UInt8} (h : BR w base v l) : (convert 59 9 v).run Tryd.prog w = .ok (.string (Tl.str l)) w := by
  rcases h.2 with ⟨h', h0⟩ | ⟨g, cap, cur, h', hb, hg, hc, hm, hs, ht⟩
  · subst h'
    obtain rfl : l = [] := List.eq_nil_of_length_eq_zero h0
    exact run_convert_bytes_nil w 59 5 Tryd.underlying59 Tryd.underlying5 0 0 9 Tryd.underlying9
  · subst h'
    refine run_convert_bytes_back w 59 9 5 ⟨g, 0, none⟩ cap l Tryd.underlying59 Tryd.underlying5 Tryd.underlying9 fun j hj => ?_
    refine h.cells (g := g) rfl j _ ?_
    unfold Tl.bs
    rw [List.getElem?_map, List.getElem?_eq_getElem hj]; rfl
/-- append(row, cells...) -/
theorem wpList_append_br {ops : Array Oper} {rest : List Oper} {o : Oper} {a : Act} {w : World} {Q : Exit → Act → World → Prop} (hgd : o.guard = none) (s x : Operand)
    (ho : o.op = .call { callee := .builtin .append, args := #[s, x], argTypes := #[59, 59] })
    (base : Nat) (v : Value) (l m : List UInt8) (hs : a.eval s = v) (hown : BR w base v l) (ad : Addr) (n c : Nat) (hn : m.length = n) (hx : a.eval x = .slice (some ad) n c) (hnews : ∀ j u, (Tl.bs m)[j]? = some u → w.cell? (ad.add j) = some u)
    (hlen : l.length + m.length ≤ 4000000000) (hbase : base ≤ w.heap.size)
    (h : ∀ v' w', BR w' base v' (l ++ m) → w.grownBy w' v.ownBlock → Below base w w' → wpList Tryd.prog ops Q rest (a.put o.dst v') w') : wpList Tryd.prog ops Q (o :: rest) a w := by
  obtain ⟨i0, hi, hz0, hz1, hz2⟩ := info_of' infoByte
  subst hn
  refine wpList_append_own w hgd s x 59 ho base 5 i0 (.int .u8 0) 1 1 Tryd.underlying59 hi hz0 hz1 hz2 rfl (by decide) v l.length (Tl.bs l) hs hown ad m.length c (Tl.bs m) hx (by rw [Tl.bs_len]; omega) hnews (Tl.bs_one m) (by unfold maxLen; omega) (by omega) hbase ?_
  intro v' w' hown' hgrow _
  exact h v' w' (by rw [← List.length_append, ← Tl.bs_app] at hown'; exact hown') hgrow ((Below.refl _ w).grown hgrow hbase fun j hj => (hown.lt j hj).1)
/-- append(row, text...) -/
theorem wpList_append_brs {ops : Array Oper} {rest : List Oper} {o : Oper} {a : Act} {w : World} {Q : Exit → Act → World → Prop} (hgd : o.guard = none) (sl x : Operand)
    (ho : o.op = .call { callee := .builtin .append, args := #[sl, x], argTypes := #[59, 9] })
    (base : Nat) (v : Value) (l : List UInt8) (hs : a.eval sl = v) (hown : BR w base v l) (t : ByteArray) (hx : a.eval x = .string t)
    (hlen : l.length + t.size ≤ 4000000000) (hbase : base ≤ w.heap.size)
    (h : ∀ v' w', BR w' base v' (l ++ Tl.tx t) → w.grownBy w' v.ownBlock → Below base w w' → wpList Tryd.prog ops Q rest (a.put o.dst v') w') : wpList Tryd.prog ops Q (o :: rest) a w := by
  obtain ⟨i0, hi, hz0, hz1, hz2⟩ := info_of' infoByte
  refine Lib.wpList_append_own_string w hgd sl x 59 9 ho base 5 i0 Tryd.underlying59 Tryd.underlying9 hi hz0 hz1 hz2 v l.length (Tl.bs l) hs hown t hx (by unfold maxLen; omega) (by omega) hbase ?_
  intro v' w' hown' hgrow _
  refine h v' w' ?_ hgrow ((Below.refl _ w).grown hgrow hbase fun j hj => (hown.lt j hj).1)
  rw [Tl.bs_str, ← Tl.bs_app, ← Tl.tx_len, ← List.length_append] at hown'
  exact hown'
/-- cells of one or two new bytes -/
theorem one_new (w : World) (t : TypeId) (x : UInt8) (i : Int) (hi : i = x.toNat) (v : Value) : ∀ j u, (Tl.bs [x])[j]? = some u → (w.alloc (.cells #[.int .u8 i] t)).cell? ((⟨w.heap.size, 0, none⟩ : Addr).add j) = some u := by
  subst hi
  intro j u hj
  match j, hj with
  | 0, hj => simp [Tl.bs] at hj; subst hj; simp [Addr.add]
theorem two_new (w : World) (t : TypeId) (x y : UInt8) (i k : Int) (hi : i = x.toNat) (hk : k = y.toNat) : ∀ j u, (Tl.bs [x, y])[j]? = some u → (w.alloc (.cells #[.int .u8 i, .int .u8 k] t)).cell? ((⟨w.heap.size, 0, none⟩ : Addr).add j) = some u := by
  subst hi hk
  intro j u hj
  match j, hj with
  | 0, hj => simp [Tl.bs] at hj; subst hj; simp [Addr.add]
  | 1, hj => simp [Tl.bs] at hj; subst hj; simp [Addr.add]
set_option maxRecDepth 100000 in
set_option maxHeartbeats 4000000 in
theorem appendEsc_any (v : Value) (l : List UInt8) (s : ByteArray) (base : Nat) (w : World) (h : BR w base v l) (hb : base ≤ w.heap.size) (h1 : l.length ≤ 1000000000) (h2 : s.size ≤ 100000000) :
    Calls Tryd.prog 31 #[v, .string s] w fun e w' => ∃ v', e = .returned v' ∧ BR w' base v' (l ++ Tl.esc (Tl.tx s)) ∧ Below base w w' := by
  obtain ⟨i0, hi, hz0, hz1, hz2⟩ := info_of' infoByte
  obtain ⟨a0, l0, c0, rfl⟩ := ownr_form' h
  have HR := hide h
  clear h
  go_enter Tryd.func31, Tryd.ntmps31
  go_wp2_with fail
  go_loopw [0, 9] (fun v i wr => ∃ k : Nat, k ≤ s.size ∧ i = .int .i64 k ∧ BR wr base v (l ++ Tl.esc ((Tl.tx s).take k)) ∧ Below base w wr) (fun _ i _ => s.size - (intOf i).toNat)
  case atStart => exact ⟨0, by omega, rfl, by simpa [Tl.esc_nil] using HR.out, Below.refl _ _⟩
  case round =>
    obtain ⟨k, hk, rfl, hown, hB⟩ := hrel
    by_cases hlt : k < s.size
    · have hki : (k : Int) < s.size := by omega
      have hk0 : (0 : Int) ≤ k := by omega
      have hT : Hid (Tl.esc ((Tl.tx s).take (k + 1)) = Tl.esc ((Tl.tx s).take k) ++ Tl.escB s[k]) := by
        show _ = _
        rw [Tl.tx_take_succ s k hlt, Tl.esc_snoc]
      have hL : (Tl.esc ((Tl.tx s).take k)).length ≤ 200000000 := by
        have := Tl.esc_len ((Tl.tx s).take k)
        rw [List.length_take, Tl.tx_len] at this
        omega
      obtain ⟨a1, l1, c1, rfl⟩ := ownr_form' hown
      generalize Tl.esc ((Tl.tx s).take k) = E at *
      have hE : (l ++ E).length ≤ 1300000000 := by rw [List.length_append]; omega
      rcases Tl.byte_cases s[k] with e | e | e | e | e
      · rw [e] at hT
        have e1 : ((s[k].toNat : Int) == 92) = true := by rw [e]; rfl
        go_wp2_with (at_builtin; refine wpList_append_br rfl (.tmp 24) (.tmp 26) rfl base _ (l ++ E) [92, 92] rfl (hown.alloc _) ⟨wr.heap.size, 0, none⟩ 2 2 rfl rfl (two_new wr _ 92 92 _ _ rfl rfl) (by simp; omega) (by have := hB.size; simp; omega) ?_)
        intro v1 w1 hown1 hgrow hb1
        have hB1 : Below base w w1 := (hB.alloc (Nat.le_trans hb hB.size) _).trans hb1
        obtain ⟨a2, l2, c2, rfl⟩ := ownr_form' hown1
        clear hown hgrow hb1
        go_wp2
        go_roundw
        case rel => exact ⟨k + 1, by omega, by go_num, by rw [hT.out, show Tl.escB 92 = [92, 92] from rfl]; first | exact hown1 | (rw [← List.append_assoc]; exact hown1), hB1⟩
        case measure => simp [intOf]; omega
      · rw [e] at hT
        have e1 : ((s[k].toNat : Int) == 44) = true := by rw [e]; rfl
        go_wp2_with (at_builtin; refine wpList_append_br rfl (.tmp 24) (.tmp 26) rfl base _ (l ++ E) [92, 44] rfl (hown.alloc _) ⟨wr.heap.size, 0, none⟩ 2 2 rfl rfl (two_new wr _ 92 44 _ _ rfl rfl) (by simp; omega) (by have := hB.size; simp; omega) ?_)
        intro v1 w1 hown1 hgrow hb1
        have hB1 : Below base w w1 := (hB.alloc (Nat.le_trans hb hB.size) _).trans hb1
        obtain ⟨a2, l2, c2, rfl⟩ := ownr_form' hown1
        clear hown hgrow hb1
        go_wp2
        go_roundw
        case rel => exact ⟨k + 1, by omega, by go_num, by rw [hT.out, show Tl.escB 44 = [92, 44] from rfl]; first | exact hown1 | (rw [← List.append_assoc]; exact hown1), hB1⟩
        case measure => simp [intOf]; omega
      · rw [e] at hT
        have e1 : ((s[k].toNat : Int) == 59) = true := by rw [e]; rfl
        go_wp2_with (at_builtin; refine wpList_append_br rfl (.tmp 24) (.tmp 26) rfl base _ (l ++ E) [92, 59] rfl (hown.alloc _) ⟨wr.heap.size, 0, none⟩ 2 2 rfl rfl (two_new wr _ 92 59 _ _ rfl rfl) (by simp; omega) (by have := hB.size; simp; omega) ?_)
        intro v1 w1 hown1 hgrow hb1
        have hB1 : Below base w w1 := (hB.alloc (Nat.le_trans hb hB.size) _).trans hb1
        obtain ⟨a2, l2, c2, rfl⟩ := ownr_form' hown1
        clear hown hgrow hb1
        go_wp2
        go_roundw
        case rel => exact ⟨k + 1, by omega, by go_num, by rw [hT.out, show Tl.escB 59 = [92, 59] from rfl]; first | exact hown1 | (rw [← List.append_assoc]; exact hown1), hB1⟩
        case measure => simp [intOf]; omega
      · rw [e] at hT
        have e1 : ((s[k].toNat : Int) == 10) = true := by rw [e]; rfl
        go_wp2_with (at_builtin; refine wpList_append_brs rfl (.tmp 30) (.const (.string ⟨#[92, 110]⟩)) rfl base _ (l ++ E) rfl hown ⟨#[92, 110]⟩ rfl (by simp [ByteArray.size]; omega) (Nat.le_trans hb hB.size) ?_)
        intro v1 w1 hown1 hgrow hb1
        have hB1 : Below base w w1 := (hB).trans hb1
        obtain ⟨a2, l2, c2, rfl⟩ := ownr_form' hown1
        clear hown hgrow hb1
        go_wp2
        go_roundw
        case rel => exact ⟨k + 1, by omega, by go_num, by rw [hT.out, show Tl.escB 10 = Tl.tx ⟨#[92, 110]⟩ from rfl]; first | exact hown1 | (rw [← List.append_assoc]; exact hown1), hB1⟩
        case measure => simp [intOf]; omega
      · obtain ⟨n1, n2, n3, n4⟩ := e
        have e1 : ((s[k].toNat : Int) == 92) = false := Tl.ne_int n1
        have e2 : ((s[k].toNat : Int) == 44) = false := Tl.ne_int n2
        have e3 : ((s[k].toNat : Int) == 59) = false := Tl.ne_int n3
        have e4 : ((s[k].toNat : Int) == 10) = false := Tl.ne_int n4
        have HE : Hid (Tl.escB s[k] = [s[k]]) := by
          show _ = _
          unfold Tl.escB
          rw [if_neg (by simp [n1, n2, n3]), if_neg n4]
        rw [HE.out] at hT
        clear n1 n2 n3 n4 HE
        go_wp2_with (at_builtin; refine wpList_append_br rfl (.tmp 16) (.tmp 18) rfl base _ (l ++ E) [s[k]] rfl (hown.alloc _) ⟨wr.heap.size, 0, none⟩ 1 1 rfl rfl (one_new wr _ s[k] _ rfl .nilIface) (by simp; omega) (by have := hB.size; simp; omega) ?_)
        intro v1 w1 hown1 hgrow hb1
        have hB1 : Below base w w1 := (hB.alloc (Nat.le_trans hb hB.size) _).trans hb1
        obtain ⟨a2, l2, c2, rfl⟩ := ownr_form' hown1
        clear hown hgrow hb1
        go_wp2
        go_roundw
        case rel => exact ⟨k + 1, by omega, by go_num, by rw [hT.out]; first | exact hown1 | (rw [← List.append_assoc]; exact hown1), hB1⟩
        case measure => simp [intOf]; omega
    · have hkn : k = s.size := by omega
      have hki : (s.size : Int) ≤ k := by omega
      subst hkn
      have hT : (Tl.tx s).take s.size = Tl.tx s := by rw [← Tl.tx_len, List.take_length]
      rw [hT] at hown
      obtain ⟨a1, l1, c1, rfl⟩ := ownr_form' hown
      go_wp2
      go_ret
      exact ⟨_, rfl, hown, hB⟩
/-- a caller's slice of texts -/
def SL (a : Option Addr) (L : List ByteArray) (w : World) : Prop := ∀ k, (h : k < L.length) → ∃ ad, a = some ad ∧ w.cell? (ad.add k) = some (.string L[k])
theorem SL.later {a : Option Addr} {L : List ByteArray} {w w' : World} (h : SL a L w) (hb : Below w.heap.size w w') : SL a L w' := fun k hk => by
  obtain ⟨ad, e, hc⟩ := h k hk
  exact ⟨ad, e, (hb.cell (World.block_lt_of_cell? _ _ hc)).trans hc⟩
theorem SL.none {w : World} {a : Option Addr} : SL a [] w := fun k h => absurd h (Nat.not_lt_zero _)
def txs (L : List ByteArray) : List (List UInt8) := L.map Tl.tx
theorem txs_len (L : List ByteArray) : (txs L).length = L.length := by unfold txs; rw [List.length_map]
theorem txs_take (L : List ByteArray) (k : Nat) (h : k < L.length) : (txs L).take (k + 1) = (txs L).take k ++ [Tl.tx L[k]] := by
  rw [List.take_add_one, List.getElem?_eq_getElem (by rw [txs_len]; exact h)]
  simp [txs]
theorem size_le_total : ∀ (L : List ByteArray) (k : Nat) (h : k < L.length), L[k].size ≤ Tl.total (txs L)
  | x :: r, 0, h => by simp only [txs, List.map_cons, Tl.total, List.sum_cons, List.getElem_cons_zero, Tl.tx_len]; omega
  | x :: r, k + 1, h => by
    have := size_le_total r k (by simpa using h)
    simp only [txs, List.map_cons, Tl.total, List.sum_cons, List.getElem_cons_succ] at this ⊢
    omega
set_option maxRecDepth 100000 in
set_option maxHeartbeats 4000000 in
theorem join_any (a : Option Addr) (c : Nat) (L : List ByteArray) (w : World) (h : SL a L w) (h1 : L.length ≤ 100000000) (h2 : Tl.total (txs L) ≤ 10000000) :
    Calls Tryd.prog 21 #[.slice a L.length c] w fun e w' => e = .returned (.string (Tl.str (Tl.joinE (txs L)))) ∧ Below w.heap.size w w' := by
  have HL := hide h
  have HZ : Hid (∀ k, (Tl.joinE ((txs L).take k)).length ≤ 130000000) := fun k => by
    have := Tl.joinE_len ((txs L).take k)
    have := Tl.total_take (txs L) k
    have : ((txs L).take k).length ≤ L.length := by rw [List.length_take, txs_len]; omega
    omega
  have HK := hide (fun v l W base (hB : BR W base v l) (hb : base ≤ W.heap.size) (hl : l.length ≤ 130000001) k (hk : k < L.length) => by
    have hz := size_le_total L k hk
    exact appendEsc_any v l L[k] base W hB hb (by omega) (by omega))
  clear h
  go_enter Tryd.func21, Tryd.ntmps21
  go_wp2_with fail
  go_loopw [3, 8] (fun v i wr => ∃ k : Nat, k ≤ L.length ∧ i = .int .i64 k ∧ BR wr w.heap.size v (Tl.joinE ((txs L).take k)) ∧ Below w.heap.size w wr) (fun _ i _ => L.length - (intOf i).toNat)
  case atStart => exact ⟨0, by omega, rfl, by simpa [Tl.joinE] using BR.nil _ _, Below.refl _ _⟩
  case round =>
    obtain ⟨k, hk, rfl, hown, hB⟩ := hrel
    by_cases hlt : k < L.length
    · have hki : (k : Int) < L.length := by omega
      have hk0 : (0 : Int) ≤ k := by omega
      obtain ⟨ad, rfl, hc⟩ := (HL.out.later hB) k hlt
      have hT := Tl.joinE_snoc ((txs L).take k) (Tl.tx L[k])
      rw [← txs_take L k hlt] at hT
      have hz := HZ.out k
      have K := HK.out
      obtain ⟨a1, l1, c1, rfl⟩ := ownr_form' hown
      by_cases h0 : k = 0
      · subst h0
        rw [if_pos (by simp), List.nil_append] at hT
        have HT := hide hT
        clear hT
        rw [show Tl.joinE ((txs L).take 0) = [] from rfl] at hown hz
        have K1 := hide (K _ _ wr w.heap.size hown hB.size (by simp) 0 hlt)
        rw [show ad.add 0 = ad from rfl] at hc
        generalize L[0] = s at *
        clear K hown
        go_wp2_with fail
        refine K1.out.mono ?_
        rintro e W1 ⟨v1, rfl, hown, hb1⟩
        obtain ⟨a2, l2, c2, rfl⟩ := ownr_form' hown
        rw [List.nil_append, ← HT.out] at hown
        go_wp2
        go_roundw
        case rel => exact ⟨1, by omega, by go_num, hown, hB.trans hb1⟩
        case measure => simp [intOf]; omega
      · rw [if_neg (by
          intro e
          have := congrArg List.length e
          rw [List.length_take, txs_len] at this
          simp only [List.length_nil] at this
          omega)] at hT
        have HT := hide hT
        clear hT
        have hki2 : (0 : Int) < k := by omega
        generalize Tl.joinE ((txs L).take k) = E at *
        have K1 := hide (fun v W hb hs => K v (E ++ [44]) W w.heap.size hb hs (by rw [List.length_append]; simp; omega) k hlt)
        generalize L[k] = s at *
        clear K
        go_wp2_with (at_builtin; refine wpList_append_br rfl (.tmp 15) (.tmp 16) rfl w.heap.size _ E [44] rfl (hown.alloc _) ⟨wr.heap.size, 0, none⟩ 1 1 rfl rfl (one_new wr _ 44 _ rfl .nilIface) (by simp; omega) (by have := hB.size; simp; omega) ?_)
        intro v1 w1 hown1 hgrow hb1
        have hB1 : Below w.heap.size w w1 := (hB.alloc hB.size _).trans hb1
        obtain ⟨a2, l2, c2, rfl⟩ := ownr_form' hown1
        clear hown hgrow hb1
        go_wp2_with fail
        refine (K1.out _ _ hown1 hB1.size).mono ?_
        rintro e W1 ⟨v2, rfl, hown2, hb2⟩
        obtain ⟨a3, l3, c3, rfl⟩ := ownr_form' hown2
        rw [← HT.out] at hown2
        go_wp2
        go_roundw
        case rel => exact ⟨k + 1, by omega, by go_num, hown2, hB1.trans hb2⟩
        case measure => simp [intOf]; omega
    · have hkn : k = L.length := by omega
      have hki : (L.length : Int) ≤ k := by omega
      subst hkn
      rw [show (txs L).take L.length = txs L by rw [← txs_len, List.take_length]] at hown
      have hcv := hown.conv
      obtain ⟨a1, l1, c1, rfl⟩ := ownr_form' hown
      go_wp2
      go_ret
      exact ⟨rfl, hB⟩
end Go.Proofs.YtponocolfjkapaaDoor
