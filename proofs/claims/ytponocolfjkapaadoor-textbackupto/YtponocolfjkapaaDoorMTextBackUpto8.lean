/- package text: isFolded; strings.Cut at a line feed; a row of rows of bytes. -/
import Derived.Test.YtponocolfjkapaaDoorMTextBackUpto6
import Derived.Test.YtponocolfjkapaaDoorMTextBackUpto7
import Derived.Test.YtponocolfjkapaaDoorSh
namespace Go.Proofs.YtponocolfjkapaaDoor
open Go.RowKit Go.Shelf
set_option linter.unusedVariables false
set_option linter.unusedSimpArgs false

set_option maxHeartbeats 4000000 in
theorem isFolded_any (z : ByteArray) (w : World) (hz : z.size ≤ 1000000000) : Calls Tryd.prog 46 #[.string z] w fun e w' => e = .returned (.bool (Tl.folded (Tl.tx z))) ∧ Below w.heap.size w w' := by
  rcases Nat.eq_zero_or_pos z.size with h0 | h0
  · obtain rfl := size_zero_eq z h0
    go_enter Tryd.func46, Tryd.ntmps46
    go_wp2
    go_ret
    exact ⟨rfl, Below.refl _ _⟩
  · have hne := size_pos_ne z h0
    have hne2 : z.toList.isEmpty = false := by cases h : z.toList.isEmpty with
      | false => rfl
      | true => have := congrArg List.length ((tx_nil_iffE z).1 h); rw [Tl.tx_len] at this; simp only [List.length_nil] at this; omega
    have hi0 : (0 : Int) < z.size := by omega
    have hf : Hid (Tl.folded (Tl.tx z) = (z[0] == 32 || z[0] == 9)) := by
      show _ = _
      have := Tl.drop_at z 0 h0
      rw [List.drop_zero] at this
      rw [this]; rfl
    by_cases e32 : z[0] = 32
    · have e1 : ((z[0].toNat : Int) == 32) = true := by rw [e32]; rfl
      have HF : Hid (Tl.folded (Tl.tx z) = true) := by show _ = _; rw [hf.out, e32]; rfl
      clear e32 hf
      go_enter Tryd.func46, Tryd.ntmps46
      go_wp2
      go_ret
      exact ⟨by rw [HF.out]; rfl, Below.refl _ _⟩
    · have e1 : ((z[0].toNat : Int) == 32) = false := Tl.ne_int e32
      by_cases e9 : z[0] = 9
      · have e2 : ((z[0].toNat : Int) == 9) = true := by rw [e9]; rfl
        have HF : Hid (Tl.folded (Tl.tx z) = true) := by show _ = _; rw [hf.out, e9]; rfl
        clear e32 hf e9
        go_enter Tryd.func46, Tryd.ntmps46
        go_wp2
        go_ret
        exact ⟨by rw [HF.out]; rfl, Below.refl _ _⟩
      · have e2 : ((z[0].toNat : Int) == 9) = false := Tl.ne_int e9
        have HF : Hid (Tl.folded (Tl.tx z) = false) := by show _ = _; rw [hf.out, beq_eq_false_iff_ne.2 e32, beq_eq_false_iff_ne.2 e9]; rfl
        clear e32 hf e9
        go_enter Tryd.func46, Tryd.ntmps46
        go_wp2
        go_ret
        exact ⟨by rw [HF.out]; rfl, Below.refl _ _⟩
theorem idx_no : ∀ (l : List UInt8), (10 : UInt8) ∉ l → Lib.indexByte l 10 = -1
  | [], _ => rfl
  | b :: l, h => by
    have hb : b ≠ 10 := fun e => h (by rw [e]; exact List.mem_cons_self)
    have ih := idx_no l fun hm => h (List.mem_cons_of_mem _ hm)
    unfold Lib.indexByte
    rw [ih]
    simp [hb]
theorem idx_at : ∀ (p r : List UInt8), (10 : UInt8) ∉ p → Lib.indexByte (p ++ 10 :: r) 10 = p.length
  | [], r, _ => by simp [Lib.indexByte]
  | b :: p, r, h => by
    have hb : b ≠ 10 := fun e => h (by rw [e]; exact List.mem_cons_self)
    have ih := idx_at p r fun hm => h (List.mem_cons_of_mem _ hm)
    rw [List.cons_append, Lib.indexByte, ih]
    have h1 : ((p.length : Int) == -1) = false := by rw [beq_eq_false_iff_ne]; omega
    simp [hb, h1]
theorem cut_no (s : ByteArray) (w : World) (h : (10 : UInt8) ∉ Tl.tx s) :
    Calls Tryd.prog 56 #[.string s, .string ⟨#[10]⟩] w fun e w' => e = .returned (.tuple #[.string s, .string ⟨#[]⟩, .bool false]) ∧ w' = w := by
  have K := hide (Tryd.stringslite_Index_one s 10 w)
  rw [show Lib.indexByte s.data.toList 10 = -1 from idx_no _ h] at K
  go_enter Tryd.func56, Tryd.ntmps56
  go_wp2_with fail
  refine K.out.mono ?_
  rintro e W ⟨rfl, rfl⟩
  go_wp2
  go_ret3
  exact ⟨rfl, rfl⟩
set_option maxHeartbeats 4000000 in
theorem cut_yes (s : ByteArray) (p r : List UInt8) (w : World) (hs : s.size ≤ 1000000000) (h : Tl.tx s = p ++ 10 :: r) (hp : (10 : UInt8) ∉ p) :
    Calls Tryd.prog 56 #[.string s, .string ⟨#[10]⟩] w fun e w' => e = .returned (.tuple #[.string (Tl.str p), .string (Tl.str r), .bool true]) ∧ Below w.heap.size w w' := by
  have K := hide (Tryd.stringslite_Index_one s 10 w)
  have hidx : Lib.indexByte s.data.toList 10 = p.length := by
    have : s.data.toList = p ++ 10 :: r := h
    rw [this, idx_at p r hp]
  rw [hidx] at K
  have hlen : s.size = p.length + 1 + r.length := by
    have := congrArg List.length h
    rw [Tl.tx_len, List.length_append, List.length_cons] at this
    omega
  have i0 : (0 : Int) ≤ p.length := by omega
  have i1 : (p.length : Int) ≤ s.size := by omega
  have q : (⟨#[10]⟩ : ByteArray).size = 1 := rfl
  have i2 : (p.length : Int) + 1 ≤ s.size := by omega
  have i3 : (0 : Int) ≤ (p.length : Int) + 1 := by omega
  have i4 : ((p.length : Int) + 1).toNat = p.length + 1 := by omega
  have i5 : (p.length : Int).toNat = p.length := by omega
  have x1 : s.extract 0 p.length = Tl.str p := by
    apply Tl.tx_inj
    rw [Tl.tx_extract, Tl.tx_str, h, List.drop_zero, Nat.sub_zero, List.take_left]
  have x2 : s.extract (p.length + 1) s.size = Tl.str r := by
    apply Tl.tx_inj
    have e : (p ++ 10 :: r).drop (p.length + 1) = r := by rw [List.drop_append]; simp
    rw [Tl.tx_extract, Tl.tx_str, h, e, List.take_of_length_le (by omega)]
  clear hlen
  go_enter Tryd.func56, Tryd.ntmps56
  go_wp2_with fail
  refine K.out.mono ?_
  rintro e W ⟨rfl, rfl⟩
  go_upto_region 3 with fail
  go_region
  go_wp2
  go_ret3
  exact ⟨rfl, ⟨rfl, rfl, rfl, Nat.le_refl _, fun _ _ => rfl⟩⟩
theorem scut (s : ByteArray) (v : Value) (w : World) (hk : ∀ W, Calls Tryd.prog 56 #[.string s, .string ⟨#[10]⟩] W fun e w' => e = .returned v ∧ Below W.heap.size W w') (a b : ByteArray) (c : Bool) (hv : v = .tuple #[.string a, .string b, .bool c]) :
    Calls Tryd.prog 44 #[.string s, .string ⟨#[10]⟩] w fun e w' => e = .returned v ∧ Below w.heap.size w w' := by
  subst hv
  have K := hide hk
  clear hk
  go_enter Tryd.func44, Tryd.ntmps44
  go_wp2_with fail
  refine (K.out _).mono ?_
  rintro e W ⟨rfl, hb⟩
  go_wp2
  go_ret3
  exact ⟨rfl, hb⟩
/-- strings.Cut at a line feed: the next line, and what is left -/
theorem cutnl_any (s : ByteArray) (C : List (List UInt8)) (w : World) (hs : s.size ≤ 1000000000) (h0 : 0 < s.size) (hC : Tl.Cts (Tl.tx s) C) :
    Calls Tryd.prog 44 #[.string s, .string ⟨#[10]⟩] w fun e w' => ∃ p q b C', e = .returned (.tuple #[.string p, .string q, .bool b]) ∧ Tl.Cts (Tl.tx q) C' ∧ Tl.strip C = Tl.tx p :: Tl.strip C' ∧ p.size + q.size ≤ s.size ∧ q.size < s.size ∧ Below w.heap.size w w' := by
  by_cases h : (10 : UInt8) ∈ Tl.tx s
  · obtain ⟨p, r, hpr, hp⟩ := List.eq_append_cons_of_mem h
    obtain ⟨L, hL, rfl⟩ := hC.inv_more hpr hp
    have hlen : s.size = p.length + 1 + r.length := by
      have := congrArg List.length hpr
      rw [Tl.tx_len, List.length_append, List.length_cons] at this
      omega
    refine (scut s _ w (fun W => cut_yes s p r W hs hpr hp) _ _ _ rfl).mono fun e w' ⟨he, hb⟩ => ⟨Tl.str p, Tl.str r, true, L, he, hL, ?_, ?_, ?_, hb⟩
    · rw [Tl.strip_cons _ _ hL.ne]; rfl
    · rw [Tl.str_size, Tl.str_size]; omega
    · rw [Tl.str_size]; omega
  · have hC1 := hC.inv_last h
    subst hC1
    refine (scut s _ w (fun W => (cut_no s W h).mono fun e w' ⟨he, hw⟩ => ⟨he, by rw [hw]; exact Below.refl _ _⟩) _ _ _ rfl).mono fun e w' ⟨he, hb⟩ => ⟨s, ⟨#[]⟩, false, [[]], he, Tl.Cts.last _ (by simp [Tl.tx]), ?_, ?_, ?_, hb⟩
    · have hne : Tl.tx s ≠ [] := fun e => by have := congrArg List.length e; rw [Tl.tx_len] at this; simp only [List.length_nil] at this; omega
      simp [Tl.strip, hne]
    · show s.size + 0 ≤ _; omega
    · exact h0
/-- a row of rows of bytes: of each its block, its room, its bytes -/
abbrev El := Nat × Nat × List UInt8
def el (x : El) : Value := .slice (some ⟨x.1, 0, none⟩) x.2.2.length x.2.1
def els (E : List El) : List (List UInt8) := E.map (·.2.2)
structure RR (w : World) (base : Nat) (v : Value) (E : List El) : Prop where
  own : w.ownsRow base 59 1 v E.length (E.map el)
  cb : ∀ x ∈ E, CB w x.1 x.2.1 x.2.2 ∧ base ≤ x.1
  apart : E.Pairwise (fun x y => x.1 ≠ y.1)
theorem RR.nil (w : World) (base : Nat) : RR w base (.slice none 0 0) [] := ⟨World.ownsRow_nil _ _ _ _, fun x h => absurd h List.not_mem_nil, List.Pairwise.nil⟩
theorem RR.later {w w' : World} {b : Nat} {v : Value} {E : List El} (h : RR w b v E) (hb : Below w.heap.size w w') : RR w' b v E :=
  ⟨⟨h.own.1, h.own.2.imp id fun ⟨g, cap, cur, h1, h2, h3, h4⟩ => ⟨g, cap, cur, h1, h2, (hb.block g (Array.getElem?_eq_some_iff.1 h3).1).trans h3, h4⟩⟩, fun x hx => ⟨(h.cb x hx).1.later hb, (h.cb x hx).2⟩, h.apart⟩
/-- the row's own block is none of its elements' -/
theorem CB.own_ne {w : World} {g cap : Nat} {l : List UInt8} {b n : Nat} {v : Value} {xs : List Value} (h : CB w g cap l) (ho : w.ownsRow b 59 1 v n xs) : v.ownBlock ≠ some g := by
  intro e
  obtain ⟨cur, f, h1, _⟩ := h.ex
  rcases ho.2 with ⟨rfl, _⟩ | ⟨g', c, cur', rfl, _, hg, _⟩
  · simp [Value.ownBlock] at e
  · have e' : g' = g := by simpa [Value.ownBlock] using e
    subst e'
    have := hg.symm.trans h1
    simp only [Option.some.injEq, Obj.cells.injEq] at this
    exact absurd this.2.1 (by decide)
theorem infoRow : (Tryd.prog.info? 59).map (fun i => (i.zero, i.size, i.bytes)) = some (some (.slice none 0 0), 1, 24) := by kernel_rfl
theorem el_one (E : List El) : ∀ u ∈ E.map el, u.oneCell' = true := by
  intro u hu
  obtain ⟨y, _, rfl⟩ := List.mem_map.1 hu
  rfl
/-- append(rows, []byte(text)) -/
theorem wpList_append_rr {ops : Array Oper} {rest : List Oper} {o : Oper} {a : Act} {w : World} {Q : Exit → Act → World → Prop} (hgd : o.guard = none) (s x : Operand)
    (ho : o.op = .call { callee := .builtin .append, args := #[s, x], argTypes := #[97, 97] })
    (base : Nat) (v : Value) (E : List El) (y : El) (hs : a.eval s = v) (hr : RR w base v E) (hy : CB w y.1 y.2.1 y.2.2) (hyb : base ≤ y.1) (hyn : ∀ x ∈ E, x.1 ≠ y.1) (ad : Addr) (c : Nat) (hx : a.eval x = .slice (some ad) 1 c) (hc : w.cell? ad = some (el y))
    (hlen : E.length ≤ 1000000000) (hbase : base ≤ w.heap.size)
    (h : ∀ v' w', RR w' base v' (E ++ [y]) → Below base w w' → wpList Tryd.prog ops Q rest (a.put o.dst v') w') : wpList Tryd.prog ops Q (o :: rest) a w := by
  obtain ⟨i0, hi, hz0, hz1, hz2⟩ := info_of' infoRow
  refine wpList_append_own w hgd s x 97 ho base 59 i0 (.slice none 0 0) 1 24 Tryd.underlying97 hi hz0 hz1 hz2 rfl (by decide) v E.length (E.map el) hs hr.own ad 1 c ([y].map el) hx rfl (fun j u hj => by
    match j, hj with
    | 0, hj => simp at hj; subst hj; simpa [Addr.add] using hc) (el_one [y]) (by unfold maxLen; omega) (by omega) hbase ?_
  intro v' w' hown' hgrow _
  refine h v' w' ⟨by rw [List.length_append, List.map_append]; exact hown', fun z hz => ?_, ?_⟩ ((Below.refl _ w).grown hgrow hbase fun j hj => (hr.own.lt j hj).1)
  · rcases List.mem_append.1 hz with hz | hz
    · obtain ⟨h1, h2⟩ := hr.cb z hz
      exact ⟨h1.at (hgrow.block _ h1.lt fun e => h1.own_ne hr.own e.symm), h2⟩
    · obtain rfl := List.mem_singleton.1 hz
      exact ⟨hy.at (hgrow.block _ hy.lt fun e => hy.own_ne hr.own e.symm), hyb⟩
  · rw [List.pairwise_append]
    exact ⟨hr.apart, List.pairwise_singleton _ _, fun a ha b hb => by rw [List.mem_singleton.1 hb]; exact hyn a ha⟩
theorem wp_append_run {P : Program} {o : Oper} {a : Act} {w w' : World} {K : Act → World → Prop} {Q : Exit → Act → World → Prop} (s x : Operand) (t u : TypeId) (ho : o.op = .call { callee := .builtin .append, args := #[s, x], argTypes := #[t, u] })
    {v y v' : Value} (hs : a.eval s = v) (hx : a.eval x = y) (hr : (Builtin.append_ #[t, u] o.type #[v, y]).run P w = .ok v' w') (h : K (a.put o.dst v') w') : o.wp P a w K Q := by
  unfold Oper.wp execOp
  simp only [ho, resolve, invoke, builtin, Sem.run_bind, Sem.run_pure, Result.andThen_ok, List.map_toArray, List.map_cons, List.map_nil, hs, hx, hr]
  exact h
/-- the last of the rows, more bytes behind it -/
theorem RR.last {w : World} {base : Nat} {v : Value} {E : List El} (h : RR w base v E) (hn : E ≠ []) (t : ByteArray) (hlen : ((els E).getLastD []).length + t.size ≤ 4000000000) :
    ∃ gr cr x, v = .slice (some ⟨gr, 0, none⟩) E.length cr ∧ base ≤ gr ∧ E = E.dropLast ++ [x] ∧ w.cell? ⟨gr, E.length - 1, none⟩ = some (el x) ∧ w.frozen? ⟨gr, E.length - 1, none⟩ = false ∧ (els E).getLastD [] = x.2.2 ∧
      ∀ ty, ∃ y : El, ∃ w', (Builtin.append_ #[59, 9] ty #[el x, .string t]).run Tryd.prog w = .ok (el y) w' ∧ w'.cell? ⟨gr, E.length - 1, none⟩ = some (el x) ∧ w'.frozen? ⟨gr, E.length - 1, none⟩ = false ∧ y.2.2 = x.2.2 ++ Tl.tx t ∧
        (base ≤ w.heap.size → RR (w'.setCell ⟨gr, E.length - 1, none⟩ (el y)) base v (E.dropLast ++ [y]) ∧ Below base w (w'.setCell ⟨gr, E.length - 1, none⟩ (el y))) := by
  have hpos : 0 < E.length := List.length_pos_iff.2 hn
  obtain ⟨gr, cr, hv, hg0, hg1⟩ := World.ownsRow.form h.own hpos
  subst hv
  obtain ⟨x, hx⟩ : ∃ x, x = E.getLast hn := ⟨_, rfl⟩
  have hE : E = E.dropLast ++ [x] := by rw [hx, List.dropLast_concat_getLast]
  have hDl : E.dropLast.length = E.length - 1 := List.length_dropLast
  have hxm : x ∈ E := by rw [hx]; exact List.getLast_mem hn
  have hlast : (els E).getLastD [] = x.2.2 := by
    rw [hE]; unfold els; rw [List.map_append]; simp
  have hcell : w.cell? ⟨gr, E.length - 1, none⟩ = some (el x) := by
    have := World.ownsRow.cellAt h.own (E.length - 1) (by omega)
    rw [this]
    conv => lhs; rw [hE]
    rw [List.map_append, List.getElem?_append_right (by simp [hDl])]
    simp
  have hfr : w.frozen? ⟨gr, E.length - 1, none⟩ = false := World.ownsRow.frozenAt h.own (E.length - 1)
  obtain ⟨hcx, hbx⟩ := h.cb x hxm
  refine ⟨gr, cr, x, rfl, hg0, hE, hcell, hfr, hlast, fun ty => ?_⟩
  rw [hlast] at hlen
  obtain ⟨g', cap', w', hr, hcb, hg', hgrow⟩ := hcx.append t ty hlen
  have hne : gr ≠ x.1 := fun e => hcx.own_ne h.own (by rw [e]; rfl)
  have hrow : w'.heap[gr]? = w.heap[gr]? := hgrow.block _ hg1 (by simp [hne])
  refine ⟨(g', cap', x.2.2 ++ Tl.tx t), w', hr, by rw [World.cell?_of_block (w := w) (a := ⟨gr, E.length - 1, none⟩) hrow]; exact hcell, by rw [World.frozen?_of_block (w := w) (a := ⟨gr, E.length - 1, none⟩) hrow]; exact hfr, rfl, fun hbs => ?_⟩
  have hown' : w'.ownsRow base 59 1 (.slice (some ⟨gr, 0, none⟩) E.length cr) E.length (E.map el) := by
    refine ⟨h.own.1, h.own.2.imp id fun ⟨g, cap, cur, h1, h2, h3, h4⟩ => ⟨g, cap, cur, h1, h2, ?_, h4⟩⟩
    have : g = gr := by cases h1; rfl
    rw [this] at h3 ⊢
    exact hrow.trans h3
  have hst := (World.ownsRow.stored hown' (E.length - 1) (el (g', cap', x.2.2 ++ Tl.tx t))).1
  have hset : (E.map el).set (E.length - 1) (el (g', cap', x.2.2 ++ Tl.tx t)) = (E.dropLast ++ [(g', cap', x.2.2 ++ Tl.tx t)]).map el := by
    conv => lhs; rw [hE]
    rw [List.map_append, List.map_append, show (E.dropLast ++ [x]).length - 1 = (E.dropLast.map el).length by simp, List.set_append_right _ _ (Nat.le_refl _), Nat.sub_self]; rfl
  rw [hset] at hst
  have hlen2 : (E.dropLast ++ [(g', cap', x.2.2 ++ Tl.tx t)]).length = E.length := by rw [List.length_append, hDl, List.length_singleton]; omega
  have hap := h.apart
  rw [hE, List.pairwise_append] at hap
  have hgne : gr ≠ g' := by
    rcases hg' with e | e
    · rw [e]; exact hne
    · omega
  refine ⟨⟨by rw [hlen2]; exact hst, fun z hz => ?_, ?_⟩, ?_⟩
  · rcases List.mem_append.1 hz with hz | hz
    · have hzE : z ∈ E := by rw [hE]; exact List.mem_append_left _ hz
      obtain ⟨h1, h2⟩ := h.cb z hzE
      have hzx : z.1 ≠ x.1 := hap.2.2 z hz x (List.mem_singleton.2 rfl)
      have hzr : gr ≠ z.1 := fun e => h1.own_ne h.own (by rw [e]; rfl)
      exact ⟨h1.at ((Below.heap_setCell _ _ _ _ (by show z.1 ≠ gr; exact fun e => hzr e.symm)).trans (hgrow.block _ h1.lt (by simp [hzx]))), h2⟩
    · obtain rfl := List.mem_singleton.1 hz
      refine ⟨hcb.at (Below.heap_setCell _ _ _ _ (by show g' ≠ gr; exact fun e => hgne e.symm)), ?_⟩
      rcases hg' with e | e
      · show base ≤ g'; rw [e]; exact hbx
      · show base ≤ g'; omega
  · rw [List.pairwise_append]
    refine ⟨hap.1, List.pairwise_singleton _ _, fun a ha b hb => ?_⟩
    rw [List.mem_singleton.1 hb]
    show a.1 ≠ g'
    rcases hg' with e | e
    · rw [e]; exact hap.2.2 a ha x (List.mem_singleton.2 rfl)
    · have := ((h.cb a (by rw [hE]; exact List.mem_append_left _ ha)).1).lt
      omega
  · refine ((Below.refl _ w).grown hgrow hbs fun j hj => ?_).setCell (p := ⟨gr, E.length - 1, none⟩) hg0 _
    cases hj
    exact hbx
end Go.Proofs.YtponocolfjkapaaDoor
