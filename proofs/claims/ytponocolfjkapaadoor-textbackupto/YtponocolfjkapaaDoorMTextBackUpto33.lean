/- A part that comes in, opened: what lies in memory, and how great it is. -/
import Derived.Test.YtponocolfjkapaaDoorMTextBackUpto28
import Derived.Test.YtponocolfjkapaaDoorRows
import Derived.SliceStrings
import Derived.Deep.Slices
import Derived.ChangeArms
namespace Go.Proofs.YtponocolfjkapaaDoor
open Go.ChangeShapes Go.WideShapes Go.RowKit Go
set_option linter.unusedVariables false
set_option linter.unusedSimpArgs false

section
variable {H : Type} {enc : TypeId × Value → H} {W : World} {base : Nat} {sp : Nat → Bool} {held : Bool}

theorem list_of {α : Type} : ∀ {n : Nat} {Q : Nat → α → Prop}, (∀ i, i < n → ∃ x, Q i x) → ∃ L : List α, L.length = n ∧ ∀ k (hk : k < L.length), Q k L[k]
  | 0, Q, h => ⟨[], rfl, fun k hk => absurd hk (Nat.not_lt_zero _)⟩
  | n + 1, Q, h => by
    obtain ⟨L, hl, hq⟩ := list_of (n := n) (Q := Q) (fun i hi => h i (by omega))
    obtain ⟨x, hx⟩ := h n (by omega)
    refine ⟨L ++ [x], by simp [hl], fun k hk => ?_⟩
    rw [List.length_append, List.length_cons, List.length_nil] at hk
    by_cases c : k < L.length
    · rw [List.getElem_append_left c]; exact hq k c
    · obtain rfl : k = L.length := by omega
      rw [List.getElem_append_right (Nat.le_refl _)]
      simp only [Nat.sub_self, List.getElem_cons_zero]
      rw [hl]; exact hx
theorem bulk_sum {α : Type} (f : α → Nat) : ∀ (L : List α) (D : Nat → DataW H), (∀ k (hk : k < L.length), f L[k] ≤ Rows.uptoBulk (D k)) → (L.map f).sum ≤ Rows.uptoBulkAll ((List.range L.length).map D)
  | [], D, _ => Nat.zero_le _
  | x :: L, D, h => by
    have ih := bulk_sum f L (fun k => D (k + 1)) (fun k hk => h (k + 1) (by simpa using hk))
    have h0 := h 0 (by simp)
    rw [List.length_cons, List.range_succ_eq_map]
    simp only [List.map_cons, List.map_map, List.sum_cons, Rows.uptoBulkAll]
    exact Nat.add_le_add h0 ih
theorem bulk_part {D : Nat → DataW H} : ∀ {n k : Nat}, k < n → Rows.uptoBulk (D k) ≤ Rows.uptoBulkAll ((List.range n).map D)
  | 0, k, h => absurd h (Nat.not_lt_zero _)
  | n + 1, 0, h => by
    rw [List.range_succ_eq_map, List.map_cons]
    simp only [Rows.uptoBulkAll]; omega
  | n + 1, k + 1, h => by
    have ih := bulk_part (D := fun k => D (k + 1)) (n := n) (k := k) (by omega)
    rw [List.range_succ_eq_map, List.map_cons, List.map_map]
    simp only [Rows.uptoBulkAll]
    exact Nat.le_trans ih (Nat.le_add_left _ _)
theorem at_one (a : Addr) (n : Nat) : (a.add n).add 1 = ⟨(a.add n).block, (a.add n).off + 1, none⟩ := rfl
theorem at_two (a : Addr) (n : Nat) : (a.add n).add 2 = ⟨(a.add n).block, (a.add n).off + 2, none⟩ := rfl
theorem cStr : Tryd.prog.cellsOf 9 = 1 := by kernel_rfl
theorem cStrs : Tryd.prog.cellsOf 31 = 1 := by kernel_rfl
theorem cParams : Tryd.prog.cellsOf 54 = 1 := by kernel_rfl
theorem cLines : Tryd.prog.cellsOf 22 = 1 := by kernel_rfl
theorem cParts : Tryd.prog.cellsOf 23 = 1 := by kernel_rfl
theorem cParam : Tryd.prog.cellsOf 58 = 2 := by kernel_rfl
theorem cLine : Tryd.prog.cellsOf 56 = 3 := by kernel_rfl
theorem cPart : Tryd.prog.cellsOf 25 = 3 := by kernel_rfl
theorem bulk_strings : ∀ L : List ByteArray, Rows.uptoBulkAll (strs (H := H) L) = vsz L
  | [] => rfl
  | x :: r => by
    have ih := bulk_strings r
    have e : strs (H := H) (x :: r) = .lit (.string x.data.toList) :: strs r := rfl
    rw [e]
    simp only [Rows.uptoBulkAll, Rows.uptoBulk, ih, vsz, List.map_cons, List.sum_cons]
    have : x.data.toList.length = x.size := by rw [Array.length_toList]; rfl
    omega
/-- a slice of texts -/
theorem open_vs {n : Nat} {v : Value} {d : DataW H} {p : List MemPlace} (h : DataW.trod enc Tryd.prog W base sp held n 31 [v] = some (d, p)) :
    ∃ (A : Option Addr) (c : Nat) (L : List ByteArray), v = .slice A L.length c ∧ SL A L W ∧ vsz L ≤ Rows.uptoBulk d := by
  rcases open_strings Tryd.underlying31 Tryd.underlying9 cStr h with ⟨hc, hx⟩ | ⟨a, len, cap, ss, hc, _, hl, hm, hz, hx, hcell, hsz⟩
  · obtain hc := (List.cons.inj hc).1
    exact ⟨none, 0, [], hc, SL.none, Nat.zero_le _⟩
  · obtain hc := (List.cons.inj hc).1
    have hle : len ≤ ss.length := by rw [hz]; split <;> omega
    have hlen : (ss.take len).length = len := by rw [List.length_take]; omega
    refine ⟨some a, cap, ss.take len, by rw [hlen]; exact hc, fun k hk => ⟨a, rfl, ?_⟩, ?_⟩
    · rw [hlen] at hk
      rw [hcell k (by omega), List.getElem_take, List.getD_eq_getElem?_getD, List.getElem?_eq_getElem (by omega)]; rfl
    · obtain ⟨rfl, _⟩ := Prod.mk.inj hx
      simp only [Rows.uptoBulk, bulk_strings]
      omega
/-- a text -/
theorem open_st {n : Nat} {v : Value} {d : DataW H} {p : List MemPlace} (h : DataW.trod enc Tryd.prog W base sp held n 9 [v] = some (d, p)) :
    ∃ s : ByteArray, v = .string s ∧ s.size + 1 = Rows.uptoBulk d := by
  obtain ⟨s, hc, hx, _⟩ := DataW.trod_string Tryd.underlying9 h
  obtain ⟨rfl, _⟩ := Prod.mk.inj hx
  refine ⟨s, (List.cons.inj hc).1, ?_⟩
  simp only [Rows.uptoBulk, Array.length_toList]
  rfl
theorem two_of {cs : List Value} (h : cs.length = 2) : ∃ a b, cs = [a, b] := by
  match cs, h with
  | [a, b], _ => exact ⟨a, b, rfl⟩
theorem three_of {cs : List Value} (h : cs.length = 3) : ∃ a b c, cs = [a, b, c] := by
  match cs, h with
  | [a, b, c], _ => exact ⟨a, b, c, rfl⟩
/-- a param -/
theorem open_pm {n : Nat} {cs : List Value} {d : DataW H} {p : List MemPlace} (h : DataW.trod enc Tryd.prog W base sp held n 58 cs = some (d, p)) :
    ∃ (x : PPm) (A : Option Addr) (c : Nat), cs = [.string x.n, .slice A x.vs.length c] ∧ SL A x.vs W ∧ pmz x + 1 ≤ Rows.uptoBulk d := by
  obtain ⟨xs, k, _, hx, hl, hlen, hfs⟩ := DataW.trod_struct Tryd.underlying58 h
  rw [cParam] at hl
  obtain ⟨v0, v1, rfl⟩ := two_of hl
  match xs, hlen with
  | [y0, y1], _ =>
    have g0 : DataW.trod enc Tryd.prog W base sp held k 9 ((([v0, v1] : List Value).drop 0).take (Tryd.prog.cellsOf 9)) = some y0 := hfs 0 _ rfl
    rw [cStr] at g0
    have g1 : DataW.trod enc Tryd.prog W base sp held k 31 ((([v0, v1] : List Value).drop 1).take (Tryd.prog.cellsOf 31)) = some y1 := hfs 1 _ rfl
    rw [cStrs] at g1
    obtain ⟨d0, p0⟩ := y0
    obtain ⟨d1, p1⟩ := y1
    obtain ⟨s, rfl, hs⟩ := open_st (v := v0) g0
    obtain ⟨A, c, L, rfl, hL, hz⟩ := open_vs (v := v1) g1
    obtain ⟨rfl, _⟩ := Prod.mk.inj hx
    refine ⟨⟨s, L⟩, A, c, rfl, hL, ?_⟩
    simp only [List.map_cons, List.map_nil, Rows.uptoBulk, Rows.uptoBulkAll, pmz]
    omega
/-- a slice of params -/
theorem open_ps {n : Nat} {v : Value} {d : DataW H} {p : List MemPlace} (h : DataW.trod enc Tryd.prog W base sp held n 54 [v] = some (d, p)) :
    ∃ (A : Option Addr) (c : Nat) (L : List PPm), v = .slice A L.length c ∧ PS A L W ∧ psz L ≤ Rows.uptoBulk d := by
  rcases Go.Deep.open_slice Tryd.underlying54 h with ⟨hc, hx⟩ | ⟨a, len, cap, m, k0, D, Pl, hc, _, hl, _, hm, hx, hall⟩
  · exact ⟨none, 0, [], (List.cons.inj hc).1, fun k hk => absurd hk (Nat.not_lt_zero _), Nat.zero_le _⟩
  · have hlm : len ≤ m := by rw [hm]; split <;> omega
    have he : ∀ i, i < len → ∃ x : PPm, (∃ A c, W.cell? (a.add (i * 2)) = some (.string x.n) ∧ W.cell? ⟨(a.add (i * 2)).block, (a.add (i * 2)).off + 1, none⟩ = some (.slice A x.vs.length c) ∧ SL A x.vs W) ∧ pmz x + 1 ≤ Rows.uptoBulk (D i) := fun i hi => by
      obtain ⟨cs, h1, h2⟩ := hall i (by omega)
      rw [cParam] at h1
      obtain ⟨x, A, c, rfl, hS, hz⟩ := open_pm h2
      obtain ⟨_, _, hcell⟩ := World.cells?_some h1
      have e0 := hcell 0 (by omega)
      have e1 := hcell 1 (by omega)
      exact ⟨x, ⟨A, c, by simpa [Addr.add] using e0, by rw [← at_one]; simpa using e1, hS⟩, hz⟩
    obtain ⟨L, hlen, hL⟩ := list_of he
    subst hlen
    obtain ⟨rfl, _⟩ := Prod.mk.inj hx
    refine ⟨some a, cap, L, (List.cons.inj hc).1, fun k hk => ?_, ?_⟩
    · obtain ⟨⟨A, c, h1, h2, h3⟩, _⟩ := hL k hk
      exact ⟨a, A, c, rfl, h1, h2, h3⟩
    · have := bulk_sum (fun x => pmz x + 1) L D (fun k hk => (hL k hk).2)
      simp only [Rows.uptoBulk]
      unfold psz
      omega
theorem vsz_len : ∀ l : List ByteArray, l.length ≤ vsz l
  | [] => Nat.zero_le _
  | x :: l => by
    have := vsz_len l
    simp only [vsz, List.map_cons, List.sum_cons, List.length_cons] at *
    omega
theorem vsz_at : ∀ (l : List ByteArray) (k : Nat) (h : k < l.length), l[k].size ≤ vsz l
  | x :: l, 0, h => by simp only [vsz, List.map_cons, List.sum_cons, List.getElem_cons_zero]; omega
  | x :: l, k + 1, h => by
    have := vsz_at l k (by simpa using h)
    simp only [vsz, List.map_cons, List.sum_cons, List.getElem_cons_succ] at *
    omega
theorem psz_len : ∀ l : List PPm, l.length ≤ psz l
  | [] => Nat.zero_le _
  | x :: l => by
    have := psz_len l
    simp only [psz, List.map_cons, List.sum_cons, List.length_cons] at *
    omega
theorem psz_at : ∀ (l : List PPm) (k : Nat) (h : k < l.length), pmz l[k] ≤ psz l
  | x :: l, 0, h => by simp only [psz, List.map_cons, List.sum_cons, List.getElem_cons_zero]; omega
  | x :: l, k + 1, h => by
    have := psz_at l k (by simpa using h)
    simp only [psz, List.map_cons, List.sum_cons, List.getElem_cons_succ] at *
    omega
theorem lsz_len : ∀ l : List PLn, l.length ≤ lsz l
  | [] => Nat.zero_le _
  | x :: l => by
    have := lsz_len l
    simp only [lsz, List.map_cons, List.sum_cons, List.length_cons] at *
    omega
theorem PmOk.of {x : PPm} (h : pmz x ≤ 1000000000) : PmOk x := by
  unfold pmz at h
  exact ⟨by omega, by have := vsz_len x.vs; omega, fun k hk => by have := vsz_at x.vs k hk; omega⟩
theorem LnOk.of {x : PLn} (h : lnz x ≤ 1000000000) : LnOk x := by
  unfold lnz at h
  exact ⟨by omega, by have := psz_len x.ps; omega, fun k hk => PmOk.of (by have := psz_at x.ps k hk; omega), by omega⟩
/-- a line -/
theorem open_ln {n : Nat} {cs : List Value} {d : DataW H} {p : List MemPlace} (h : DataW.trod enc Tryd.prog W base sp held n 56 cs = some (d, p)) :
    ∃ (x : PLn) (A : Option Addr) (c : Nat), cs = [.string x.n, .slice A x.ps.length c, .string x.v] ∧ PS A x.ps W ∧ lnz x + 1 ≤ Rows.uptoBulk d := by
  obtain ⟨xs, k, _, hx, hl, hlen, hfs⟩ := DataW.trod_struct Tryd.underlying56 h
  rw [cLine] at hl
  obtain ⟨v0, v1, v2, rfl⟩ := three_of hl
  match xs, hlen with
  | [y0, y1, y2], _ =>
    have g0 : DataW.trod enc Tryd.prog W base sp held k 9 ((([v0, v1, v2] : List Value).drop 0).take (Tryd.prog.cellsOf 9)) = some y0 := hfs 0 _ rfl
    rw [cStr] at g0
    have g1 : DataW.trod enc Tryd.prog W base sp held k 54 ((([v0, v1, v2] : List Value).drop 1).take (Tryd.prog.cellsOf 54)) = some y1 := hfs 1 _ rfl
    rw [cParams] at g1
    have g2 : DataW.trod enc Tryd.prog W base sp held k 9 ((([v0, v1, v2] : List Value).drop 2).take (Tryd.prog.cellsOf 9)) = some y2 := hfs 2 _ rfl
    rw [cStr] at g2
    obtain ⟨d0, p0⟩ := y0
    obtain ⟨d1, p1⟩ := y1
    obtain ⟨d2, p2⟩ := y2
    obtain ⟨s, rfl, hs⟩ := open_st (v := v0) g0
    obtain ⟨A, c, L, rfl, hL, hz⟩ := open_ps (v := v1) g1
    obtain ⟨s2, rfl, hs2⟩ := open_st (v := v2) g2
    obtain ⟨rfl, _⟩ := Prod.mk.inj hx
    refine ⟨⟨s, L, s2⟩, A, c, rfl, hL, ?_⟩
    simp only [List.map_cons, List.map_nil, Rows.uptoBulk, Rows.uptoBulkAll, lnz]
    omega
/-- a slice of lines -/
theorem open_ls {n : Nat} {v : Value} {d : DataW H} {p : List MemPlace} (h : DataW.trod enc Tryd.prog W base sp held n 22 [v] = some (d, p)) (hb : Rows.uptoBulk d ≤ 100000000) :
    ∃ (A : Option Addr) (c : Nat) (L : List PLn), v = .slice A L.length c ∧ LS A L W ∧ lsz L ≤ Rows.uptoBulk d := by
  rcases Go.Deep.open_slice Tryd.underlying22 h with ⟨hc, hx⟩ | ⟨a, len, cap, m, k0, D, Pl, hc, _, hl, _, hm, hx, hall⟩
  · exact ⟨none, 0, [], (List.cons.inj hc).1, fun k hk => absurd hk (Nat.not_lt_zero _), Nat.zero_le _⟩
  · have hlm : len ≤ m := by rw [hm]; split <;> omega
    obtain ⟨rfl, _⟩ := Prod.mk.inj hx
    have he : ∀ i, i < len → ∃ x : PLn, (∃ A c, W.cell? (a.add (i * 3)) = some (.string x.n) ∧ W.cell? ⟨(a.add (i * 3)).block, (a.add (i * 3)).off + 1, none⟩ = some (.slice A x.ps.length c) ∧ W.cell? ⟨(a.add (i * 3)).block, (a.add (i * 3)).off + 2, none⟩ = some (.string x.v) ∧ PS A x.ps W) ∧ lnz x + 1 ≤ Rows.uptoBulk (D i) := fun i hi => by
      obtain ⟨cs, h1, h2⟩ := hall i (by omega)
      rw [cLine] at h1
      obtain ⟨x, A, c, rfl, hS, hz⟩ := open_ln h2
      obtain ⟨_, _, hcell⟩ := World.cells?_some h1
      have e0 := hcell 0 (by omega)
      have e1 := hcell 1 (by omega)
      have e2 := hcell 2 (by omega)
      exact ⟨x, ⟨A, c, by simpa [Addr.add] using e0, by rw [← at_one]; simpa using e1, by rw [← at_two]; simpa using e2, hS⟩, hz⟩
    obtain ⟨L, hlen, hL⟩ := list_of he
    subst hlen
    have hsum := bulk_sum (fun x => lnz x + 1) L D (fun k hk => (hL k hk).2)
    simp only [Rows.uptoBulk] at hb ⊢
    refine ⟨some a, cap, L, (List.cons.inj hc).1, fun k hk => ?_, ?_⟩
    · obtain ⟨⟨A, c, h1, h2, h3, h4⟩, hz⟩ := hL k hk
      have := bulk_part (D := D) hk
      exact ⟨a, A, c, rfl, h1, h2, h3, h4, LnOk.of (by omega)⟩
    · unfold lsz
      omega
theorem KsM.mk : ∀ (ks : List PPt) (A : Option Addr) (i : Nat), (∀ k (h : k < ks.length), ∃ ad a b c, A = some ad ∧ W.cell? (ad.add ((i + k) * 3)) = some a ∧ W.cell? ⟨(ad.add ((i + k) * 3)).block, (ad.add ((i + k) * 3)).off + 1, none⟩ = some b ∧ W.cell? ⟨(ad.add ((i + k) * 3)).block, (ad.add ((i + k) * 3)).off + 2, none⟩ = some c ∧ PtM ks[k] (.agg #[a, b, c]) W) → KsM ks A i W
  | [], _, _, _ => by unfold KsM; trivial
  | x :: ks, A, i, h => by
    unfold KsM
    refine ⟨h 0 (by simp), KsM.mk ks A (i + 1) fun k hk => ?_⟩
    have := h (k + 1) (by simpa using hk)
    rw [show i + (k + 1) = i + 1 + k by omega] at this
    exact this
theorem ptsz_eq : ∀ ks : List PPt, ptsz ks = (ks.map (fun k => ptz k + 1)).sum
  | [] => by simp [ptsz]
  | k :: ks => by simp only [ptsz, List.map_cons, List.sum_cons, ptsz_eq ks]
theorem ptsz_len : ∀ l : List PPt, l.length ≤ ptsz l
  | [] => Nat.zero_le _
  | x :: l => by
    have := ptsz_len l
    simp only [ptsz, List.length_cons] at *
    omega
/-- a part -/
theorem open_pt : ∀ (N : Nat) {n : Nat} {cs : List Value} {d : DataW H} {p : List MemPlace}, Rows.uptoBulk d ≤ N → Rows.uptoBulk d ≤ 100000000 → DataW.trod enc Tryd.prog W base sp held n 25 cs = some (d, p) →
    ∃ t : PPt, PtM t (.agg cs.toArray) W ∧ ptz t + 1 ≤ Rows.uptoBulk d ∧ ∃ a b c, cs = [a, b, c]
  | 0, n, cs, d, p, hN, hb, h => by
    obtain ⟨xs, k, _, hx, _⟩ := DataW.trod_struct Tryd.underlying25 h
    obtain ⟨rfl, _⟩ := Prod.mk.inj hx
    simp only [Rows.uptoBulk] at hN
    omega
  | N + 1, n, cs, d, p, hN, hb, h => by
    obtain ⟨xs, k, _, hx, hl, hlen, hfs⟩ := DataW.trod_struct Tryd.underlying25 h
    rw [cPart] at hl
    obtain ⟨v0, v1, v2, rfl⟩ := three_of hl
    match xs, hlen with
    | [y0, y1, y2], _ =>
      have g0 : DataW.trod enc Tryd.prog W base sp held k 9 ((([v0, v1, v2] : List Value).drop 0).take (Tryd.prog.cellsOf 9)) = some y0 := hfs 0 _ rfl
      rw [cStr] at g0
      have g1 : DataW.trod enc Tryd.prog W base sp held k 22 ((([v0, v1, v2] : List Value).drop 1).take (Tryd.prog.cellsOf 22)) = some y1 := hfs 1 _ rfl
      rw [cLines] at g1
      have g2 : DataW.trod enc Tryd.prog W base sp held k 23 ((([v0, v1, v2] : List Value).drop 2).take (Tryd.prog.cellsOf 23)) = some y2 := hfs 2 _ rfl
      rw [cParts] at g2
      obtain ⟨d0, p0⟩ := y0
      obtain ⟨d1, p1⟩ := y1
      obtain ⟨d2, p2⟩ := y2
      obtain ⟨rfl, _⟩ := Prod.mk.inj hx
      simp only [List.map_cons, List.map_nil, Rows.uptoBulk, Rows.uptoBulkAll] at hN hb ⊢
      obtain ⟨s, rfl, hs⟩ := open_st (v := v0) g0
      obtain ⟨A, c, L, rfl, hL, hz⟩ := open_ls (v := v1) g1 (by omega)
      have hks : ∃ (A2 : Option Addr) (c2 : Nat) (ks : List PPt), v2 = .slice A2 ks.length c2 ∧ KsM ks A2 0 W ∧ ptsz ks ≤ Rows.uptoBulk d2 := by
        rcases Go.Deep.open_slice Tryd.underlying23 (cs := [v2]) g2 with ⟨hc, hx⟩ | ⟨a, len, cap, m, k0, D, Pl, hc, _, hl2, _, hm, hx, hall⟩
        · exact ⟨none, 0, [], (List.cons.inj hc).1, by unfold KsM; trivial, Nat.zero_le _⟩
        · have hlm : len ≤ m := by rw [hm]; split <;> omega
          obtain ⟨rfl, _⟩ := Prod.mk.inj hx
          simp only [Rows.uptoBulk] at hN hb ⊢
          have he : ∀ i, i < len → ∃ t : PPt, (∃ x b c, W.cell? (a.add (i * 3)) = some x ∧ W.cell? ⟨(a.add (i * 3)).block, (a.add (i * 3)).off + 1, none⟩ = some b ∧ W.cell? ⟨(a.add (i * 3)).block, (a.add (i * 3)).off + 2, none⟩ = some c ∧ PtM t (.agg #[x, b, c]) W) ∧ ptz t + 1 ≤ Rows.uptoBulk (D i) := fun i hi => by
            obtain ⟨cs, h1, h2⟩ := hall i (by omega)
            have hp := bulk_part (D := D) hi
            obtain ⟨t, ht, hz, x, b, c, rfl⟩ := open_pt N (by omega) (by omega) h2
            rw [cPart] at h1
            obtain ⟨_, _, hcell⟩ := World.cells?_some h1
            have e0 := hcell 0 (by omega)
            have e1 := hcell 1 (by omega)
            have e2 := hcell 2 (by omega)
            exact ⟨t, ⟨x, b, c, by simpa [Addr.add] using e0, by rw [← at_one]; simpa using e1, by rw [← at_two]; simpa using e2, ht⟩, hz⟩
          obtain ⟨ks, hkl, hkk⟩ := list_of he
          subst hkl
          have hsum := bulk_sum (fun x => ptz x + 1) ks D (fun k hk => (hkk k hk).2)
          refine ⟨some a, cap, ks, (List.cons.inj hc).1, KsM.mk ks _ 0 fun k hk => ?_, ?_⟩
          · obtain ⟨⟨x, b, c, h1, h2, h3, h4⟩, _⟩ := hkk k hk
            rw [Nat.zero_add]
            exact ⟨a, x, b, c, rfl, h1, h2, h3, h4⟩
          · rw [ptsz_eq]
            omega
      obtain ⟨A2, c2, ks, rfl, hK, hz2⟩ := hks
      refine ⟨.mk s L ks, ?_, ?_, _, _, _, rfl⟩
      · unfold PtM
        have h1 := lsz_len L
        have h2 := ptsz_len ks
        exact ⟨by omega, by omega, by omega, A, c, A2, c2, rfl, hL, hK⟩
      · simp only [ptz]
        omega
end
end Go.Proofs.YtponocolfjkapaaDoor
