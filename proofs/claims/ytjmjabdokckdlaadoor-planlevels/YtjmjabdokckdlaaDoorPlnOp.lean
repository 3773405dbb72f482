/- A plan that comes in, opened: what lies in memory. -/
import Derived.Test.YtjmjabdokckdlaaDoorPlnH
import Derived.Test.YtjmjabdokckdlaaDoorRows
import Derived.Deep.Slices
import Derived.Deep.SlicePairs
import Derived.ChangeArms
namespace Go.Proofs.YtjmjabdokckdlaaDoor
open Go.ChangeShapes Go.WideShapes Go.RowKit Go
set_option linter.unusedVariables false
set_option linter.unusedSimpArgs false

section
variable {H : Type} {enc : TypeId × Value → H} {W : World} {base : Nat} {sp : Nat → Bool} {held : Bool}
theorem list_of {α : Type} : ∀ {n : Nat} {Q : Nat → α → Prop}, (∀ i, i < n → ∃ x, Q i x) → ∃ L : List α, L.length = n ∧ ∀ k (hk : k < L.length), Q k L[k]
  | 0, Q, h => ⟨[], rfl, fun k hk => absurd hk (Nat.not_lt_zero _)⟩
  | n + 1, Q, h => by
    obtain ⟨L, hl, hq⟩ := list_of (n := n) (Q := Q) (fun i hi => h i (by omega))
    obtain ⟨x, hx⟩ := h n (by omega)
    refine ⟨L ++ [x], by simp [hl], fun k hk => ?_⟩
    rw [List.length_append, List.length_cons, List.length_nil] at hk
    by_cases c : k < L.length
    · rw [List.getElem_append_left c]; exact hq k c
    · obtain rfl : k = L.length := by omega
      rw [List.getElem_append_right (Nat.le_refl _)]
      simp only [Nat.sub_self, List.getElem_cons_zero]
      rw [hl]; exact hx
theorem cInt : Tryd.prog.cellsOf 3 = 1 := by kernel_rfl
theorem cInts : Tryd.prog.cellsOf 31 = 1 := by kernel_rfl
theorem cLinks : Tryd.prog.cellsOf 43 = 1 := by kernel_rfl
theorem cLink : Tryd.prog.cellsOf 47 = 3 := by kernel_rfl
theorem cTask : Tryd.prog.cellsOf 45 = 4 := by kernel_rfl
theorem three_of {cs : List Value} (h : cs.length = 3) : ∃ a b c, cs = [a, b, c] := by
  match cs, h with
  | [a, b, c], _ => exact ⟨a, b, c, rfl⟩
theorem four_of {cs : List Value} (h : cs.length = 4) : ∃ a b c d, cs = [a, b, c, d] := by
  match cs, h with
  | [a, b, c, d], _ => exact ⟨a, b, c, d, rfl⟩
/-- where something lies, the address has no part -/
theorem at_none {a : Addr} {k : Nat} {v : Value} (h : W.cell? (a.add k) = some v) (hp : a = ⟨a.block, a.off, none⟩) : W.cell? ⟨a.block, a.off + k, none⟩ = some v := by
  rw [hp] at h
  rw [Addr.add_lit] at h
  exact h
theorem no_part {a : Addr} {v0 : Value} (h0 : W.cell? (a.add 0) = some v0) : a = ⟨a.block, a.off, none⟩ := by
  obtain ⟨b, o, p⟩ := a
  cases p with
  | none => rfl
  | some p =>
    exfalso
    revert h0
    simp only [Addr.add, World.cell?]
    intro h0
    split at h0 <;> simp_all
theorem no_part2 {a : Addr} {i : Nat} {v0 : Value} (hi : i = 0) (h0 : W.cell? ((a.add i).add 0) = some v0) : a = ⟨a.block, a.off, none⟩ := by
  subst hi
  obtain ⟨b, o, p⟩ := a
  cases p with
  | none => rfl
  | some p =>
    exfalso
    revert h0
    simp only [Addr.add, World.cell?]
    intro h0
    split at h0 <;> simp_all
/-- a slice of numbers -/
theorem open_ns {n : Nat} {v : Value} {y : DataW H × List MemPlace} (h : DataW.trod enc Tryd.prog W base sp held n 31 [v] = some y) : ∃ l : List Int, NsAt W v l ∧ ∀ x ∈ l, (Lit.int .i64 x).wf = true := by
  rcases open_ints Tryd.underlying31 Tryd.underlying3 cInt h with ⟨hc, hx⟩ | ⟨a, len, cap, zs, hc, _, hl, _, hzl, hx, hcell, hwf⟩
  · obtain hc := (List.cons.inj hc).1
    exact ⟨[], ⟨none, 0, hc, fun k hk => absurd hk (Nat.not_lt_zero _)⟩, fun x hx => absurd hx (by simp)⟩
  · obtain hc := (List.cons.inj hc).1
    have hz : len ≤ zs.length := by rw [hzl]; split <;> omega
    have hlen : (zs.take len).length = len := by rw [List.length_take]; omega
    refine ⟨zs.take len, ⟨some a, cap, by rw [hlen]; exact hc, fun k hk => ?_⟩, fun x hx => hwf x (List.mem_of_mem_take hx)⟩
    rw [hlen] at hk
    have hp := no_part (hcell 0 (by omega))
    refine ⟨a.block, a.off, congrArg some hp, ?_⟩
    rw [at_none (hcell k (by omega)) hp, List.getD_eq_getElem?_getD, List.getD_eq_getElem?_getD, List.getElem?_take, if_pos hk]
/-- a link -/
theorem open_lk {n : Nat} {cs : List Value} {y : DataW H × List MemPlace} (h : DataW.trod enc Tryd.prog W base sp held n 47 cs = some y) :
    ∃ x : Lk, cs = [.int .i64 x.t, .int .i64 x.k, .int .i64 x.g] := by
  obtain ⟨xs, k, _, hx, hl, hlen, hfs⟩ := DataW.trod_struct Tryd.underlying47 h
  rw [cLink] at hl
  obtain ⟨v0, v1, v2, rfl⟩ := three_of hl
  match xs, hlen with
  | [y0, y1, y2], _ =>
    have g0 : DataW.trod enc Tryd.prog W base sp held k 3 ((([v0, v1, v2] : List Value).drop 0).take (Tryd.prog.cellsOf 3)) = some y0 := hfs 0 _ rfl
    have g1 : DataW.trod enc Tryd.prog W base sp held k 3 ((([v0, v1, v2] : List Value).drop 1).take (Tryd.prog.cellsOf 3)) = some y1 := hfs 1 _ rfl
    have g2 : DataW.trod enc Tryd.prog W base sp held k 3 ((([v0, v1, v2] : List Value).drop 2).take (Tryd.prog.cellsOf 3)) = some y2 := hfs 2 _ rfl
    rw [cInt] at g0 g1 g2
    obtain ⟨x0, e0, _⟩ := DataW.trod_int Tryd.underlying3 g0
    obtain ⟨x1, e1, _⟩ := DataW.trod_int Tryd.underlying3 g1
    obtain ⟨x2, e2, _⟩ := DataW.trod_int Tryd.underlying3 g2
    obtain rfl : v0 = .int .i64 x0 := (List.cons.inj e0).1
    obtain rfl : v1 = .int .i64 x1 := (List.cons.inj e1).1
    obtain rfl : v2 = .int .i64 x2 := (List.cons.inj e2).1
    exact ⟨⟨x0, x1, x2⟩, rfl⟩
/-- a slice of links -/
theorem open_ls {n : Nat} {v : Value} {y : DataW H × List MemPlace} (h : DataW.trod enc Tryd.prog W base sp held n 43 [v] = some y) : ∃ l : List Lk, LsAt W v l := by
  rcases Go.Deep.open_slice Tryd.underlying43 h with ⟨hc, hx⟩ | ⟨a, len, cap, m, k0, D, Pl, hc, _, hl, _, hm, hx, hall⟩
  · exact ⟨[], none, 0, (List.cons.inj hc).1, fun k hk => absurd hk (Nat.not_lt_zero _)⟩
  · have hlm : len ≤ m := by rw [hm]; split <;> omega
    have he : ∀ i, i < len → ∃ x : Lk, W.cell? ((a.add (i * 3)).add 0) = some (.int .i64 x.t) ∧ W.cell? ((a.add (i * 3)).add 1) = some (.int .i64 x.k) ∧ W.cell? ((a.add (i * 3)).add 2) = some (.int .i64 x.g) := fun i hi => by
      obtain ⟨cs, h1, h2⟩ := hall i (by omega)
      rw [cLink] at h1
      obtain ⟨x, rfl⟩ := open_lk h2
      obtain ⟨_, _, hcell⟩ := World.cells?_some h1
      exact ⟨x, by simpa using hcell 0 (by omega), by simpa using hcell 1 (by omega), by simpa using hcell 2 (by omega)⟩
    obtain ⟨L, hlen, hL⟩ := list_of he
    subst hlen
    refine ⟨L, some a, cap, (List.cons.inj hc).1, fun k hk => ?_⟩
    have h0 := (hL 0 (by omega)).1
    have hp : a = ⟨a.block, a.off, none⟩ := no_part2 (by omega) h0
    obtain ⟨c0, c1, c2⟩ := hL k hk
    rw [lk_at L k hk]
    refine ⟨a.block, a.off, congrArg some hp, ?_, ?_, ?_⟩
    · rw [hp] at c0; simpa [Addr.add_lit] using c0
    · rw [hp] at c1; simpa [Addr.add_lit] using c1
    · rw [hp] at c2; simpa [Addr.add_lit] using c2
/-- a task -/
theorem open_tk {n : Nat} {cs : List Value} {y : DataW H × List MemPlace} (h : DataW.trod enc Tryd.prog W base sp held n 45 cs = some y) :
    ∃ (x : Tk) (lv uv : Value), cs = [.int .i64 x.len, .int .i64 x.nb, lv, uv] ∧ LsAt W lv x.links ∧ NsAt W uv x.uses := by
  obtain ⟨xs, k, _, hx, hl, hlen, hfs⟩ := DataW.trod_struct Tryd.underlying45 h
  rw [cTask] at hl
  obtain ⟨v0, v1, v2, v3, rfl⟩ := four_of hl
  match xs, hlen with
  | [y0, y1, y2, y3], _ =>
    have g0 : DataW.trod enc Tryd.prog W base sp held k 3 ((([v0, v1, v2, v3] : List Value).drop 0).take (Tryd.prog.cellsOf 3)) = some y0 := hfs 0 _ rfl
    have g1 : DataW.trod enc Tryd.prog W base sp held k 3 ((([v0, v1, v2, v3] : List Value).drop 1).take (Tryd.prog.cellsOf 3)) = some y1 := hfs 1 _ rfl
    have g2 : DataW.trod enc Tryd.prog W base sp held k 43 ((([v0, v1, v2, v3] : List Value).drop 2).take (Tryd.prog.cellsOf 43)) = some y2 := hfs 2 _ rfl
    have g3 : DataW.trod enc Tryd.prog W base sp held k 31 ((([v0, v1, v2, v3] : List Value).drop 3).take (Tryd.prog.cellsOf 31)) = some y3 := hfs 3 _ rfl
    rw [cInt] at g0 g1
    rw [cLinks] at g2
    rw [cInts] at g3
    obtain ⟨x0, e0, _⟩ := DataW.trod_int Tryd.underlying3 g0
    obtain ⟨x1, e1, _⟩ := DataW.trod_int Tryd.underlying3 g1
    obtain rfl : v0 = .int .i64 x0 := (List.cons.inj e0).1
    obtain rfl : v1 = .int .i64 x1 := (List.cons.inj e1).1
    obtain ⟨l, hl⟩ := open_ls (v := v2) g2
    obtain ⟨u, hu, _⟩ := open_ns (v := v3) g3
    exact ⟨⟨x0, x1, l, u⟩, v2, v3, rfl, hl, hu⟩
/-- a slice of tasks -/
theorem open_ts {n : Nat} {v : Value} {y : DataW H × List MemPlace} (h : DataW.trod enc Tryd.prog W base sp held n 22 [v] = some y) : ∃ P : List Tk, TsAt W v P := by
  rcases Go.Deep.open_slice Tryd.underlying22 h with ⟨hc, hx⟩ | ⟨a, len, cap, m, k0, D, Pl, hc, _, hl, _, hm, hx, hall⟩
  · exact ⟨[], none, 0, (List.cons.inj hc).1, fun k hk => absurd hk (Nat.not_lt_zero _)⟩
  · have hlm : len ≤ m := by rw [hm]; split <;> omega
    have he : ∀ i, i < len → ∃ x : Tk, ∃ lv uv : Value, W.cell? ((a.add (i * 4)).add 0) = some (.int .i64 x.len) ∧ W.cell? ((a.add (i * 4)).add 1) = some (.int .i64 x.nb) ∧ W.cell? ((a.add (i * 4)).add 2) = some lv ∧ W.cell? ((a.add (i * 4)).add 3) = some uv ∧ LsAt W lv x.links ∧ NsAt W uv x.uses := fun i hi => by
      obtain ⟨cs, h1, h2⟩ := hall i (by omega)
      rw [cTask] at h1
      obtain ⟨x, lv, uv, rfl, hl, hu⟩ := open_tk h2
      obtain ⟨_, _, hcell⟩ := World.cells?_some h1
      exact ⟨x, lv, uv, by simpa using hcell 0 (by omega), by simpa using hcell 1 (by omega), by simpa using hcell 2 (by omega), by simpa using hcell 3 (by omega), hl, hu⟩
    obtain ⟨L, hlen, hL⟩ := list_of he
    subst hlen
    refine ⟨L, some a, cap, (List.cons.inj hc).1, fun k hk => ?_⟩
    obtain ⟨_, _, h0, _⟩ := hL 0 (by omega)
    have hp : a = ⟨a.block, a.off, none⟩ := no_part2 (by omega) h0
    obtain ⟨lv, uv, c0, c1, c2, c3, hl, hu⟩ := hL k hk
    rw [tk_at L k hk]
    refine ⟨a.block, a.off, lv, uv, congrArg some hp, ?_, ?_, ?_, ?_, hl, hu⟩
    · rw [hp] at c0; simpa [Addr.add_lit] using c0
    · rw [hp] at c1; simpa [Addr.add_lit] using c1
    · rw [hp] at c2; simpa [Addr.add_lit] using c2
    · rw [hp] at c3; simpa [Addr.add_lit] using c3
end
end Go.Proofs.YtjmjabdokckdlaaDoor
