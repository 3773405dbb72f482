/- package text: a part's lines; what may be read; rows of lines and of parts. -/
import Derived.Test.YtponocolfjkapaaDoorBkF
import Derived.Test.YtponocolfjkapaaDoorPrtOp
namespace Go.Proofs.YtponocolfjkapaaDoor
open Go.RowKit Go.Shelf
set_option linter.unusedVariables false
set_option linter.unusedSimpArgs false

def nmT : PPt → ByteArray | .mk nm _ _ => nm
mutual
/-- a part's lines -/
def lnsT : PPt → List (List UInt8)
  | .mk nm ls ks => bgT nm :: (ls.map lT ++ lnss ks ++ [enT nm])
def lnss : List PPt → List (List UInt8)
  | [] => []
  | k :: ks => lnsT k ++ lnss ks
end
mutual
/-- may a part be printed? -/
def VT : Int → PPt → Prop
  | d, .mk nm ls ks => d ≤ 8 ∧ nmS nm = true ∧ (∀ k (h : k < ls.length), eL ls[k] = 0) ∧ VTs (d + 1) ks
def VTs : Int → List PPt → Prop
  | _, [] => True
  | d, k :: ks => VT d k ∧ VTs d ks
end
mutual
theorem VT.of : ∀ (t : PPt) (d n : Int), (chk t d n).1 = 0 → VT d t
  | .mk nm ls ks, d, n, h => by
    unfold chk at h
    unfold VT
    split at h
    · exact absurd h (by show ¬ (6 : Int) = 0; decide)
    · split at h
      · exact absurd h (by show ¬ (6 : Int) = 0; decide)
      · split at h
        · exact absurd h (by show ¬ (8 : Int) = 0; decide)
        · split at h
          · rename_i e1 _ e3 e4
            refine ⟨by omega, by simpa using e3, fun k hk => ?_, VTs.of ks _ _ h⟩
            have := eF_all e4 k hk
            unfold eL2 at this
            rw [List.getElem?_eq_getElem hk] at this
            exact this
          · rename_i e4
            exact absurd h e4
theorem VTs.of : ∀ (ks : List PPt) (d n : Int), (chks ks d n).1 = 0 → VTs d ks
  | [], _, _, _ => by unfold VTs; trivial
  | k :: ks, d, n, h => by
    unfold chks at h
    unfold VTs
    split at h
    · rename_i e
      exact ⟨VT.of k d n e, VTs.of ks d _ h⟩
    · rename_i e
      exact absurd h e
end
theorem VTs.at : ∀ {d : Int} {ks : List PPt}, VTs d ks → ∀ k (h : k < ks.length), VT d ks[k]
  | d, x :: ks, h, 0, _ => by unfold VTs at h; exact h.1
  | d, x :: ks, h, k + 1, hk => by unfold VTs at h; exact VTs.at h.2 k (by simpa using hk)
theorem allB_mk {b : Nat → Bool} : ∀ {n : Nat}, (∀ k, k < n → b k = true) → Crn.allB b n = true
  | 0, _ => rfl
  | n + 1, h => by
    unfold Crn.allB
    rw [allB_mk (fun k hk => h k (by omega)), h n (by omega)]; rfl
theorem nm_ct {s : ByteArray} (h : nmS s = true) : ctS s = false := by
  unfold nmS at h
  rw [Bool.and_eq_true] at h
  unfold ctS
  rw [Bool.not_eq_false']
  refine allB_mk fun k hk => ?_
  have := allB_all h.1 k hk
  simp only [nmB, decide_eq_true_eq] at this
  simp only [ctB, Bool.not_eq_true', decide_eq_false_iff_not]
  omega
def bgL (nm : ByteArray) : PLn := ⟨⟨#[66, 69, 71, 73, 78]⟩, [], nm⟩
def enL (nm : ByteArray) : PLn := ⟨⟨#[69, 78, 68]⟩, [], nm⟩
theorem bgL_T (nm : ByteArray) : lT (bgL nm) = bgT nm := rfl
theorem enL_T (nm : ByteArray) : lT (enL nm) = enT nm := rfl
theorem bgL_ok {nm : ByteArray} (h : nmS nm = true) : RdOk (bgL nm) := ⟨by show nmS ⟨#[66, 69, 71, 73, 78]⟩ = true; decide +kernel, rfl, nm_ct h⟩
theorem enL_ok {nm : ByteArray} (h : nmS nm = true) : RdOk (enL nm) := ⟨by show nmS ⟨#[69, 78, 68]⟩ = true; decide +kernel, rfl, nm_ct h⟩
theorem bgL_ln {nm : ByteArray} (h : nmS nm = true) : LnOk (bgL nm) := ⟨by show (5 : Nat) ≤ _; omega, by show (0 : Nat) ≤ _; omega, fun k hk => absurd hk (Nat.not_lt_zero _), by have := (nm_facts h).2.1; show nm.size ≤ _; omega⟩
theorem enL_ln {nm : ByteArray} (h : nmS nm = true) : LnOk (enL nm) := ⟨by show (3 : Nat) ≤ _; omega, by show (0 : Nat) ≤ _; omega, fun k hk => absurd hk (Nat.not_lt_zero _), by have := (nm_facts h).2.1; show nm.size ≤ _; omega⟩
/-- what a line's cells are, and what hangs on them -/
def encLn (x : PLn) (cs : List Value) (W : World) : Prop := ∃ A c, cs = [.string x.n, .slice A x.ps.length c, .string x.v] ∧ PS A x.ps W
theorem ls_of {base : Nat} {v : Value} {L : List PLn} {W : World} (hk : ∀ k (h : k < L.length), LnOk L[k]) (h : GRow 56 3 encLn base v L W) : ∃ A c, v = .slice A L.length c ∧ LS A L W := by
  obtain ⟨A, c, rfl⟩ := h.slice
  refine ⟨A, c, rfl, fun k hkk => ?_⟩
  obtain ⟨g, c', cs, e, _, hz, ⟨Av, cv, rfl, hs⟩, hcell⟩ := h.at k hkk
  simp only [Value.slice.injEq] at e
  obtain ⟨rfl, _, _⟩ := e
  have c0 := hcell 0 (by simp)
  have c1 := hcell 1 (by simp)
  have c2 := hcell 2 (by simp)
  refine ⟨_, Av, cv, rfl, ?_, ?_, ?_, hs, hk k hkk⟩
  · rw [Addr.add_lit, Nat.zero_add]; exact c0
  · rw [Addr.add_lit, Nat.zero_add]; exact c1
  · rw [Addr.add_lit, Nat.zero_add]; exact c2
theorem ls_fpt {base : Nat} {A : Option Addr} {c : Nat} {L : List PLn} {W : World} (hk : ∀ k (h : k < L.length), LnOk L[k]) (h : GRow 56 3 encLn base (.slice A L.length c) L W) : Fpt (LS A L) base W.heap.size W :=
  h.fpt.imp fun W' h' => by
    obtain ⟨A', c', e, hp⟩ := ls_of hk h'
    cases e
    exact hp
/-- what a part's cells are, and what hangs on them -/
def encPt (t : PPt) (cs : List Value) (W : World) : Prop := ∃ a b c, cs = [a, b, c] ∧ PtM t (.agg #[a, b, c]) W
theorem ks_of {base : Nat} {v : Value} {L : List PPt} {W : World} (h : GRow 25 3 encPt base v L W) : ∃ A c, v = .slice A L.length c ∧ KsM L A 0 W := by
  obtain ⟨A, c, rfl⟩ := h.slice
  refine ⟨A, c, rfl, KsM.mk L A 0 fun k hkk => ?_⟩
  obtain ⟨g, c', cs, e, _, hz, ⟨a, b, d, rfl, hs⟩, hcell⟩ := h.at k hkk
  simp only [Value.slice.injEq] at e
  obtain ⟨rfl, _, _⟩ := e
  have c0 := hcell 0 (by simp)
  have c1 := hcell 1 (by simp)
  have c2 := hcell 2 (by simp)
  rw [Nat.zero_add]
  refine ⟨_, a, b, d, rfl, ?_, ?_, ?_, hs⟩
  · rw [Addr.add_lit, Nat.zero_add]; exact c0
  · rw [Addr.add_lit, Nat.zero_add]; exact c1
  · rw [Addr.add_lit, Nat.zero_add]; exact c2
theorem infoLn : (Tryd.prog.info? 56).map (fun i => (i.zero, i.size, i.bytes)) = some (some (.agg #[.string ⟨#[]⟩, .slice none 0 0, .string ⟨#[]⟩]), 3, 56) := by kernel_rfl
theorem infoPt : (Tryd.prog.info? 25).map (fun i => (i.zero, i.size, i.bytes)) = some (some (.agg #[.string ⟨#[]⟩, .slice none 0 0, .slice none 0 0]), 3, 64) := by kernel_rfl
/-- part's walk, as long as there are lines -/
structure P1 (w : World) (B R P : Nat) (nm : ByteArray) (vl : Value) (La : List PLn) (W : World) : Prop where
  r : W.heap[R]? = some (.cells #[.string ⟨#[]⟩, .slice none 0 0, .slice none 0 0] 25 (0, 0))
  p : W.heap[P]? = some (.cells #[.string nm, vl, .slice none 0 0] 25 (0, 0))
  g : GRow 56 3 encLn (P + 1) vl La W
  k : KB B w W
  l1 : B < w.heap.size
  l2 : w.heap.size ≤ R
  l3 : R < P
/-- and when parts come -/
structure P2 (w : World) (B R P e0 : Nat) (nm : ByteArray) (ls : List PLn) (A : Option Addr) (c : Nat) (vp : Value) (Kb : List PPt) (W : World) : Prop where
  r : W.heap[R]? = some (.cells #[.string ⟨#[]⟩, .slice none 0 0, .slice none 0 0] 25 (0, 0))
  p : W.heap[P]? = some (.cells #[.string nm, .slice A ls.length c, vp] 25 (0, 0))
  f : Fpt (LS A ls) (P + 1) e0 W
  g : GRow 25 3 encPt e0 vp Kb W
  k : KB B w W
  l1 : B < w.heap.size
  l2 : w.heap.size ≤ R
  l3 : R < P
  l4 : P < e0
section
variable {w : World} {B R P e0 : Nat} {nm : ByteArray} {W W' : World}
theorem P1.plt {vl : Value} {La : List PLn} (h : P1 w B R P nm vl La W) : P < W.heap.size := (Array.getElem?_eq_some_iff.1 h.p).1
theorem P1.cells {vl : Value} {La : List PLn} (h : P1 w B R P nm vl La W) : W.cell? ⟨P, 0, none⟩ = some (.string nm) ∧ W.cell? ⟨P, 1, none⟩ = some vl ∧ W.cell? ⟨P, 2, none⟩ = some (.slice none 0 0) :=
  ⟨cell_of_row _ _ _ _ _ (0, 0) h.p, cell_of_row _ _ _ _ _ (0, 0) h.p, cell_of_row _ _ _ _ _ (0, 0) h.p⟩
theorem P1.kb {vl : Value} {La : List PLn} (h : P1 w B R P nm vl La W) (hk : KB B W W') : P1 w B R P nm vl La W' := by
  have := h.plt
  have := h.l1
  have := h.l2
  have := h.l3
  exact ⟨(hk.block R (by omega) (by omega)).trans h.r, (hk.block P (by omega) (by omega)).trans h.p, h.g.kb hk (by omega), h.k.trans hk, h.l1, h.l2, h.l3⟩
theorem P1.later {vl : Value} {La : List PLn} (h : P1 w B R P nm vl La W) (hb : Below W.heap.size W W') : P1 w B R P nm vl La W' := h.kb (.of_below hb)
theorem P1.store {vl vl' : Value} {La La' : List PLn} (h : P1 w B R P nm vl La W) (hs : GRow 56 3 encLn (P + 1) vl' La' W') (hb : Below (P + 1) W W') : P1 w B R P nm vl' La' (W'.setCell ⟨P, 1, none⟩ vl') := by
  have h0 := h.plt
  have h1 := h.l1
  have h2 := h.l2
  have h3 := h.l3
  have hp : W'.heap[P]? = some (.cells #[.string nm, vl, .slice none 0 0] 25 (0, 0)) := (hb.block P (by omega)).trans h.p
  have hset : ∀ k, k ≠ P → (W'.setCell ⟨P, 1, none⟩ vl').heap[k]? = W'.heap[k]? := fun k hk => Below.heap_setCell _ _ _ k (fun e => hk e)
  have hz : W'.heap.size ≤ (W'.setCell ⟨P, 1, none⟩ vl').heap.size := (KeepsWalks.setCell _ _ _).size
  refine ⟨(hset R (by omega)).trans ((hb.block R (by omega)).trans h.r), ?_, hs.keep (fun b g1 g2 => hset b (by omega)) hz, ?_, h1, h2, h3⟩
  · rw [setCell_eq_setRow W' P 1 _ _ _ _ hp]
    exact setRow_heap W' P _ _ _ _ hp
  · exact ⟨hb.os.trans h.k.os, hb.tape.trans h.k.tape, hb.output.trans h.k.output, Nat.le_trans h.k.size (Nat.le_trans hb.size hz), fun k hk hne => (hset k (by omega)).trans ((hb.block k (by omega)).trans (h.k.block k hk hne))⟩
/-- when all lines are there -/
theorem P1.turn {vl : Value} {ls : List PLn} (h : P1 w B R P nm vl ls W) (hk : ∀ k (h : k < ls.length), LnOk ls[k]) : ∃ A c, vl = .slice A ls.length c ∧ P2 w B R P W.heap.size nm ls A c (.slice none 0 0) [] W := by
  obtain ⟨A, c, rfl, _⟩ := ls_of hk h.g
  exact ⟨A, c, rfl, h.r, h.p, ls_fpt hk h.g, .nil, h.k, h.l1, h.l2, h.l3, h.plt⟩
variable {ls : List PLn} {A : Option Addr} {c : Nat}
theorem P2.plt {vp : Value} {Kb : List PPt} (h : P2 w B R P e0 nm ls A c vp Kb W) : P < W.heap.size := (Array.getElem?_eq_some_iff.1 h.p).1
theorem P2.cells {vp : Value} {Kb : List PPt} (h : P2 w B R P e0 nm ls A c vp Kb W) : W.cell? ⟨P, 0, none⟩ = some (.string nm) ∧ W.cell? ⟨P, 1, none⟩ = some (.slice A ls.length c) ∧ W.cell? ⟨P, 2, none⟩ = some vp :=
  ⟨cell_of_row _ _ _ _ _ (0, 0) h.p, cell_of_row _ _ _ _ _ (0, 0) h.p, cell_of_row _ _ _ _ _ (0, 0) h.p⟩
theorem P2.kb {vp : Value} {Kb : List PPt} (h : P2 w B R P e0 nm ls A c vp Kb W) (hk : KB B W W') : P2 w B R P e0 nm ls A c vp Kb W' := by
  have := h.plt
  have := h.l1
  have := h.l2
  have := h.l3
  have := h.l4
  have := h.f.le
  exact ⟨(hk.block R (by omega) (by omega)).trans h.r, (hk.block P (by omega) (by omega)).trans h.p, h.f.later (fun b h1 h2 => hk.block b (by omega) (by omega)) hk.size, h.g.kb hk (by omega), h.k.trans hk, h.l1, h.l2, h.l3, h.l4⟩
theorem P2.later {vp : Value} {Kb : List PPt} (h : P2 w B R P e0 nm ls A c vp Kb W) (hb : Below W.heap.size W W') : P2 w B R P e0 nm ls A c vp Kb W' := h.kb (.of_below hb)
theorem P2.store {vp vp' : Value} {Kb Kb' : List PPt} (h : P2 w B R P e0 nm ls A c vp Kb W) (hs : GRow 25 3 encPt e0 vp' Kb' W') (hb : Below e0 W W') : P2 w B R P e0 nm ls A c vp' Kb' (W'.setCell ⟨P, 2, none⟩ vp') := by
  have h0 := h.plt
  have h1 := h.l1
  have h2 := h.l2
  have h3 := h.l3
  have h4 := h.l4
  have h5 := h.f.le
  have hp : W'.heap[P]? = some (.cells #[.string nm, .slice A ls.length c, vp] 25 (0, 0)) := (hb.block P (by omega)).trans h.p
  have hset : ∀ k, k ≠ P → (W'.setCell ⟨P, 2, none⟩ vp').heap[k]? = W'.heap[k]? := fun k hk => Below.heap_setCell _ _ _ k (fun e => hk e)
  have hz : W'.heap.size ≤ (W'.setCell ⟨P, 2, none⟩ vp').heap.size := (KeepsWalks.setCell _ _ _).size
  refine ⟨(hset R (by omega)).trans ((hb.block R (by omega)).trans h.r), ?_, h.f.later (fun b g1 g2 => (hset b (by omega)).trans (hb.block b (by omega))) (Nat.le_trans hb.size hz), hs.keep (fun b g1 g2 => hset b (by omega)) hz, ?_, h1, h2, h3, h4⟩
  · rw [setCell_eq_setRow W' P 2 _ _ _ _ hp]
    exact setRow_heap W' P _ _ _ _ hp
  · exact ⟨hb.os.trans h.k.os, hb.tape.trans h.k.tape, hb.output.trans h.k.output, Nat.le_trans h.k.size (Nat.le_trans hb.size hz), fun k hk hne => (hset k (by omega)).trans ((hb.block k (by omega)).trans (h.k.block k hk hne))⟩
/-- the part that has been read -/
theorem P2.part {vp : Value} {Kb : List PPt} (h : P2 w B R P e0 nm ls A c vp Kb W) (z1 : nm.size ≤ 1000000000) (z2 : ls.length ≤ 1000000000) (z3 : Kb.length ≤ 1000000000) :
    Fpt (PtM (.mk nm ls Kb) (.agg #[.string nm, .slice A ls.length c, vp])) (P + 1) W.heap.size W :=
  ⟨Nat.le_refl _, fun W' ha hz => by
    have h1 := h.f.ok W' (ha.mono (Nat.le_refl _) h.f.le) hz
    have h2 := h.g.keep (W' := W') (ha.mono (by have := h.l4; omega) (Nat.le_refl _)) hz
    obtain ⟨A2, c2, rfl, h3⟩ := ks_of h2
    unfold PtM
    exact ⟨z1, z2, z3, A, c, A2, c2, rfl, h1, h3⟩⟩
end
end Go.Proofs.YtponocolfjkapaaDoor
