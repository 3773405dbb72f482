/- A printed text's lines: where they end, and that they are read again (mathematics). -/
import Derived.Test.YtponocolfjkapaaDoorMTextBackUpto32
import Derived.Test.YtponocolfjkapaaDoorMTextBackUpto33
import Derived.Test.YtponocolfjkapaaDoorMTextBackUpto4
namespace Go.Proofs.YtponocolfjkapaaDoor
open Go.RowKit Go.Shelf
set_option linter.unusedVariables false
set_option linter.unusedSimpArgs false

def nmT : PPt → ByteArray | .mk nm _ _ => nm
mutual
/-- a part's lines -/
def lnsT : PPt → List (List UInt8)
  | .mk nm ls ks => bgT nm :: (ls.map lT ++ lnss ks ++ [enT nm])
def lnss : List PPt → List (List UInt8)
  | [] => []
  | k :: ks => lnsT k ++ lnss ks
end
mutual
/-- may a part be printed? -/
def VT : Int → PPt → Prop
  | d, .mk nm ls ks => d ≤ 8 ∧ nmS nm = true ∧ (∀ k (h : k < ls.length), eL ls[k] = 0) ∧ VTs (d + 1) ks
def VTs : Int → List PPt → Prop
  | _, [] => True
  | d, k :: ks => VT d k ∧ VTs d ks
end
mutual
theorem VT.of : ∀ (t : PPt) (d n : Int), (chk t d n).1 = 0 → VT d t
  | .mk nm ls ks, d, n, h => by
    unfold chk at h
    unfold VT
    split at h
    · exact absurd h (by show ¬ (6 : Int) = 0; decide)
    · split at h
      · exact absurd h (by show ¬ (6 : Int) = 0; decide)
      · split at h
        · exact absurd h (by show ¬ (8 : Int) = 0; decide)
        · split at h
          · rename_i e1 _ e3 e4
            refine ⟨by omega, by simpa using e3, fun k hk => ?_, VTs.of ks _ _ h⟩
            have := eF_all e4 k hk
            unfold eL2 at this
            rw [List.getElem?_eq_getElem hk] at this
            exact this
          · rename_i e4
            exact absurd h e4
theorem VTs.of : ∀ (ks : List PPt) (d n : Int), (chks ks d n).1 = 0 → VTs d ks
  | [], _, _, _ => by unfold VTs; trivial
  | k :: ks, d, n, h => by
    unfold chks at h
    unfold VTs
    split at h
    · rename_i e
      exact ⟨VT.of k d n e, VTs.of ks d _ h⟩
    · rename_i e
      exact absurd h e
end
theorem VTs.at : ∀ {d : Int} {ks : List PPt}, VTs d ks → ∀ k (h : k < ks.length), VT d ks[k]
  | d, x :: ks, h, 0, _ => by unfold VTs at h; exact h.1
  | d, x :: ks, h, k + 1, hk => by unfold VTs at h; exact VTs.at h.2 k (by simpa using hk)
theorem allB_mk {b : Nat → Bool} : ∀ {n : Nat}, (∀ k, k < n → b k = true) → Crn.allB b n = true
  | 0, _ => rfl
  | n + 1, h => by
    unfold Crn.allB
    rw [allB_mk (fun k hk => h k (by omega)), h n (by omega)]; rfl
theorem nm_ct {s : ByteArray} (h : nmS s = true) : ctS s = false := by
  unfold nmS at h
  rw [Bool.and_eq_true] at h
  unfold ctS
  rw [Bool.not_eq_false']
  refine allB_mk fun k hk => ?_
  have := allB_all h.1 k hk
  simp only [nmB, decide_eq_true_eq] at this
  simp only [ctB, Bool.not_eq_true', decide_eq_false_iff_not]
  omega
def bgL (nm : ByteArray) : PLn := ⟨⟨#[66, 69, 71, 73, 78]⟩, [], nm⟩
def enL (nm : ByteArray) : PLn := ⟨⟨#[69, 78, 68]⟩, [], nm⟩
theorem bgL_T (nm : ByteArray) : lT (bgL nm) = bgT nm := rfl
theorem enL_T (nm : ByteArray) : lT (enL nm) = enT nm := rfl
theorem bgL_ok {nm : ByteArray} (h : nmS nm = true) : RdOk (bgL nm) := ⟨by show nmS ⟨#[66, 69, 71, 73, 78]⟩ = true; decide +kernel, rfl, nm_ct h⟩
theorem enL_ok {nm : ByteArray} (h : nmS nm = true) : RdOk (enL nm) := ⟨by show nmS ⟨#[69, 78, 68]⟩ = true; decide +kernel, rfl, nm_ct h⟩
theorem bgL_ln {nm : ByteArray} (h : nmS nm = true) : LnOk (bgL nm) := ⟨by show (5 : Nat) ≤ _; omega, by show (0 : Nat) ≤ _; omega, fun k hk => absurd hk (Nat.not_lt_zero _), by have := (nm_facts h).2.1; show nm.size ≤ _; omega⟩
theorem enL_ln {nm : ByteArray} (h : nmS nm = true) : LnOk (enL nm) := ⟨by show (3 : Nat) ≤ _; omega, by show (0 : Nat) ≤ _; omega, fun k hk => absurd hk (Nat.not_lt_zero _), by have := (nm_facts h).2.1; show nm.size ≤ _; omega⟩
/-- what a line's cells are, and what hangs on them -/
def encLn (x : PLn) (cs : List Value) (W : World) : Prop := ∃ A c, cs = [.string x.n, .slice A x.ps.length c, .string x.v] ∧ PS A x.ps W
theorem ls_of {base : Nat} {v : Value} {L : List PLn} {W : World} (hk : ∀ k (h : k < L.length), LnOk L[k]) (h : GRow 56 3 encLn base v L W) : ∃ A c, v = .slice A L.length c ∧ LS A L W := by
  obtain ⟨A, c, rfl⟩ := h.slice
  refine ⟨A, c, rfl, fun k hkk => ?_⟩
  obtain ⟨g, c', cs, e, _, hz, ⟨Av, cv, rfl, hs⟩, hcell⟩ := h.at k hkk
  simp only [Value.slice.injEq] at e
  obtain ⟨rfl, _, _⟩ := e
  have c0 := hcell 0 (by simp)
  have c1 := hcell 1 (by simp)
  have c2 := hcell 2 (by simp)
  refine ⟨_, Av, cv, rfl, ?_, ?_, ?_, hs, hk k hkk⟩
  · rw [Addr.add_lit, Nat.zero_add]; exact c0
  · rw [Addr.add_lit, Nat.zero_add]; exact c1
  · rw [Addr.add_lit, Nat.zero_add]; exact c2
theorem ls_fpt {base : Nat} {A : Option Addr} {c : Nat} {L : List PLn} {W : World} (hk : ∀ k (h : k < L.length), LnOk L[k]) (h : GRow 56 3 encLn base (.slice A L.length c) L W) : Fpt (LS A L) base W.heap.size W :=
  h.fpt.imp fun W' h' => by
    obtain ⟨A', c', e, hp⟩ := ls_of hk h'
    cases e
    exact hp
/-- what a part's cells are, and what hangs on them -/
def encPt (t : PPt) (cs : List Value) (W : World) : Prop := ∃ a b c, cs = [a, b, c] ∧ PtM t (.agg #[a, b, c]) W
theorem ks_of {base : Nat} {v : Value} {L : List PPt} {W : World} (h : GRow 25 3 encPt base v L W) : ∃ A c, v = .slice A L.length c ∧ KsM L A 0 W := by
  obtain ⟨A, c, rfl⟩ := h.slice
  refine ⟨A, c, rfl, KsM.mk L A 0 fun k hkk => ?_⟩
  obtain ⟨g, c', cs, e, _, hz, ⟨a, b, d, rfl, hs⟩, hcell⟩ := h.at k hkk
  simp only [Value.slice.injEq] at e
  obtain ⟨rfl, _, _⟩ := e
  have c0 := hcell 0 (by simp)
  have c1 := hcell 1 (by simp)
  have c2 := hcell 2 (by simp)
  rw [Nat.zero_add]
  refine ⟨_, a, b, d, rfl, ?_, ?_, ?_, hs⟩
  · rw [Addr.add_lit, Nat.zero_add]; exact c0
  · rw [Addr.add_lit, Nat.zero_add]; exact c1
  · rw [Addr.add_lit, Nat.zero_add]; exact c2
theorem infoLn : (Tryd.prog.info? 56).map (fun i => (i.zero, i.size, i.bytes)) = some (some (.agg #[.string ⟨#[]⟩, .slice none 0 0, .string ⟨#[]⟩]), 3, 56) := by kernel_rfl
theorem infoPt : (Tryd.prog.info? 25).map (fun i => (i.zero, i.size, i.bytes)) = some (some (.agg #[.string ⟨#[]⟩, .slice none 0 0, .slice none 0 0]), 3, 64) := by kernel_rfl
/-- part's walk, as long as there are lines -/
structure P1 (w : World) (B R P : Nat) (nm : ByteArray) (vl : Value) (La : List PLn) (W : World) : Prop where
  r : W.heap[R]? = some (.cells #[.string ⟨#[]⟩, .slice none 0 0, .slice none 0 0] 25 (0, 0))
  p : W.heap[P]? = some (.cells #[.string nm, vl, .slice none 0 0] 25 (0, 0))
  g : GRow 56 3 encLn (P + 1) vl La W
  k : KB B w W
  l1 : B < w.heap.size
  l2 : w.heap.size ≤ R
  l3 : R < P
/-- and when parts come -/
structure P2 (w : World) (B R P e0 : Nat) (nm : ByteArray) (ls : List PLn) (A : Option Addr) (c : Nat) (vp : Value) (Kb : List PPt) (W : World) : Prop where
  r : W.heap[R]? = some (.cells #[.string ⟨#[]⟩, .slice none 0 0, .slice none 0 0] 25 (0, 0))
  p : W.heap[P]? = some (.cells #[.string nm, .slice A ls.length c, vp] 25 (0, 0))
  f : Fpt (LS A ls) (P + 1) e0 W
  g : GRow 25 3 encPt e0 vp Kb W
  k : KB B w W
  l1 : B < w.heap.size
  l2 : w.heap.size ≤ R
  l3 : R < P
  l4 : P < e0
section
variable {w : World} {B R P e0 : Nat} {nm : ByteArray} {W W' : World}
theorem P1.plt {vl : Value} {La : List PLn} (h : P1 w B R P nm vl La W) : P < W.heap.size := (Array.getElem?_eq_some_iff.1 h.p).1
theorem P1.cells {vl : Value} {La : List PLn} (h : P1 w B R P nm vl La W) : W.cell? ⟨P, 0, none⟩ = some (.string nm) ∧ W.cell? ⟨P, 1, none⟩ = some vl ∧ W.cell? ⟨P, 2, none⟩ = some (.slice none 0 0) :=
  ⟨cell_of_row _ _ _ _ _ (0, 0) h.p, cell_of_row _ _ _ _ _ (0, 0) h.p, cell_of_row _ _ _ _ _ (0, 0) h.p⟩
theorem P1.kb {vl : Value} {La : List PLn} (h : P1 w B R P nm vl La W) (hk : KB B W W') : P1 w B R P nm vl La W' := by
  have := h.plt
  have := h.l1
  have := h.l2
  have := h.l3
  exact ⟨(hk.block R (by omega) (by omega)).trans h.r, (hk.block P (by omega) (by omega)).trans h.p, h.g.kb hk (by omega), h.k.trans hk, h.l1, h.l2, h.l3⟩
theorem P1.later {vl : Value} {La : List PLn} (h : P1 w B R P nm vl La W) (hb : Below W.heap.size W W') : P1 w B R P nm vl La W' := h.kb (.of_below hb)
theorem P1.store {vl vl' : Value} {La La' : List PLn} (h : P1 w B R P nm vl La W) (hs : GRow 56 3 encLn (P + 1) vl' La' W') (hb : Below (P + 1) W W') : P1 w B R P nm vl' La' (W'.setCell ⟨P, 1, none⟩ vl') := by
  have h0 := h.plt
  have h1 := h.l1
  have h2 := h.l2
  have h3 := h.l3
  have hp : W'.heap[P]? = some (.cells #[.string nm, vl, .slice none 0 0] 25 (0, 0)) := (hb.block P (by omega)).trans h.p
  have hset : ∀ k, k ≠ P → (W'.setCell ⟨P, 1, none⟩ vl').heap[k]? = W'.heap[k]? := fun k hk => Below.heap_setCell _ _ _ k (fun e => hk e)
  have hz : W'.heap.size ≤ (W'.setCell ⟨P, 1, none⟩ vl').heap.size := (KeepsWalks.setCell _ _ _).size
  refine ⟨(hset R (by omega)).trans ((hb.block R (by omega)).trans h.r), ?_, hs.keep (fun b g1 g2 => hset b (by omega)) hz, ?_, h1, h2, h3⟩
  · rw [setCell_eq_setRow W' P 1 _ _ _ _ hp]
    exact setRow_heap W' P _ _ _ _ hp
  · exact ⟨hb.os.trans h.k.os, hb.tape.trans h.k.tape, hb.output.trans h.k.output, Nat.le_trans h.k.size (Nat.le_trans hb.size hz), fun k hk hne => (hset k (by omega)).trans ((hb.block k (by omega)).trans (h.k.block k hk hne))⟩
/-- when all lines are there -/
theorem P1.turn {vl : Value} {ls : List PLn} (h : P1 w B R P nm vl ls W) (hk : ∀ k (h : k < ls.length), LnOk ls[k]) : ∃ A c, vl = .slice A ls.length c ∧ P2 w B R P W.heap.size nm ls A c (.slice none 0 0) [] W := by
  obtain ⟨A, c, rfl, _⟩ := ls_of hk h.g
  exact ⟨A, c, rfl, h.r, h.p, ls_fpt hk h.g, .nil, h.k, h.l1, h.l2, h.l3, h.plt⟩
variable {ls : List PLn} {A : Option Addr} {c : Nat}
theorem P2.plt {vp : Value} {Kb : List PPt} (h : P2 w B R P e0 nm ls A c vp Kb W) : P < W.heap.size := (Array.getElem?_eq_some_iff.1 h.p).1
theorem P2.cells {vp : Value} {Kb : List PPt} (h : P2 w B R P e0 nm ls A c vp Kb W) : W.cell? ⟨P, 0, none⟩ = some (.string nm) ∧ W.cell? ⟨P, 1, none⟩ = some (.slice A ls.length c) ∧ W.cell? ⟨P, 2, none⟩ = some vp :=
  ⟨cell_of_row _ _ _ _ _ (0, 0) h.p, cell_of_row _ _ _ _ _ (0, 0) h.p, cell_of_row _ _ _ _ _ (0, 0) h.p⟩
theorem P2.kb {vp : Value} {Kb : List PPt} (h : P2 w B R P e0 nm ls A c vp Kb W) (hk : KB B W W') : P2 w B R P e0 nm ls A c vp Kb W' := by
  have := h.plt
  have := h.l1
  have := h.l2
  have := h.l3
  have := h.l4
  have := h.f.le
  exact ⟨(hk.block R (by omega) (by omega)).trans h.r, (hk.block P (by omega) (by omega)).trans h.p, h.f.later (fun b h1 h2 => hk.block b (by omega) (by omega)) hk.size, h.g.kb hk (by omega), h.k.trans hk, h.l1, h.l2, h.l3, h.l4⟩
theorem P2.later {vp : Value} {Kb : List PPt} (h : P2 w B R P e0 nm ls A c vp Kb W) (hb : Below W.heap.size W W') : P2 w B R P e0 nm ls A c vp Kb W' := h.kb (.of_below hb)
theorem P2.store {vp vp' : Value} {Kb Kb' : List PPt} (h : P2 w B R P e0 nm ls A c vp Kb W) (hs : GRow 25 3 encPt e0 vp' Kb' W') (hb : Below e0 W W') : P2 w B R P e0 nm ls A c vp' Kb' (W'.setCell ⟨P, 2, none⟩ vp') := by
  have h0 := h.plt
  have h1 := h.l1
  have h2 := h.l2
  have h3 := h.l3
  have h4 := h.l4
  have h5 := h.f.le
  have hp : W'.heap[P]? = some (.cells #[.string nm, .slice A ls.length c, vp] 25 (0, 0)) := (hb.block P (by omega)).trans h.p
  have hset : ∀ k, k ≠ P → (W'.setCell ⟨P, 2, none⟩ vp').heap[k]? = W'.heap[k]? := fun k hk => Below.heap_setCell _ _ _ k (fun e => hk e)
  have hz : W'.heap.size ≤ (W'.setCell ⟨P, 2, none⟩ vp').heap.size := (KeepsWalks.setCell _ _ _).size
  refine ⟨(hset R (by omega)).trans ((hb.block R (by omega)).trans h.r), ?_, h.f.later (fun b g1 g2 => (hset b (by omega)).trans (hb.block b (by omega))) (Nat.le_trans hb.size hz), hs.keep (fun b g1 g2 => hset b (by omega)) hz, ?_, h1, h2, h3, h4⟩
  · rw [setCell_eq_setRow W' P 2 _ _ _ _ hp]
    exact setRow_heap W' P _ _ _ _ hp
  · exact ⟨hb.os.trans h.k.os, hb.tape.trans h.k.tape, hb.output.trans h.k.output, Nat.le_trans h.k.size (Nat.le_trans hb.size hz), fun k hk hne => (hset k (by omega)).trans ((hb.block k (by omega)).trans (h.k.block k hk hne))⟩
/-- the part that has been read -/
theorem P2.part {vp : Value} {Kb : List PPt} (h : P2 w B R P e0 nm ls A c vp Kb W) (z1 : nm.size ≤ 1000000000) (z2 : ls.length ≤ 1000000000) (z3 : Kb.length ≤ 1000000000) :
    Fpt (PtM (.mk nm ls Kb) (.agg #[.string nm, .slice A ls.length c, vp])) (P + 1) W.heap.size W :=
  ⟨Nat.le_refl _, fun W' ha hz => by
    have h1 := h.f.ok W' (ha.mono (Nat.le_refl _) h.f.le) hz
    have h2 := h.g.keep (W' := W') (ha.mono (by have := h.l4; omega) (Nat.le_refl _)) hz
    obtain ⟨A2, c2, rfl, h3⟩ := ks_of h2
    unfold PtM
    exact ⟨z1, z2, z3, A, c, A2, c2, rfl, h1, h3⟩⟩
end
end Go.Proofs.YtponocolfjkapaaDoor
namespace Go.Proofs.YtponocolfjkapaaDoor
open Go.RowKit
set_option linter.unusedVariables false
set_option linter.unusedSimpArgs false

/-- no byte that ends a line -/
def Clean (l : List UInt8) : Prop := ∀ b ∈ l, b ≠ 10 ∧ b ≠ 13
theorem Clean.nil : Clean [] := fun b h => absurd h (by simp)
theorem Clean.app {l m : List UInt8} (h : Clean l) (h' : Clean m) : Clean (l ++ m) := fun b hb => (List.mem_append.1 hb).elim (h b) (h' b)
theorem Clean.cons {x : UInt8} {m : List UInt8} (h : x ≠ 10 ∧ x ≠ 13) (h' : Clean m) : Clean (x :: m) := fun b hb => by
  rcases List.mem_cons.1 hb with rfl | hb
  · exact h
  · exact h' b hb
/-- a line that may be folded and found again -/
structure GL (l : List UInt8) : Prop where
  ne : l ≠ []
  c : Clean l
  h : ∀ b, l.head? = some b → b ≠ 32 ∧ b ≠ 9
theorem nat_ne {b : UInt8} {k : Nat} (h : b.toNat ≠ k) (c : UInt8) (hc : c.toNat = k) : b ≠ c := fun e => h (by rw [e, hc])
theorem nm_clean {s : ByteArray} (h : nmS s = true) : Clean (Tl.tx s) := fun b hb => by
  have := (nm_facts h).2.2 b hb
  exact ⟨nat_ne (k := 10) (by omega) 10 rfl, nat_ne (k := 13) (by omega) 13 rfl⟩
theorem ct_clean {s : ByteArray} (h : ctS s = false) : Clean (Tl.tx s) := fun b hb => by
  have := ct_facts h b hb
  exact ⟨nat_ne (k := 10) (by omega) 10 rfl, nat_ne (k := 13) (by omega) 13 rfl⟩
theorem quo_clean {s : ByteArray} (h : vB s = true) : Clean (Tl.tx (quo s)) := by
  unfold vB at h
  rw [Bool.and_eq_true] at h
  have hc := ct_clean (s := s) (by simpa using h.1)
  unfold quo
  split
  · rw [Tl.tx_app, Tl.tx_app]
    exact ((Clean.nil.cons (by decide)).app hc).app (Clean.nil.cons (by decide))
  · exact hc
theorem vT_clean : ∀ (l : List ByteArray) (n : Nat), (∀ k (h : k < l.length), vB l[k] = true) → Clean (vT n l)
  | [], n, _ => by unfold vT; exact Clean.nil
  | v :: l, n, h => by
    have ih := vT_clean l (n + 1) (fun k hk => h (k + 1) (by simpa using hk))
    have h0 := quo_clean (h 0 (by simp))
    show Clean ((if n = 0 then 61 else 44) :: (Tl.tx (quo v) ++ vT (n + 1) l))
    refine Clean.cons ?_ (Clean.app h0 ih)
    split <;> decide
theorem eP_facts {x : PPm} (hx : eP x = 0) : nmS x.n = true ∧ x.vs ≠ [] ∧ ∀ k (h : k < x.vs.length), vB x.vs[k] = true := by
  unfold eP at hx
  have hn : nmS x.n = true := by
    cases h : nmS x.n with
    | true => rfl
    | false => rw [h, if_pos rfl] at hx; exact absurd hx (by decide)
  rw [if_neg (by rw [hn]; simp)] at hx
  have hv0 : x.vs.length ≠ 0 := fun e => by rw [if_pos e] at hx; exact absurd hx (by decide)
  rw [if_neg hv0] at hx
  refine ⟨hn, fun e => hv0 (by rw [e]; rfl), fun k hk => ?_⟩
  by_cases hall : Crn.allB (fun k => vB (x.vs.getD k ByteArray.empty)) x.vs.length = true
  · have := allB_all hall k hk
    rwa [List.getD_eq_getElem?_getD, List.getElem?_eq_getElem hk] at this
  · rw [if_neg hall] at hx; exact absurd hx (by decide)
theorem psT_clean : ∀ (l : List PPm), (∀ k (h : k < l.length), eP l[k] = 0) → Clean (psT l)
  | [], _ => Clean.nil
  | x :: l, h => by
    have ih := psT_clean l (fun k hk => h (k + 1) (by simpa using hk))
    obtain ⟨h1, h2, h3⟩ := eP_facts (h 0 (by simp))
    have e : psT (x :: l) = pT x ++ psT l := by simp [psT]
    rw [e]
    refine Clean.app (Clean.cons (by decide) (Clean.app (nm_clean h1) (vT_clean _ _ h3))) ih
theorem head_name {s : ByteArray} (h : nmS s = true) (m : List UInt8) : Tl.tx s ++ m ≠ [] ∧ ∀ b, (Tl.tx s ++ m).head? = some b → b ≠ 32 ∧ b ≠ 9 := by
  obtain ⟨h1, _, h2⟩ := nm_facts h
  have hl := Tl.tx_len s
  cases hs : Tl.tx s with
  | nil => rw [hs] at hl; simp at hl; omega
  | cons x l =>
    have := h2 x (by rw [hs]; exact List.mem_cons_self)
    refine ⟨by simp, fun b hb => ?_⟩
    simp at hb
    subst hb
    exact ⟨nat_ne (k := 32) (by omega) 32 rfl, nat_ne (k := 9) (by omega) 9 rfl⟩
theorem lT_good {x : PLn} (h : RdOk x) : GL (lT x) := by
  have hp : ∀ k (hk : k < x.ps.length), eP x.ps[k] = 0 := fun k hk => by
    have := eF_all h.p k hk
    unfold eP2 at this
    rw [List.getElem?_eq_getElem hk] at this
    exact this
  have e : lT x = Tl.tx x.n ++ (psT x.ps ++ 58 :: Tl.tx x.v) := by unfold lT; rw [List.append_assoc]
  obtain ⟨h1, h2⟩ := head_name h.n (psT x.ps ++ 58 :: Tl.tx x.v)
  rw [e]
  exact ⟨h1, Clean.app (nm_clean h.n) (Clean.app (psT_clean _ hp) (Clean.cons (by decide) (ct_clean h.v))), h2⟩
mutual
theorem lns_good : ∀ (t : PPt) (d : Int), VT d t → ∀ l ∈ lnsT t, GL l
  | .mk nm ls ks, d, h, l, hl => by
    unfold VT at h
    obtain ⟨_, hn, h3, h4⟩ := h
    simp only [lnsT, List.mem_cons, List.mem_append, List.mem_map, List.not_mem_nil, or_false] at hl
    rcases hl with rfl | (⟨x, hx, rfl⟩ | hl) | rfl
    · rw [← bgL_T]; exact lT_good (bgL_ok hn)
    · obtain ⟨k, hk, rfl⟩ := List.mem_iff_getElem.1 hx
      exact lT_good (RdOk.of (h3 k hk)).1
    · exact lnss_good ks _ h4 l hl
    · rw [← enL_T]; exact lT_good (enL_ok hn)
theorem lnss_good : ∀ (ks : List PPt) (d : Int), VTs d ks → ∀ l ∈ lnss ks, GL l
  | [], _, _, l, hl => by simp [lnss] at hl
  | k :: ks, d, h, l, hl => by
    unfold VTs at h
    simp only [lnss, List.mem_append] at hl
    rcases hl with hl | hl
    · exact lns_good k d h.1 l hl
    · exact lnss_good ks d h.2 l hl
end
mutual
theorem ptT_flat : ∀ t : PPt, ptT t = ((lnsT t).map fld).flatten
  | .mk nm ls ks => by
    have h1 : lsT ls = (ls.map (fun x => fld (lT x))).flatten := by
      induction ls with
      | nil => rfl
      | cons x l ih => simp [lsT, ih]
    simp only [ptT, lnsT, List.map_cons, List.map_append, List.map_map, List.flatten_cons, List.flatten_append, List.map_nil, List.flatten_nil, List.append_nil, h1, ptsT_flat ks]
    simp only [List.append_assoc]
    rfl
theorem ptsT_flat : ∀ ks : List PPt, ptsT ks = ((lnss ks).map fld).flatten
  | [] => by simp [ptsT, lnss]
  | k :: ks => by simp [ptsT, lnss, ptT_flat k, ptsT_flat ks]
end
/-- the pieces of a line that was folded -/
theorem fld_pcs {room : Nat} {l o : List UInt8} (h : Tl.Fld room l o) (hr : 74 ≤ room) : ∃ (p : List UInt8) (P : List (List UInt8)), o = p ++ [13, 10] ++ (P.map (fun q => 32 :: (q ++ [13, 10]))).flatten ∧ l = p ++ P.flatten ∧ p.length ≤ room ∧ (∀ q ∈ P, q.length ≤ 74) ∧ (l ≠ [] → p ≠ []) := by
  induction h with
  | last room l hd =>
    refine ⟨l.take (Tl.cutN l room), [], by simp, ?_, ?_, by simp, fun hne e => ?_⟩
    · have := List.take_append_drop (Tl.cutN l room) l
      rw [hd] at this
      simpa using this.symm
    · rw [List.length_take]
      have := Tl.cutN_room l room
      omega
    · have := List.take_append_drop (Tl.cutN l room) l
      rw [hd, e] at this
      exact hne (by simpa using this.symm)
  | more room l o hd h' ih =>
    obtain ⟨p, P, e1, e2, e3, e4, e5⟩ := ih (by omega)
    refine ⟨l.take (Tl.cutN l room), p :: P, ?_, ?_, ?_, ?_, fun hne e => ?_⟩
    · rw [e1]
      simp
    · have := List.take_append_drop (Tl.cutN l room) l
      rw [e2] at this
      simpa using this.symm
    · rw [List.length_take]
      have := Tl.cutN_room l room
      omega
    · intro q hq
      rcases List.mem_cons.1 hq with rfl | hq
      · exact e3
      · exact e4 q hq
    · rcases Tl.cutN_pos l room hr with h | h
      · exact hd h
      · have h2 := congrArg List.length e
        rw [List.length_take, List.length_nil] at h2
        have := Tl.cutN_le l room
        omega
def pcA (p : List UInt8) : List UInt8 := p ++ [13]
def pcB (q : List UInt8) : List UInt8 := 32 :: (q ++ [13])
theorem trim_pc (p : List UInt8) : Tl.trim (p ++ [13]) = p := by
  unfold Tl.trim
  rw [if_pos (by simp)]
  simp
theorem cts_tail : ∀ (P : List (List UInt8)) (r : List UInt8) (C : List (List UInt8)), (∀ q ∈ P, (10 : UInt8) ∉ q) → Tl.Cts r C → Tl.Cts ((P.map (fun q => 32 :: (q ++ [13, 10]))).flatten ++ r) (P.map pcB ++ C)
  | [], r, C, _, h => h
  | q :: P, r, C, hq, h => by
    have ih := cts_tail P r C (fun x hx => hq x (List.mem_cons_of_mem _ hx)) h
    have h0 := hq q List.mem_cons_self
    have e : ((q :: P).map (fun q => 32 :: (q ++ [13, 10]))).flatten ++ r = pcB q ++ 10 :: ((P.map (fun q => 32 :: (q ++ [13, 10]))).flatten ++ r) := by simp [pcB]
    rw [e]
    exact Tl.Cts.more _ _ _ (by simp [pcB, h0]) ih
theorem unf_tail : ∀ (P : List (List UInt8)) (L : List (List UInt8)) (a : List UInt8), Tl.unf (L ++ [a]) (P.map pcB) = L ++ [a ++ P.flatten]
  | [], L, a => by simp [Tl.unf]
  | q :: P, L, a => by
    have e : Tl.unf (L ++ [a]) ((q :: P).map pcB) = Tl.unf (Tl.step (L ++ [a]) (pcB q)) (P.map pcB) := rfl
    have hs : Tl.step (L ++ [a]) (pcB q) = L ++ [a ++ q] := by
      unfold Tl.step
      have ht : Tl.trim (pcB q) = 32 :: q := by
        rw [show pcB q = (32 :: q) ++ [13] by simp [pcB], trim_pc]
      rw [ht]
      rw [if_pos ⟨rfl, by simp⟩]
      simp
    rw [e, hs, unf_tail P L (a ++ q)]
    simp
/-- all lines, folded, unfold to themselves; no piece is longer than it may be -/
theorem lines_back : ∀ (LS : List (List UInt8)), (∀ l ∈ LS, GL l) → ∃ Q : List (List UInt8), Tl.Cts ((LS.map fld).flatten) (Q ++ [[]]) ∧ (∀ L, Tl.unf L Q = L ++ LS) ∧ ∀ q ∈ Q, q.length ≤ 76
  | [], _ => ⟨[], Tl.Cts.last [] (by simp), fun L => by simp [Tl.unf], fun q h => absurd h (by simp)⟩
  | l :: LS, h => by
    obtain ⟨Q, h1, h2, h3⟩ := lines_back LS (fun x hx => h x (List.mem_cons_of_mem _ hx))
    have hl := h l List.mem_cons_self
    obtain ⟨p, P, e1, e2, e3, e4, e5⟩ := fld_pcs (fld_is l) (by omega)
    have hpn : (10 : UInt8) ∉ p := fun hm => (hl.c 10 (by rw [e2]; exact List.mem_append_left _ hm)).1 rfl
    have hPn : ∀ q ∈ P, (10 : UInt8) ∉ q := fun q hq hm => (hl.c 10 (by rw [e2]; exact List.mem_append_right _ (List.mem_flatten.2 ⟨q, hq, hm⟩))).1 rfl
    refine ⟨pcA p :: (P.map pcB ++ Q), ?_, fun L => ?_, fun q hq => ?_⟩
    · rw [List.map_cons, List.flatten_cons, e1]
      have ht := cts_tail P _ _ hPn h1
      have e : p ++ [13, 10] ++ (P.map (fun q => 32 :: (q ++ [13, 10]))).flatten ++ (LS.map fld).flatten = pcA p ++ 10 :: ((P.map (fun q => 32 :: (q ++ [13, 10]))).flatten ++ (LS.map fld).flatten) := by simp [pcA]
      rw [e]
      have hc := Tl.Cts.more (pcA p) _ _ (by simp [pcA, hpn]) ht
      rw [List.append_assoc] at *
      simpa using hc
    · have e : Tl.unf L (pcA p :: (P.map pcB ++ Q)) = Tl.unf (Tl.unf (Tl.step L (pcA p)) (P.map pcB)) Q := by
        unfold Tl.unf
        rw [List.foldl_cons, List.foldl_append]
      have hs : Tl.step L (pcA p) = L ++ [p] := by
        unfold Tl.step pcA
        rw [trim_pc]
        have hf : Tl.folded p = false := by
          have hp := e5 hl.ne
          cases p with
          | nil => exact absurd rfl hp
          | cons b p' =>
            have := hl.h b (by rw [e2]; rfl)
            show (b == 32 || b == 9) = false
            rw [Bool.or_eq_false_iff]
            exact ⟨beq_eq_false_iff_ne.2 this.1, beq_eq_false_iff_ne.2 this.2⟩
        rw [hf, if_neg (by simp)]
      rw [e, hs, unf_tail, h2, ← e2]
      simp
    · rcases List.mem_cons.1 hq with rfl | hq
      · simp only [pcA, List.length_append, List.length_cons, List.length_nil]; omega
      · rcases List.mem_append.1 hq with hq | hq
        · obtain ⟨y, hy, rfl⟩ := List.mem_map.1 hq
          have := e4 y hy
          simp only [pcB, List.length_append, List.length_cons, List.length_nil]; omega
        · exact h3 q hq
theorem cts_total {l : List UInt8} {C : List (List UInt8)} (h : Tl.Cts l C) : Tl.total C ≤ l.length := by
  induction h with
  | last l _ => simp [Tl.total]
  | more p r L _ _ ih =>
    simp only [Tl.total, List.map_cons, List.sum_cons, List.length_append, List.length_cons] at ih ⊢
    omega
/-- a printed part's text -/
theorem printed (t : PPt) (h : eT t = 0) : ∃ C : List (List UInt8), Tl.Cts (ptT t) C ∧ Tl.unf [] (Tl.strip C) = lnsT t ∧ ∀ q ∈ C, q.length ≤ 76 := by
  obtain ⟨Q, h1, h2, h3⟩ := lines_back (lnsT t) (lns_good t 1 (VT.of t 1 0 h))
  refine ⟨Q ++ [[]], by rw [ptT_flat]; exact h1, ?_, fun q hq => ?_⟩
  · rw [Tl.strip_snoc, if_pos rfl, h2, List.nil_append]
  · rcases List.mem_append.1 hq with hq | hq
    · exact h3 q hq
    · rw [List.mem_singleton] at hq
      subst hq
      simp
end Go.Proofs.YtponocolfjkapaaDoor
