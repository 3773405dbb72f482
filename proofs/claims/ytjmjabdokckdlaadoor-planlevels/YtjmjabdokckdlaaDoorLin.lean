/- A region that draws its order, walked in one order of ours: the operations that only read are taken as soon as they may come up, the others one at a time. -/
import Derived.Test.YtjmjabdokckdlaaDoorBase
import Derived.OrdersHeld
namespace Go.Proofs.YtjmjabdokckdlaaDoor
open Go Go.RowKit
set_option linter.unusedVariables false

section
variable {P : Program} {ops : Array Oper} {Q : Exit → Act → World → Prop} {S : World → Prop}

/-- number, the slot of the guard and what it must hold, is it carried out (else: it only reads) -/
abbrev LinItem := Nat × Option (Nat × Bool) × Bool

def gOk (ops : Array Oper) (i : Nat) (g : Option (Nat × Bool)) : Bool :=
  match ops[i]? with
  | none => false
  | some o => match o.guard, g with
    | none, none => true
    | some (j, b), some (s, b') => (match (ops[j]?).bind (·.dst) with | some d => d == s | none => false) && b == b'
    | _, _ => false

def wantedT (g : Option (Nat × Bool)) (t : Array Value) : Prop :=
  match g with
  | none => True
  | some (s, b) => t[s]? = some (.bool b)

theorem wanted_of_gOk {i : Nat} {o : Oper} {g : Option (Nat × Bool)} {t : Array Value} (ho : ops[i]? = some o) (h : gOk ops i g = true) (hw : wantedT g t) : Region.wanted o (yielded ops t) = true := by
  unfold gOk at h
  rw [ho] at h
  simp only at h
  unfold Region.wanted
  cases hg : o.guard with
  | none => rfl
  | some p =>
    obtain ⟨j, b⟩ := p
    rw [hg] at h
    cases g with
    | none => simp at h
    | some q =>
      obtain ⟨s, b'⟩ := q
      simp only [Bool.and_eq_true, beq_iff_eq] at h
      obtain ⟨h1, rfl⟩ := h
      simp only [wantedT] at hw
      simp only [yielded]
      cases hd : (ops[j]?).bind (·.dst) with
      | none => rw [hd] at h1; simp at h1
      | some d =>
        rw [hd] at h1
        simp only [beq_iff_eq] at h1
        subst h1
        simp [hw]

def wpLin (P : Program) (ops : Array Oper) (Q : Exit → Act → World → Prop) (S : World → Prop) : List LinItem → Act → World → Prop
  | [], a, w => Q .normal a w
  | (i, g, c) :: rest, a, w => wantedT g a.tmps ∧ S w ∧ ∃ o, ops[i]? = some o ∧
      if c = true then o.wp P a w (fun a' w' => S w' ∧ wpLin P ops Q S rest a' w') Q
      else ∃ v, (∀ w', S w' → (execOp a.eval o).run P w' = .ok (.value v) w') ∧ wpLin P ops Q S rest (a.put o.dst v) w

def linOK (ops : Array Oper) : Array Bool → List LinItem → Bool
  | listed, [] => (Region.ready .any ops listed).isEmpty
  | listed, (i, g, c) :: rest => gOk ops i g && (if c then (match Region.ready .any ops listed with | [k] => k == i | _ => false) else Region.free .any ops listed i && (Region.ready .any ops listed).contains i) && linOK ops (listed.setIfInBounds i true) rest

theorem anyH_of_lin (hsel : Region.noSelect ops = true) (hQ : ∀ d v c a w, Q (.panic c) (Act.put a d v) w → Q (.panic c) a w) : ∀ (ord : List LinItem) (listed : Array Bool) (a : Act) (w : World),
    linOK ops listed ord = true → wpLin P ops Q S ord a w → wpAnyH P .any ops Q S ord.length listed a w
  | [], listed, a, w, hck, h => wpAnyH_done (by simpa [linOK] using hck) h _
  | (i, g, c) :: rest, listed, a, w, hck, h => by
    simp only [linOK, Bool.and_eq_true] at hck
    obtain ⟨⟨h1, h2⟩, h3⟩ := hck
    obtain ⟨hw, hS, o, ho, h⟩ := h
    have hwd := wanted_of_gOk ho h1 hw
    cases c with
    | true =>
      simp only [if_true] at h h2
      refine wpAnyH_all (rs := [i]) ?_ (by simp) fun k hk => ?_
      · split at h2
        · rename_i k hk
          rw [hk]
          simpa using h2
        · simp at h2
      · rw [List.mem_singleton] at hk
        subst hk
        unfold wpOp
        simp only [ho, hwd, if_true]
        exact .inl (Oper.wp_mono (fun a' w' h' => ⟨h'.1, anyH_of_lin hsel hQ rest _ a' w' h3 h'.2⟩) h)
    | false =>
      simp only [Bool.false_eq_true, if_false, Bool.and_eq_true] at h h2
      obtain ⟨v, hv, h⟩ := h
      exact wpAnyH_take ho hsel h2.1 h2.2 (fun c a w hp => hQ o.dst v c a w hp) (.inl ⟨hwd, hv⟩) hS (anyH_of_lin hsel hQ rest _ _ w h3 h)

theorem wp_region_lin {id : Nat} {a : Act} {w : World} (hm : P.follows .mixedOrders = true) (hsel : Region.noSelect ops = true) (ord : List LinItem) (hlen : ord.length = ops.size) (hck : linOK ops (Array.replicate ops.size false) ord = true)
    (hQ : ∀ d v c a w, Q (.panic c) (Act.put a d v) w → Q (.panic c) a w) (h : ∀ ops' Q', ops' = ops → Q' = Q → wpLin P ops' Q' S ord a w.drew) : (Code.region id ops true).wp P Q a w := by
  refine wp_region_held (S := S) hm ?_
  have := anyH_of_lin hsel hQ ord _ a _ hck (h ops Q rfl rfl)
  rw [hlen] at this
  exact this

/-- one that only reads -/
theorem wpLin_quiet {i : Nat} {g : Option (Nat × Bool)} {rest : List LinItem} {a : Act} {w : World} {o : Oper} {v : Value} (ho : ops[i]? = some o) (hw : wantedT g a.tmps) (hS : S w)
    (hv : ∀ w', S w' → (execOp a.eval o).run P w' = .ok (.value v) w') (h : wpLin P ops Q S rest (a.put o.dst v) w) : wpLin P ops Q S ((i, g, false) :: rest) a w :=
  ⟨hw, hS, o, ho, by simp only [Bool.false_eq_true, if_false]; exact ⟨v, hv, h⟩⟩
/-- one that is carried out -/
theorem wpLin_do {i : Nat} {g : Option (Nat × Bool)} {rest : List LinItem} {a : Act} {w : World} {o : Oper} (ho : ops[i]? = some o) (hw : wantedT g a.tmps) (hS : S w)
    (h : ∀ K : Act → World → Prop, (∀ a' w', S w' → wpLin P ops Q S rest a' w' → K a' w') → o.wp P a w K Q) : wpLin P ops Q S ((i, g, true) :: rest) a w :=
  ⟨hw, hS, o, ho, by simp only [if_true]; exact h _ fun a' w' hs hl => ⟨hs, hl⟩⟩
/-! The check, by a number's bits: what has come up is a mask. -/
def rdy (m : Nat) (o : Oper) : Bool := o.after.toList.all fun e => !Region.binds .any e || m.testBit e.on
def readyL (m : Nat) : Nat → List Oper → List Nat
  | _, [] => []
  | k, o :: r => if (!m.testBit k && rdy m o) = true then k :: readyL m (k + 1) r else readyL m (k + 1) r
def freeL (ops : Array Oper) (m i : Nat) (oi : Oper) : Nat → List Oper → Bool
  | _, [] => true
  | k, o :: r => (k == i || m.testBit k || (o.after.toList.any fun e => Region.binds .any e && e.on == i) || oi.apart ops o) && freeL ops m i oi (k + 1) r
def linOKM (ops : Array Oper) (L : List Oper) : Nat → List LinItem → Bool
  | m, [] => (readyL m 0 L).isEmpty
  | m, (i, g, c) :: rest => gOk ops i g && (if c then (match readyL m 0 L with | [k] => k == i | _ => false) else (match ops[i]? with | some oi => !m.testBit i && rdy m oi && freeL ops m i oi 0 L | none => false)) && linOKM ops L (m ||| (1 <<< i)) rest
/-- the mask says what the array says -/
structure Rel (ops : Array Oper) (listed : Array Bool) (m : Nat) : Prop where
  size : listed.size = ops.size
  bit : ∀ j, j < ops.size → listed[j]? = some (m.testBit j)
  out : ∀ j, ops.size ≤ j → m.testBit j = false
theorem Rel.getF {listed : Array Bool} {m : Nat} (h : Rel ops listed m) (j : Nat) : listed.getD j false = m.testBit j := by
  rw [Array.getD_eq_getD_getElem?]
  rcases Nat.lt_or_ge j ops.size with hj | hj
  · rw [h.bit j hj]; rfl
  · rw [Array.getElem?_eq_none (by rw [h.size]; exact hj), h.out j hj]; rfl
theorem Rel.getT {listed : Array Bool} {m : Nat} (h : Rel ops listed m) (j : Nat) (hj : j < ops.size) : listed.getD j true = m.testBit j := by
  rw [Array.getD_eq_getD_getElem?, h.bit j hj]; rfl
theorem Rel.set {listed : Array Bool} {m : Nat} (h : Rel ops listed m) (i : Nat) (hi : i < ops.size) : Rel ops (listed.setIfInBounds i true) (m ||| (1 <<< i)) := by
  refine ⟨by rw [Array.size_setIfInBounds]; exact h.size, fun j hj => ?_, fun j hj => ?_⟩
  · rw [Array.getElem?_setIfInBounds, Nat.testBit_or, Nat.one_shiftLeft, Nat.testBit_two_pow]
    by_cases he : i = j
    · subst he
      simp [h.size, hi]
    · rw [if_neg he, h.bit j hj]
      simp [he]
  · rw [Nat.testBit_or, Nat.one_shiftLeft, Nat.testBit_two_pow, h.out j hj]
    have : i ≠ j := by omega
    simp [this]
theorem Rel.start : Rel ops (Array.replicate ops.size false) 0 := ⟨by simp, fun j hj => by simp [hj], fun j _ => by simp⟩
theorem rdy_eq {listed : Array Bool} {m : Nat} (h : Rel ops listed m) (o : Oper) : (o.after.all fun e => !Region.binds .any e || listed.getD e.on false) = rdy m o := by
  unfold rdy
  rw [← Array.all_toList]
  congr 1
  funext e
  rw [h.getF]
theorem readyL_eq {m : Nat} (f : Nat → Bool) : ∀ (l : List Oper) (k : Nat), (∀ j o, l[j]? = some o → f (k + j) = (!m.testBit (k + j) && rdy m o)) → readyL m k l = (List.range' k l.length).filter f
  | [], k, _ => rfl
  | o :: r, k, h => by
    have h0 := h 0 o rfl
    rw [Nat.add_zero] at h0
    have ih := readyL_eq f r (k + 1) fun j o' hj => by have := h (j + 1) o' (by simpa using hj); rw [show k + (j + 1) = k + 1 + j by omega] at this; exact this
    rw [List.length_cons, List.range'_succ, List.filter_cons, h0, readyL, ih]
theorem ready_eq {listed : Array Bool} {m : Nat} (h : Rel ops listed m) : Region.ready .any ops listed = readyL m 0 ops.toList := by
  unfold Region.ready
  rw [List.range_eq_range', ← Array.length_toList]
  refine (readyL_eq _ ops.toList 0 fun j o hj => ?_).symm
  have hj' : ops[j]? = some o := by simpa using hj
  have hlt := (Array.getElem?_eq_some_iff.1 hj').1
  rw [Nat.zero_add]
  simp only [hj', Option.map_some, Option.getD_some]
  rw [h.getT j hlt, rdy_eq h]
theorem freeL_eq {listed : Array Bool} {m i : Nat} {oi : Oper} (h : Rel ops listed m) : ∀ (l : List Oper) (k : Nat), (∀ j o, l[j]? = some o → ops[k + j]? = some o) → freeL ops m i oi k l = true → ∀ j o, l[j]? = some o → (k + j == i || listed.getD (k + j) true || (o.after.any (fun e => Region.binds .any e && e.on == i) || oi.apart ops o)) = true
  | [], k, _, _, j, o, hj => by simp at hj
  | o :: r, k, ho, hf, 0, o', hj => by
    obtain rfl : o = o' := by simpa using hj
    have hk := ho 0 o rfl
    have hlt := (Array.getElem?_eq_some_iff.1 hk).1
    simp only [freeL, Bool.and_eq_true] at hf
    rw [h.getT _ hlt, Nat.add_zero, ← Array.any_toList]
    have := hf.1
    simp only [Bool.or_assoc] at this ⊢
    exact this
  | o :: r, k, ho, hf, j + 1, o', hj => by
    simp only [freeL, Bool.and_eq_true] at hf
    have := freeL_eq h r (k + 1) (fun j o hj => by have := ho (j + 1) o (by simpa using hj); rw [show k + (j + 1) = k + 1 + j by omega] at this; exact this) hf.2 j o' (by simpa using hj)
    rw [show k + (j + 1) = k + 1 + j by omega]
    exact this
theorem free_of {listed : Array Bool} {m i : Nat} {oi : Oper} (h : Rel ops listed m) (hi : ops[i]? = some oi) (hf : freeL ops m i oi 0 ops.toList = true) : Region.free .any ops listed i = true := by
  simp only [Region.free, hi, List.all_eq_true, List.mem_range]
  intro j hj
  have := freeL_eq h ops.toList 0 (fun j o hj => by rw [Nat.zero_add]; simpa using hj) hf j ops[j] (by simp [hj])
  rw [Nat.zero_add] at this
  simp only [Array.getElem?_eq_getElem hj]
  exact this
theorem mem_of {listed : Array Bool} {m i : Nat} {oi : Oper} (h : Rel ops listed m) (hi : ops[i]? = some oi) (h1 : m.testBit i = false) (h2 : rdy m oi = true) : (Region.ready .any ops listed).contains i = true := by
  have hlt := (Array.getElem?_eq_some_iff.1 hi).1
  rw [List.contains_iff_mem]
  unfold Region.ready
  rw [List.mem_filter, List.mem_range]
  refine ⟨hlt, ?_⟩
  simp only [hi, Option.map_some, Option.getD_some]
  rw [h.getT i hlt, rdy_eq h, h1, h2]
  rfl
theorem linOK_of_M : ∀ (ord : List LinItem) (listed : Array Bool) (m : Nat), Rel ops listed m → linOKM ops ops.toList m ord = true → linOK ops listed ord = true
  | [], listed, m, h, hc => by simp only [linOK, linOKM] at hc ⊢; rw [ready_eq h]; exact hc
  | (i, g, c) :: rest, listed, m, h, hc => by
    simp only [linOKM, Bool.and_eq_true] at hc
    obtain ⟨⟨h1, h2⟩, h3⟩ := hc
    have hlt : i < ops.size := by
      unfold gOk at h1
      cases ho : ops[i]? with
      | none => rw [ho] at h1; cases h1
      | some o => exact (Array.getElem?_eq_some_iff.1 ho).1
    simp only [linOK, Bool.and_eq_true]
    refine ⟨⟨h1, ?_⟩, linOK_of_M rest _ _ (h.set i hlt) h3⟩
    cases c with
    | true =>
      simp only [if_true] at h2 ⊢
      rw [ready_eq h]
      exact h2
    | false =>
      simp only [Bool.false_eq_true, if_false] at h2 ⊢
      cases ho : ops[i]? with
      | none => rw [ho] at h2; cases h2
      | some oi =>
        rw [ho] at h2
        simp only [Bool.and_eq_true, Bool.not_eq_true'] at h2
        simp only [Bool.and_eq_true]
        exact ⟨free_of h ho h2.2, mem_of h ho h2.1.1 h2.1.2⟩
theorem wp_region_linM {id : Nat} {a : Act} {w : World} (hm : P.follows .mixedOrders = true) (hsel : Region.noSelect ops = true) (ord : List LinItem) (hlen : ord.length = ops.size) (hck : linOKM ops ops.toList 0 ord = true)
    (hQ : ∀ d v c a w, Q (.panic c) (Act.put a d v) w → Q (.panic c) a w) (h : ∀ ops' Q', ops' = ops → Q' = Q → wpLin P ops' Q' S ord a w.drew) : (Code.region id ops true).wp P Q a w :=
  wp_region_lin hm hsel ord hlen (linOK_of_M ord _ 0 Rel.start hck) hQ h
end
end Go.Proofs.YtjmjabdokckdlaaDoor
