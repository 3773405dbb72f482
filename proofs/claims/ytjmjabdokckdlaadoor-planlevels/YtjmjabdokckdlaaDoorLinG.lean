/- A region that draws its order and stores: as Lin, but the condition on the world is asked only as long as no store has come up. -/
import Derived.Test.YtjmjabdokckdlaaDoorLin
namespace Go.Proofs.YtjmjabdokckdlaaDoor
open Go Go.RowKit
set_option linter.unusedVariables false

section
variable {P : Program} {ops : Array Oper} {Q : Exit → Act → World → Prop} {S R T : World → Prop} {st : List Nat} {md : Region.Mode}

/-- a store has come up -/
def stored (st : List Nat) (listed : Array Bool) : Bool := st.any fun k => listed.getD k false
def SP (S R : World → Prop) (st : List Nat) (listed : Array Bool) (w : World) : Prop := R w ∧ (stored st listed = false → S w)

def wpAnyG (P : Program) (md : Region.Mode) (ops : Array Oper) (Q : Exit → Act → World → Prop) (S R : World → Prop) (st : List Nat) : Nat → Array Bool → Act → World → Prop
  | 0, listed, a, w => Region.ready md ops listed = [] ∧ Q .normal a w
  | fuel + 1, listed, a, w =>
    (Region.ready md ops listed = [] → Q .normal a w) ∧
    ∀ i ∈ Region.ready md ops listed, wpOp P ops Q i (fun a' w' => SP S R st (listed.setIfInBounds i true) w' ∧ wpAnyG P md ops Q S R st fuel (listed.setIfInBounds i true) a' w') a w

theorem wpAny_of_G : ∀ (fuel : Nat) (listed : Array Bool) (a : Act) (w : World), wpAnyG P md ops Q S R st fuel listed a w → wpAny P md ops Q fuel listed a w
  | 0, _, _, _, h => h
  | fuel + 1, _, _, _, h => ⟨h.1, fun i hi => wpOp_mono (fun a' w' h' => wpAny_of_G fuel _ a' w' h'.2) (h.2 i hi)⟩

theorem stored_set {listed : Array Bool} {i : Nat} (hi : i ∉ st) : stored st (listed.setIfInBounds i true) = stored st listed := by
  unfold stored
  induction st with
  | nil => rfl
  | cons k r ih =>
    simp only [List.any_cons]
    rw [ih (fun h => hi (List.mem_cons_of_mem _ h))]
    have : i ≠ k := fun e => hi (by rw [e]; exact List.mem_cons_self ..)
    rw [getD_set_ne false this]

theorem wpAnyG_first {i : Nat} {oi : Oper} {v : Value} (hi : ops[i]? = some oi) (hsel : ∀ (j : Nat) (o : Oper) cs b, ops[j]? = some o → o.op ≠ .select cs b)
    (hQ : ∀ c a w, Q (.panic c) (a.put oi.dst v) w → Q (.panic c) a w) (hist : i ∉ st)
    (hT : (∀ w, R w → T w) ∨ ((∀ w, S w → T w) ∧ ∀ k ∈ st, ∀ ok, ops[k]? = some ok → ∃ e ∈ ok.after, Region.binds md e = true ∧ e.on = i)) :
    ∀ (fuel : Nat) (listed : Array Bool) (a : Act) (w : World), ((∀ w, R w → T w) ∨ stored st listed = false) →
      (∀ j oj, ops[j]? = some oj → j ≠ i → listed.getD j true = false → (∀ e ∈ oj.after, Region.binds md e = true → e.on ≠ i) → oi.apart ops oj = true) →
      i ∈ Region.ready md ops listed → YieldsIf P ops T oi v a → T w → SP S R st listed w →
      wpAnyG P md ops Q S R st fuel (listed.setIfInBounds i true) (a.put oi.dst v) w → wpAnyG P md ops Q S R st (fuel + 1) listed a w := by
  intro fuel
  induction fuel with
  | zero =>
    intro listed a w hst hfree hr hy hTw hS H
    refine ⟨fun h => (by rw [h] at hr; cases hr), fun j hj => ?_⟩
    by_cases hji : j = i
    · subst hji; exact hy.wpOp hi hTw ⟨by unfold SP; rw [stored_set hist]; exact hS, H⟩
    · have := ready_mono hj hji
      rw [H.1] at this
      cases this
  | succ fuel ih =>
    intro listed a w hst hfree hr hy hTw hS H
    refine ⟨fun h => (by rw [h] at hr; cases hr), fun j hj => ?_⟩
    by_cases hji : j = i
    · subst hji; exact hy.wpOp hi hTw ⟨by unfold SP; rw [stored_set hist]; exact hS, H⟩
    · have h1 := H.2 j (ready_mono hj hji)
      obtain ⟨hjun, oj, hoj, hall⟩ := mem_ready.1 hj
      have hnot : ∀ e ∈ oj.after, Region.binds md e = true → e.on ≠ i := fun e he hb heq => by
        have h1 := hall e he hb
        have h0 := (mem_ready.1 hr).1
        rw [heq] at h1
        rcases Nat.lt_or_ge i listed.size with h' | h'
        · simp [h'] at h0 h1; rw [h0] at h1; cases h1
        · simp [Array.getElem?_eq_none h'] at h1
      have h2 := wpOp_putIf hoj (hfree j oj hoj hji hjun hnot) (fun cs b => hsel i oi cs b hi) (fun cs b => hsel j oj cs b hoj) hQ hy h1
      have hfree' : ∀ k ok, ops[k]? = some ok → k ≠ i → (listed.setIfInBounds j true).getD k true = false →
          (∀ e ∈ ok.after, Region.binds md e = true → e.on ≠ i) → oi.apart ops ok = true := fun k ok hk hki hun hno => by
        refine hfree k ok hk hki ?_ hno
        by_cases hjk : j = k
        · subst hjk; exact hjun
        · rw [getD_set_ne true hjk] at hun; exact hun
      have hst' : (∀ w, R w → T w) ∨ stored st (listed.setIfInBounds j true) = false := by
        rcases hT with hT | ⟨_, hw⟩
        · exact .inl hT
        · rcases hst with h | h
          · exact .inl h
          · refine .inr ?_
            rw [stored_set (fun hjs => ?_)]
            · exact h
            · obtain ⟨e, he, hb, ho⟩ := hw j hjs oj hoj
              exact hnot e he hb ho
      refine wpOp_mono (fun a' w' h3 => ?_) h2
      have hSP : SP S R st (listed.setIfInBounds j true) w' := by
        have := h3.2.1
        unfold SP at this ⊢
        rwa [Array.setIfInBounds_comm _ _ (Ne.symm hji), stored_set hist] at this
      have hTw' : T w' := by
        rcases hst' with h | h
        · exact h w' hSP.1
        · rcases hT with hT | ⟨hT, _⟩
          · exact hT w' hSP.1
          · exact hT w' (hSP.2 h)
      refine ⟨hSP, ih (listed.setIfInBounds j true) a' w' hst' hfree' (ready_mono hr (Ne.symm hji)) h3.1 hTw' hSP ?_⟩
      rw [Array.setIfInBounds_comm _ _ hji]
      exact h3.2.2

/-- number, the slot of the guard and what it must hold, the kind: 0 reads where S holds; 1 yields in whatever world; 2 is carried out, and S holds behind it; 3 is carried out once a store has come up, or is one, and R holds behind it; else reads where R holds. (S holds as long as no store has come up; R holds all along.) -/
abbrev GItem := Nat × Option (Nat × Bool) × Nat

def wpLinG (P : Program) (ops : Array Oper) (Q : Exit → Act → World → Prop) (S R : World → Prop) : List GItem → Act → World → Prop
  | [], a, w => Q .normal a w
  | (i, g, k) :: rest, a, w => wantedT g a.tmps ∧ ∃ o, ops[i]? = some o ∧
      match k with
      | 0 => S w ∧ ∃ v, (∀ w', S w' → (execOp a.eval o).run P w' = .ok (.value v) w') ∧ wpLinG P ops Q S R rest (a.put o.dst v) w
      | 1 => ∃ v, (∀ w', (execOp a.eval o).run P w' = .ok (.value v) w') ∧ wpLinG P ops Q S R rest (a.put o.dst v) w
      | 2 => o.wp P a w (fun a' w' => (R w' ∧ S w') ∧ wpLinG P ops Q S R rest a' w') Q
      | 3 => o.wp P a w (fun a' w' => R w' ∧ wpLinG P ops Q S R rest a' w') Q
      | _ => R w ∧ ∃ v, (∀ w', R w' → (execOp a.eval o).run P w' = .ok (.value v) w') ∧ wpLinG P ops Q S R rest (a.put o.dst v) w

def alone (l : List Nat) (i : Nat) : Bool := match l with | [k] => k == i | _ => false
theorem alone_eq {l : List Nat} {i : Nat} (h : alone l i = true) : l = [i] := by
  unfold alone at h
  split at h
  · simpa using h
  · cases h

def linOKG (ops : Array Oper) (st : List Nat) : Array Bool → List GItem → Bool
  | listed, [] => (Region.ready .any ops listed).isEmpty
  | listed, (i, g, k) :: rest => gOk ops i g && (match k with
      | 0 => !st.contains i && !stored st listed && (st.all fun k => match ops[k]? with | some ok => ok.after.any fun e => Region.binds .any e && e.on == i | none => true) && Region.free .any ops listed i && (Region.ready .any ops listed).contains i
      | 1 => !st.contains i && Region.free .any ops listed i && (Region.ready .any ops listed).contains i
      | 2 => alone (Region.ready .any ops listed) i
      | 3 => stored st (listed.setIfInBounds i true) && alone (Region.ready .any ops listed) i
      | _ => !st.contains i && Region.free .any ops listed i && (Region.ready .any ops listed).contains i) && linOKG ops st (listed.setIfInBounds i true) rest

theorem anyG_of_lin (hsel : Region.noSelect ops = true) (hQ : ∀ d v c a w, Q (.panic c) (Act.put a d v) w → Q (.panic c) a w) : ∀ (ord : List GItem) (listed : Array Bool) (a : Act) (w : World),
    linOKG ops st listed ord = true → SP S R st listed w → wpLinG P ops Q S R ord a w → wpAnyG P .any ops Q S R st ord.length listed a w
  | [], listed, a, w, hck, _, h => ⟨by simpa [linOKG] using hck, h⟩
  | (i, g, k) :: rest, listed, a, w, hck, hSP, h => by
    simp only [linOKG, Bool.and_eq_true] at hck
    obtain ⟨⟨h1, h2⟩, h3⟩ := hck
    obtain ⟨hw, o, ho, h⟩ := h
    have hwd := wanted_of_gOk ho h1 hw
    match k with
    | 0 =>
      simp only [Bool.and_eq_true, Bool.not_eq_true', List.all_eq_true] at h2
      obtain ⟨⟨⟨⟨c1, c2⟩, c3⟩, c4⟩, c5⟩ := h2
      obtain ⟨hS, v, hv, h⟩ := h
      have hist : i ∉ st := fun hm => by rw [List.contains_iff_mem.2 hm] at c1; cases c1
      refine wpAnyG_first (T := S) ho (Region.noSelect_spec hsel) (fun c a w hp => hQ o.dst v c a w hp) hist (.inr ⟨fun _ h => h, fun k hk ok hok => ?_⟩) _ listed a w (.inr c2) (Region.free_spec ho c4) (by simpa using c5) (.inl ⟨hwd, hv⟩) hS hSP (anyG_of_lin hsel hQ rest _ _ w h3 (by unfold SP; rw [stored_set hist]; exact hSP) h)
      have := c3 k hk
      rw [hok] at this
      simp only [Array.any_eq_true, Bool.and_eq_true, beq_iff_eq] at this
      obtain ⟨x, hx, hb, he⟩ := this
      exact ⟨_, Array.getElem_mem hx, hb, he⟩
    | 1 =>
      simp only [Bool.and_eq_true, Bool.not_eq_true'] at h2
      obtain ⟨⟨c1, c4⟩, c5⟩ := h2
      obtain ⟨v, hv, h⟩ := h
      have hist : i ∉ st := fun hm => by rw [List.contains_iff_mem.2 hm] at c1; cases c1
      exact wpAnyG_first (T := fun _ => True) ho (Region.noSelect_spec hsel) (fun c a w hp => hQ o.dst v c a w hp) hist (.inl fun _ _ => trivial) _ listed a w (.inl fun _ _ => trivial) (Region.free_spec ho c4) (by simpa using c5) (.inl ⟨hwd, fun w _ => hv w⟩) trivial hSP (anyG_of_lin hsel hQ rest _ _ w h3 (by unfold SP; rw [stored_set hist]; exact hSP) h)
    | 2 =>
      have hr := alone_eq h2
      refine ⟨fun h0 => (by rw [hr] at h0; cases h0), fun k hk => ?_⟩
      rw [hr, List.mem_singleton] at hk
      subst hk
      unfold wpOp
      simp only [ho, hwd, if_true]
      exact .inl (Oper.wp_mono (fun a' w' h' => ⟨⟨h'.1.1, fun _ => h'.1.2⟩, anyG_of_lin hsel hQ rest _ a' w' h3 ⟨h'.1.1, fun _ => h'.1.2⟩ h'.2⟩) h)
    | 3 =>
      simp only [Bool.and_eq_true] at h2
      have hr := alone_eq h2.2
      refine ⟨fun h0 => (by rw [hr] at h0; cases h0), fun k hk => ?_⟩
      rw [hr, List.mem_singleton] at hk
      subst hk
      have hv : ∀ w', R w' → SP S R st (listed.setIfInBounds k true) w' := fun w' hR => ⟨hR, fun h0 => (by rw [h2.1] at h0; cases h0)⟩
      unfold wpOp
      simp only [ho, hwd, if_true]
      exact .inl (Oper.wp_mono (fun a' w' h' => ⟨hv w' h'.1, anyG_of_lin hsel hQ rest _ a' w' h3 (hv w' h'.1) h'.2⟩) h)
    | k + 4 =>
      simp only [Bool.and_eq_true, Bool.not_eq_true'] at h2
      obtain ⟨⟨c1, c4⟩, c5⟩ := h2
      obtain ⟨hR, v, hv, h⟩ := h
      have hist : i ∉ st := fun hm => by rw [List.contains_iff_mem.2 hm] at c1; cases c1
      exact wpAnyG_first (T := R) ho (Region.noSelect_spec hsel) (fun c a w hp => hQ o.dst v c a w hp) hist (.inl fun _ h => h) _ listed a w (.inl fun _ h => h) (Region.free_spec ho c4) (by simpa using c5) (.inl ⟨hwd, hv⟩) hR hSP (anyG_of_lin hsel hQ rest _ _ w h3 (by unfold SP; rw [stored_set hist]; exact hSP) h)

theorem wp_region_linG {id : Nat} {a : Act} {w : World} (st : List Nat) (hm : P.follows .mixedOrders = true) (hsel : Region.noSelect ops = true) (ord : List GItem) (hlen : ord.length = ops.size) (hck : linOKG ops st (Array.replicate ops.size false) ord = true)
    (hQ : ∀ d v c a w, Q (.panic c) (Act.put a d v) w → Q (.panic c) a w) (hR : R w.drew) (hS : S w.drew) (h : ∀ ops' Q', ops' = ops → Q' = Q → wpLinG P ops' Q' S R ord a w.drew) : (Code.region id ops true).wp P Q a w := by
  refine wp_region_any hm (wpAny_of_G (S := S) (R := R) (st := st) _ _ _ _ ?_)
  have := anyG_of_lin hsel hQ ord _ a _ hck ⟨hR, fun _ => hS⟩ (h ops Q rfl rfl)
  rw [hlen] at this
  exact this

/-- one that reads where S holds -/
theorem wpLinG_read {i : Nat} {g : Option (Nat × Bool)} {rest : List GItem} {a : Act} {w : World} {o : Oper} {v : Value} (ho : ops[i]? = some o) (hw : wantedT g a.tmps) (hS : S w)
    (hv : ∀ w', S w' → (execOp a.eval o).run P w' = .ok (.value v) w') (h : wpLinG P ops Q S R rest (a.put o.dst v) w) : wpLinG P ops Q S R ((i, g, 0) :: rest) a w :=
  ⟨hw, o, ho, hS, v, hv, h⟩
/-- one that reads where R holds -/
theorem wpLinG_look {i : Nat} {g : Option (Nat × Bool)} {rest : List GItem} {a : Act} {w : World} {o : Oper} {v : Value} (ho : ops[i]? = some o) (hw : wantedT g a.tmps) (hR : R w)
    (hv : ∀ w', R w' → (execOp a.eval o).run P w' = .ok (.value v) w') (h : wpLinG P ops Q S R rest (a.put o.dst v) w) : wpLinG P ops Q S R ((i, g, 4) :: rest) a w :=
  ⟨hw, o, ho, hR, v, hv, h⟩
/-- one that yields in whatever world -/
theorem wpLinG_pure {i : Nat} {g : Option (Nat × Bool)} {rest : List GItem} {a : Act} {w : World} {o : Oper} {v : Value} (ho : ops[i]? = some o) (hw : wantedT g a.tmps)
    (hv : ∀ w', (execOp a.eval o).run P w' = .ok (.value v) w') (h : wpLinG P ops Q S R rest (a.put o.dst v) w) : wpLinG P ops Q S R ((i, g, 1) :: rest) a w :=
  ⟨hw, o, ho, v, hv, h⟩
/-- one that is carried out, S behind it -/
theorem wpLinG_do {i : Nat} {g : Option (Nat × Bool)} {rest : List GItem} {a : Act} {w : World} {o : Oper} (ho : ops[i]? = some o) (hw : wantedT g a.tmps)
    (h : ∀ K : Act → World → Prop, (∀ a' w', R w' → S w' → wpLinG P ops Q S R rest a' w' → K a' w') → o.wp P a w K Q) : wpLinG P ops Q S R ((i, g, 2) :: rest) a w :=
  ⟨hw, o, ho, h _ fun a' w' hr hs hl => ⟨⟨hr, hs⟩, hl⟩⟩
/-- a store -/
theorem wpLinG_store {i : Nat} {g : Option (Nat × Bool)} {rest : List GItem} {a : Act} {w : World} {o : Oper} (ho : ops[i]? = some o) (hw : wantedT g a.tmps)
    (h : ∀ K : Act → World → Prop, (∀ a' w', R w' → wpLinG P ops Q S R rest a' w' → K a' w') → o.wp P a w K Q) : wpLinG P ops Q S R ((i, g, 3) :: rest) a w :=
  ⟨hw, o, ho, h _ fun a' w' hr hl => ⟨hr, hl⟩⟩
/-! The check, by a mask. -/
theorem stored_eq {listed : Array Bool} {m : Nat} (h : Rel ops listed m) : stored st listed = st.any fun k => m.testBit k := by
  unfold stored
  congr 1
  funext k
  exact h.getF k
def linOKGM (ops : Array Oper) (L : List Oper) (st : List Nat) : Nat → List GItem → Bool
  | m, [] => (readyL m 0 L).isEmpty
  | m, (i, g, k) :: rest => gOk ops i g && (match k with
      | 0 => (!st.contains i && !(st.any fun k => m.testBit k) && (st.all fun k => match ops[k]? with | some ok => ok.after.any fun e => Region.binds .any e && e.on == i | none => true)) && (match ops[i]? with | some oi => !m.testBit i && rdy m oi && freeL ops m i oi 0 L | none => false)
      | 1 => !st.contains i && (match ops[i]? with | some oi => !m.testBit i && rdy m oi && freeL ops m i oi 0 L | none => false)
      | 2 => alone (readyL m 0 L) i
      | 3 => (st.any fun k => (m ||| (1 <<< i)).testBit k) && alone (readyL m 0 L) i
      | _ => !st.contains i && (match ops[i]? with | some oi => !m.testBit i && rdy m oi && freeL ops m i oi 0 L | none => false)) && linOKGM ops L st (m ||| (1 <<< i)) rest
theorem quiet_of {listed : Array Bool} {m i : Nat} (h : Rel ops listed m) (h2 : (match ops[i]? with | some oi => !m.testBit i && rdy m oi && freeL ops m i oi 0 ops.toList | none => false) = true) : Region.free .any ops listed i = true ∧ (Region.ready .any ops listed).contains i = true := by
  cases ho : ops[i]? with
  | none => rw [ho] at h2; cases h2
  | some oi =>
    rw [ho] at h2
    simp only [Bool.and_eq_true, Bool.not_eq_true'] at h2
    exact ⟨free_of h ho h2.2, mem_of h ho h2.1.1 h2.1.2⟩
theorem linOKG_of_M : ∀ (ord : List GItem) (listed : Array Bool) (m : Nat), Rel ops listed m → linOKGM ops ops.toList st m ord = true → linOKG ops st listed ord = true
  | [], listed, m, h, hc => by simp only [linOKG, linOKGM] at hc ⊢; rw [ready_eq h]; exact hc
  | (i, g, k) :: rest, listed, m, h, hc => by
    simp only [linOKGM, Bool.and_eq_true] at hc
    obtain ⟨⟨h1, h2⟩, h3⟩ := hc
    have hlt : i < ops.size := by
      unfold gOk at h1
      cases ho : ops[i]? with
      | none => rw [ho] at h1; cases h1
      | some o => exact (Array.getElem?_eq_some_iff.1 ho).1
    have hn := linOKG_of_M rest _ _ (h.set i hlt) h3
    simp only [linOKG, Bool.and_eq_true]
    refine ⟨⟨h1, ?_⟩, hn⟩
    match k with
    | 0 =>
      simp only [Bool.and_eq_true] at h2 ⊢
      obtain ⟨⟨⟨c1, c2⟩, c3⟩, c4⟩ := h2
      have hq := quiet_of h c4
      exact ⟨⟨⟨⟨c1, by rw [stored_eq h]; exact c2⟩, c3⟩, hq.1⟩, hq.2⟩
    | 1 =>
      simp only [Bool.and_eq_true] at h2 ⊢
      have hq := quiet_of h h2.2
      exact ⟨⟨h2.1, hq.1⟩, hq.2⟩
    | 2 =>
      simp only at h2 ⊢
      rw [ready_eq h]
      exact h2
    | 3 =>
      simp only [Bool.and_eq_true] at h2 ⊢
      rw [stored_eq (h.set i hlt), ready_eq h]
      exact h2
    | k + 4 =>
      simp only [Bool.and_eq_true] at h2 ⊢
      have hq := quiet_of h h2.2
      exact ⟨⟨h2.1, hq.1⟩, hq.2⟩
theorem wp_region_linGM {id : Nat} {a : Act} {w : World} (st : List Nat) (hm : P.follows .mixedOrders = true) (hsel : Region.noSelect ops = true) (ord : List GItem) (hlen : ord.length = ops.size) (hck : linOKGM ops ops.toList st 0 ord = true)
    (hQ : ∀ d v c a w, Q (.panic c) (Act.put a d v) w → Q (.panic c) a w) (hR : R w.drew) (hS : S w.drew) (h : ∀ ops' Q', ops' = ops → Q' = Q → wpLinG P ops' Q' S R ord a w.drew) : (Code.region id ops true).wp P Q a w :=
  wp_region_linG st hm hsel ord hlen (linOKG_of_M ord _ 0 Rel.start hck) hQ hR hS h
end
end Go.Proofs.YtjmjabdokckdlaaDoor
