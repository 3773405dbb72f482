/- strings.IndexAny of two or three ASCII marks (or one), at any text: where the first one stands. -/
import Derived.Test.YtponocolfjkapaaDoorMTextBackUpto16
import Derived.Test.YtponocolfjkapaaDoorMTextBackUpto3
namespace Go.Proofs.YtponocolfjkapaaDoor
open Go.RowKit Go.Shelf
set_option linter.unusedVariables false
set_option linter.unusedSimpArgs false

def isE (b : UInt8) : Bool := b == 44 || b == 59 || b == 58
def anyE (s : ByteArray) : Bool := (Tl.tx s).any isE
theorem anyE_eq (s : ByteArray) : anyE s = (hasB s 44 || hasB s 59 || hasB s 58) := by
  unfold anyE hasB isE
  induction Tl.tx s with
  | nil => rfl
  | cons b l ih =>
    rw [List.any_cons, List.any_cons, List.any_cons, List.any_cons, ih]
    cases (b == 44) <;> cases (b == 59) <;> cases (b == 58) <;> simp
theorem idx_list (cs : List UInt8) : ∀ l : List UInt8, decide (0 ≤ Lib.indexAny l cs) = l.any (cs.contains ·)
  | [] => rfl
  | b :: l => by
    have ih := idx_list cs l
    have lo := Lib.indexAny_ge cs l
    rw [List.any_cons, ← ih, Lib.indexAny]
    generalize Lib.indexAny l cs = r at *
    cases h : cs.contains b
    · rw [Bool.false_or, if_neg (by simp), decide_eq_decide]
      by_cases e : r = -1
      · subst e; simp
      · rw [if_neg (by simpa using e)]; omega
    · simp
theorem ends_contains (b : UInt8) : ([44, 59, 58] : List UInt8).contains b = isE b := by
  unfold isE
  rw [Bool.eq_iff_iff]
  simp [or_assoc]
/-- a range's state moved on -/
def setIt (W : World) (b : Nat) (s : ByteArray) (pos : Nat) : World := { W with heap := W.heap.setIfInBounds b (.stringIter s pos) }
theorem setIt_at {W : World} {b : Nat} {s : ByteArray} {pos : Nat} (h : b < W.heap.size) : (setIt W b s pos).heap[b]? = some (.stringIter s pos) := by
  unfold setIt
  simp [h]
theorem setIt_below {W : World} {n b : Nat} {s : ByteArray} {pos : Nat} (h : n ≤ b) : Below n W (setIt W b s pos) :=
  ⟨rfl, rfl, rfl, by simp [setIt], fun k hk => by simp only [setIt]; rw [Array.getElem?_setIfInBounds_ne (by omega)]⟩
section
variable {P : Program}
theorem next_at (W : World) (b : Nat) (s : ByteArray) (pos : Nat) (ty : TypeId) (hb : W.heap[b]? = some (.stringIter s pos)) (h : pos < s.size) :
    (Instr.next (.pointer (some ⟨b, 0, none⟩)) true ty).run P W = .ok (.tuple #[.bool true, .int .i64 pos, .int .i32 (Utf8.decode s pos).1]) (setIt W b s (pos + (Utf8.decode s pos).2)) := by
  simp only [Instr.next, getObj, setObj, Sem.run_bind, Sem.run, hb, Result.andThen, h, if_true]
  simp [goInt, Sem.run, hb, setIt]
theorem next_done (W : World) (b : Nat) (s : ByteArray) (pos : Nat) (ty : TypeId) (hb : W.heap[b]? = some (.stringIter s pos)) (h : ¬ pos < s.size) :
    (Instr.next (.pointer (some ⟨b, 0, none⟩)) true ty).run P W = .ok (.tuple #[.bool false]) W := by
  simp [Instr.next, getObj, Sem.run, hb, h]
end
/-- IndexRune in what ends a value, at a text's next character -/
theorem idxEnds (s : ByteArray) (pos : Nat) (h : pos < s.size) (W : World) : Calls Tryd.prog 76 #[.string ends3, .int .i32 (Utf8.decode s pos).1] W fun e w' => (∃ i : Int, e = .returned (.int .i64 i) ∧ decide (0 ≤ i) = isE s[pos]) ∧ Below W.heap.size W w' := by
  by_cases ha : (s[pos]).toNat < 128
  · rw [decode_ascii s pos h ha]
    refine (Tryd.strings_IndexRune_ascii ends3 _ W (by omega) (by omega)).mono ?_
    rintro e w' ⟨rfl, rfl⟩
    refine ⟨⟨_, rfl, ?_⟩, Below.refl _ _⟩
    rw [idx_any, show ((s[pos].toNat : Int)).toNat.toUInt8 = s[pos] by simp]
    rw [show ends3.data.toList = [44, 59, 58] from rfl]
    unfold isE
    simp only [List.any_cons, List.any_nil, Bool.or_false]
    rw [Bool.or_assoc, show ((44 : UInt8) == s[pos]) = (s[pos] == 44) from BEq.comm, show ((59 : UInt8) == s[pos]) = (s[pos] == 59) from BEq.comm, show ((58 : UInt8) == s[pos]) = (s[pos] == 58) from BEq.comm]
  · have hn : isE s[pos] = false := by
      unfold isE
      have : ∀ c : UInt8, c.toNat < 128 → (s[pos] == c) = false := fun c hc => by
        rw [beq_eq_false_iff_ne]; intro e; rw [e] at ha; omega
      rw [this 44 (by decide), this 59 (by decide), this 58 (by decide)]; rfl
    obtain ⟨d1, d2, _⟩ := dec_hi s pos h (by omega)
    rw [hn]
    by_cases hb : (Utf8.decode s pos).1 = 65533
    · rw [hb]
      exact (idxRune_bad W).mono fun e w' ⟨he, hw⟩ => ⟨⟨-1, he, rfl⟩, hw⟩
    · refine (idxRune_hi ends3 rfl ?_ _ d1 hb (d2.resolve_left hb) W).mono fun e w' ⟨he, hw⟩ => ⟨⟨-1, he, rfl⟩, hw⟩
      intro b hb
      have h5 : b = 44 ∨ b = 59 ∨ b = 58 := by simpa [ends3, Tl.tx] using hb
      rcases h5 with rfl | rfl | rfl <;> decide
/-- a character's bytes are none of these, where its first one is none -/
theorem skip_ok (s : ByteArray) (pos : Nat) (h : pos < s.size) (hE : isE s[pos] = false) : pos + (Utf8.decode s pos).2 ≤ s.size ∧ 1 ≤ (Utf8.decode s pos).2 ∧ ∀ k (hk : k < s.size), pos ≤ k → k < pos + (Utf8.decode s pos).2 → isE s[k] = false := by
  by_cases ha : (s[pos]).toNat < 128
  · rw [decode_ascii s pos h ha]
    refine ⟨h, Nat.le_refl _, fun k hk h1 h2 => ?_⟩
    obtain rfl : k = pos := by omega
    exact hE
  · obtain ⟨d1, d2, d3, d4, d5⟩ := dec_hi s pos h (by omega)
    refine ⟨d4, d3, fun k hk h1 h2 => ?_⟩
    have h5 := d5 (k - pos) (by omega)
    rw [show pos + (k - pos) = k by omega] at h5
    have g0 : s.get! k = s[k] := by
      cases s with
      | mk data => exact getElem!_pos data k hk
    rw [g0] at h5
    unfold isE
    have : ∀ c : UInt8, c.toNat < 128 → (s[k] == c) = false := fun c hc => by
      rw [beq_eq_false_iff_ne]; intro e; rw [e] at h5; omega
    rw [this 44 (by decide), this 59 (by decide), this 58 (by decide)]; rfl
set_option maxRecDepth 100000 in
set_option maxHeartbeats 8000000 in
theorem indexAny_short (s : ByteArray) (w : World) (h8 : s.size ≤ 8) :
    Calls Tryd.prog 69 #[.string s, .string ends3] w fun e w' => (∃ i : Int, e = .returned (.int .i64 i) ∧ decide (0 ≤ i) = anyE s) ∧ Below w.heap.size w w' := by
  have HY : Hid (∀ k (hk : k < s.size), isE s[k] = true → anyE s = true) := fun k hk he => by
    unfold anyE
    rw [List.any_eq_true]
    exact ⟨s[k], List.mem_iff_getElem.2 ⟨k, by rw [Tl.tx_len]; exact hk, rfl⟩, he⟩
  have HN : Hid ((∀ k (hk : k < s.size), isE s[k] = false) → anyE s = false) := fun h => by
    unfold anyE
    rw [List.any_eq_false]
    intro b hb
    obtain ⟨k, hk, rfl⟩ := List.mem_iff_getElem.1 hb
    rw [Tl.tx_len] at hk
    have := h k hk
    exact fun e => by rw [show (Tl.tx s)[k] = s[k] from rfl, this] at e; cases e
  generalize anyE s = R at *
  have KI := hide (fun pos (h : pos < s.size) W => idxEnds s pos h W)
  have HK := hide (fun pos (h : pos < s.size) (hE : isE s[pos] = false) => skip_ok s pos h hE)
  have KS : Hid (∀ W, Calls Tryd.prog 77 #[.int .i64 s.size] W fun e w' => e = .returned (.bool false) ∧ w' = W) := fun W => by
    have h := Tryd.strings_shouldUseASCIISet s.size W
    rw [decide_eq_false (by omega)] at h
    exact h
  have hz : ends3.size = 3 := rfl
  have hz2 : ends3.toList.isEmpty = false := by rw [show ends3.toList = [44, 59, 58] by rw [ByteArray.toList_eq]; rfl]; rfl
  have hz3 : (ends3.toList == []) = false := by rw [show ends3.toList = [44, 59, 58] by rw [ByteArray.toList_eq]; rfl]; rfl
  generalize ends3 = E at *
  clear h8
  go_enter Tryd.func69, Tryd.ntmps69
  go_wp2_with (go_at_call 77; refine (KS.out _).mono ?_; rintro e X ⟨rfl, rfl⟩)
  go_loopw [9, 10] (fun _ _ wx => ∃ i : Nat, i ≤ s.size ∧ wx.heap[X.heap.size]? = some (.stringIter s i) ∧ Below X.heap.size X wx ∧ ∀ k (hk : k < s.size), k < i → isE s[k] = false) (fun _ _ wx => s.size - wx.iterPos X.heap.size)
  case atStart => exact ⟨0, by omega, World.iter_heap X s 0, (Below.refl _ X).alloc (Nat.le_refl _) _, fun k hk h => by omega⟩
  case round =>
    obtain ⟨i, hi, hb, hB, hall⟩ := hrel
    have hpos : wr.iterPos X.heap.size = i := by simp [World.iterPos, hb]
    by_cases hlt : i < s.size
    · have hn := fun ty => next_at (P := Tryd.prog) wr X.heap.size s i ty hb hlt
      have hB2 : Below X.heap.size X (setIt wr X.heap.size s (i + (Utf8.decode s i).2)) := hB.trans (setIt_below (Nat.le_refl _))
      have hb2 : (setIt wr X.heap.size s (i + (Utf8.decode s i).2)).heap[X.heap.size]? = some (.stringIter s (i + (Utf8.decode s i).2)) := setIt_at (Array.getElem?_eq_some_iff.1 hb).1
      have hsk := HK.out i hlt
      have KI2 := hide (KI.out i hlt)
      have HH := hide hall
      have HB2 := hide (And.intro hB2 hb2)
      clear hall hB2 hb2 hb hB
      cases hE : isE s[i]
      · obtain ⟨n1, n2, n3⟩ := hsk hE
        have HN3 := hide n3
        clear hsk n3
        rw [hE] at KI2
        generalize Utf8.decode s i = dr at *
        go_wp2_with fail
        refine (KI2.out _).mono ?_
        rintro e W3 ⟨⟨x, rfl, hx⟩, b3⟩
        have hx2 : ¬ 0 ≤ x := by simpa using hx
        obtain ⟨hB2, hb2⟩ := HB2.out
        have hb3 := (b3.block _ (Array.getElem?_eq_some_iff.1 hb2).1).trans hb2
        have hB3 := hB2.trans (b3.mono hB2.size)
        have hp3 : W3.iterPos X.heap.size = i + dr.2 := by simp [World.iterPos, hb3]
        have HB3 := hide (And.intro hB3 hb3)
        clear hx b3 hB2 hb2 hB3 hb3 HB2
        go_wp2
        go_roundw
        case rel => exact ⟨i + dr.2, n1, HB3.out.2, HB3.out.1, fun k hk hk2 => by
          by_cases h : k < i
          · exact HH.out k hk h
          · exact HN3.out k hk (by omega) hk2⟩
        case measure => rw [hp3, hpos]; omega
      · have hR := HY.out i hlt hE
        subst hR
        rw [hE] at KI2
        clear hsk
        generalize Utf8.decode s i = dr at *
        go_wp2_with fail
        refine (KI2.out _).mono ?_
        rintro e W3 ⟨⟨x, rfl, hx⟩, b3⟩
        have hx2 : 0 ≤ x := by simpa using hx
        have hB2 := HB2.out.1
        have hB3 := hB2.trans (b3.mono hB2.size)
        have HB3 := hide hB3
        clear hx b3 hB2 hB3 HB2
        go_wp2
        go_ret
        exact ⟨⟨i, rfl, by simp⟩, HB3.out⟩
    · obtain rfl : i = s.size := by omega
      have hn := fun ty => next_done (P := Tryd.prog) wr X.heap.size s s.size ty hb (by omega)
      have hR := HN.out (fun k hk => hall k hk hk)
      subst hR
      have HB2 := hide hB
      clear hall hb hB
      go_wp2
      go_ret
      exact ⟨⟨-1, rfl, by first | rfl | decide⟩, HB2.out⟩
theorem indexAny_ends (hv : ∀ w, (zeroValue 140).run Tryd.prog w = .ok (.agg (Array.replicate 256 (.bool false))) w) (s : ByteArray) (w : World) (hs : s.size ≤ 1000000000) :
    Calls Tryd.prog 69 #[.string s, .string ends3] w fun e w' => (∃ i : Int, e = .returned (.int .i64 i) ∧ decide (0 ≤ i) = anyE s) ∧ Below w.heap.size w w' := by
  by_cases h8 : s.size ≤ 8
  · exact indexAny_short s w h8
  · refine (Tryd.strings_IndexAny_long hv s ends3 w (by decide) (by omega) (by omega) (by decide) ?_).mono ?_
    · intro j b hb
      have hm : b ∈ ends3.data.toList := List.mem_iff_getElem?.2 ⟨j, hb⟩
      have h5 : b = 44 ∨ b = 59 ∨ b = 58 := by simpa [ends3] using hm
      rcases h5 with rfl | rfl | rfl <;> decide
    · rintro e w' ⟨rfl, rfl⟩
      refine ⟨⟨_, rfl, ?_⟩, ((Below.refl _ w).alloc (Nat.le_refl _) _).alloc (by simp) _⟩
      rw [idx_list]
      unfold anyE
      show (Tl.tx s).any (fun b => ([44, 59, 58] : List UInt8).contains b) = _
      congr 1
      funext b
      exact ends_contains b
theorem containsAny_ends (hv : ∀ w, (zeroValue 140).run Tryd.prog w = .ok (.agg (Array.replicate 256 (.bool false))) w) (s : ByteArray) (w : World) (hs : s.size ≤ 1000000000) :
    Calls Tryd.prog 62 #[.string s, .string ends3] w fun e w' => e = .returned (.bool (anyE s)) ∧ Below w.heap.size w w' := by
  have K := hide (indexAny_ends hv s w hs)
  generalize anyE s = R at *
  generalize ends3 = E at *
  go_enter Tryd.func62, Tryd.ntmps62
  go_wp2_with fail
  refine K.out.mono ?_
  rintro e W ⟨⟨i, rfl, hi⟩, hb⟩
  go_wp2
  go_ret
  exact ⟨ret_bool (by first | exact hi | rw [← hi] | (rw [← hi]; simp)), hb⟩
theorem zeroSet : ∀ w, (zeroValue 140).run Tryd.prog w = .ok (.agg (Array.replicate 256 (.bool false))) w := (zero_of_info (show (Tryd.prog.info? 140).map (fun i => (i.zero, i.size)) = some (some (.agg (Array.replicate 256 (.bool false))), 256) by kernel_rfl)).1
/-- a param's value, written -/
def quo (s : ByteArray) : ByteArray := if anyE s then ⟨#[34]⟩ ++ s ++ ⟨#[34]⟩ else s
set_option maxHeartbeats 2000000 in
theorem quoted_any (s : ByteArray) (w : World) (hs : s.size ≤ 1000000000) :
    Calls Tryd.prog 50 #[.string s] w fun e w' => e = .returned (.string (quo s)) ∧ Below w.heap.size w w' := by
  have K := hide (fun W => containsAny_ends zeroSet s W hs)
  have HQ : Hid (quo s = if anyE s then ⟨#[34]⟩ ++ s ++ ⟨#[34]⟩ else s) := rfl
  generalize quo s = Q at *
  generalize anyE s = R at *
  rw [show ends3 = (⟨#[44, 59, 58]⟩ : ByteArray) from rfl] at K
  cases R
  · have hq := HQ.out
    rw [if_neg (by simp)] at hq
    subst hq
    clear HQ
    go_enter Tryd.func50, Tryd.ntmps50
    go_wp2_with fail
    refine (K.out _).mono ?_
    rintro e W ⟨rfl, hb⟩
    go_wp2
    go_ret
    exact ⟨rfl, hb⟩
  · have hq := HQ.out
    rw [if_pos rfl] at hq
    subst hq
    clear HQ
    have z1 : (⟨#[34]⟩ : ByteArray).size + s.size ≤ 1000000001 := by show 1 + s.size ≤ _; omega
    have z2 : ((⟨#[34]⟩ : ByteArray) ++ s).size + (⟨#[34]⟩ : ByteArray).size ≤ 1000000002 := by rw [ByteArray.size_append]; show 1 + s.size + 1 ≤ _; omega
    go_enter Tryd.func50, Tryd.ntmps50
    go_wp2_with fail
    refine (K.out _).mono ?_
    rintro e W ⟨rfl, hb⟩
    go_wp2
    go_ret
    exact ⟨rfl, hb⟩
end Go.Proofs.YtponocolfjkapaaDoor
namespace Go.Proofs.YtponocolfjkapaaDoor
open Go.RowKit Go.Shelf
set_option linter.unusedVariables false
set_option linter.unusedSimpArgs false

/-- is it one of the marks? -/
def isM (E : ByteArray) (b : UInt8) : Bool := (Tl.tx E).contains b
/-- marks: ASCII all -/
def Asc (E : ByteArray) : Prop := ∀ b ∈ Tl.tx E, b.toNat < 128
theorem Asc.at {E : ByteArray} (h : Asc E) (k : Nat) (hk : k < E.size) : E[k].toNat < 128 := h _ (List.mem_iff_getElem.2 ⟨k, by rw [Tl.tx_len]; exact hk, rfl⟩)
theorem isM_hi {E : ByteArray} (h : Asc E) {b : UInt8} (hb : ¬ b.toNat < 128) : isM E b = false := by
  unfold isM
  rw [List.contains_eq_any_beq, List.any_eq_false]
  intro x hx e
  rw [beq_iff_eq] at e
  rw [e] at hb
  exact hb (h _ hx)
theorem lib_hit (cs : List UInt8) : ∀ (l : List UInt8) (i : Nat) (hi : i < l.length), cs.contains l[i] = true → (∀ k (hk : k < l.length), k < i → cs.contains l[k] = false) → Lib.indexAny l cs = i
  | b :: l, 0, hi, h, _ => by
    unfold Lib.indexAny
    rw [show cs.contains b = true from h]; rfl
  | b :: l, i + 1, hi, h, hn => by
    have h0 := hn 0 (by simp) (by omega)
    have ih := lib_hit cs l i (by simpa using hi) h (fun k hk hki => hn (k + 1) (by simpa using hk) (by omega))
    unfold Lib.indexAny
    rw [show cs.contains b = false from h0, ih]
    simp
set_option maxRecDepth 100000 in
set_option maxHeartbeats 8000000 in
theorem idxRune_badE (E : ByteArray) (hE : Asc E) (w : World) : Calls Tryd.prog 76 #[.string E, .int .i32 65533] w fun e w' => e = .returned (.int .i64 (-1)) ∧ Below w.heap.size w w' := by
  have n3 := fun ty => run_next_end (P := Tryd.prog) w E E.size ty (Nat.lt_irrefl _)
  have HE := hide hE
  clear hE
  go_enter Tryd.func76, Tryd.ntmps76
  go_wp2_with fail
  go_loopw [5, 6] (fun _ _ wx => ∃ i : Nat, i ≤ E.size ∧ wx = w.iter E i) (fun _ _ wx => E.size - wx.iterPos w.heap.size)
  case atStart => exact ⟨0, by omega, rfl⟩
  case round =>
    obtain ⟨i, hi, rfl⟩ := hrel
    by_cases h3 : i = E.size
    · subst h3
      go_wp2
      go_ret
      exact ⟨rfl, (Below.refl _ w).alloc (Nat.le_refl _) _⟩
    · have hlt : i < E.size := by omega
      have h128 := HE.out.at i hlt
      have hn := fun ty => run_next_ascii (P := Tryd.prog) w E i ty hlt h128
      have hne : ((E[i].toNat : Int) == 65533) = false := by rw [beq_eq_false_iff_ne]; omega
      generalize E[i].toNat = x at *
      go_wp2
      go_roundw
      case rel => exact ⟨i + 1, by omega, rfl⟩
      case measure => simp; omega
set_option maxRecDepth 100000 in
set_option maxHeartbeats 8000000 in
theorem idxRune_hi2 (s : ByteArray) (hz : s.size = 2) (hs : Asc s) (r : Nat) (hr : 128 ≤ r) (hr2 : r ≠ 65533) (hv : Utf8.valid (r : Int) = true) (w : World) : Calls Tryd.prog 76 #[.string s, .int .i32 r] w fun e w' => e = .returned (.int .i64 (-1)) ∧ Below w.heap.size w w' := by
  have h1 : (0 : Int) ≤ r := by omega
  have h2 : ¬ ((r : Int) < 128) := by omega
  have h3 : ((r : Int) == 65533) = false := by rw [beq_eq_false_iff_ne]; omega
  have KV := hide (Tryd.utf8_ValidRune (r : Int) w)
  have hvr : Lib.validRune (r : Int) = true := by
    rw [validRune_eq] at hv
    unfold validRune at hv
    unfold Lib.validRune
    simpa using hv
  rw [hvr] at KV
  obtain ⟨e1, e2, e3⟩ := encode_facts (r : Int) hv (by omega)
  have hr3 : (r : Int) ≤ 1114111 := by
    rw [validRune_eq, validRune, decide_eq_true_iff] at hv; omega
  go_enter Tryd.func76, Tryd.ntmps76
  go_wp2_with fail
  refine KV.out.mono ?_
  rintro e W ⟨rfl, rfl⟩
  obtain ⟨m, hm, hlt, e4⟩ : ∃ m : Nat, (Utf8.encode (r : Int)).size = m + 1 ∧ ∃ h : m < (Utf8.encode (r : Int)).size, 128 ≤ (Utf8.encode (r : Int))[m].toNat := by
    refine ⟨(Utf8.encode (r : Int)).size - 1, by omega, by omega, e3 _⟩
  clear e3 hv hvr KV
  generalize hE : Utf8.encode (r : Int) = E at *
  have HS := hide hs
  clear hs
  have hm2 : (E.size : Int) = (m : Int) + 1 := by omega
  go_wp2_with fail
  refine wp_scope_straight ?_
  go_wp2_with fail
  go_loopw [9, 10] (fun v9 v10 wx => v9 = .int .i64 (m : Int) ∧ v10 = .int .i64 0 ∧ W = wx) (fun _ _ _ => 0)
  case atStart => exact ⟨rfl, rfl, rfl⟩
  case round =>
    obtain ⟨rfl, rfl, rfl⟩ := hrel
    by_cases h4 : 2 ≤ m
    · have hi : ¬ (m : Int) < 2 := by omega
      have hi2 : (2 : Int) ≤ m := by omega
      go_wp2
      go_ret
      exact ⟨rfl, Below.refl _ _⟩
    · have h12 : m = 1 := by omega
      clear h1 h2 h3 hr3 hE e1 e2 h4
      subst h12
      have hb : s[1].toNat < 128 := HS.out.at 1 (by omega)
      have KB : Hid (∀ W, Calls Tryd.prog 84 #[.string ByteArray.empty, .int .u8 E[1].toNat] W fun e w' => e = .returned (.int .i64 (-1)) ∧ w' = W) := fun W => by
        refine (Tryd.strings_IndexByte ByteArray.empty E[1].toNat W).mono ?_
        rintro e w' ⟨rfl, rfl⟩
        exact ⟨rfl, rfl⟩
      have hne : ((s[1].toNat : Int) == (E[1].toNat : Int)) = false := by rw [beq_eq_false_iff_ne]; omega
      have hne2 : ((s[1].toNat : Int) != (E[1].toNat : Int)) = true := by rw [bne, hne]; rfl
      clear hne hm2 e4 hb
      go_wp2_with fail
      refine wp_scope_straight ?_
      go_wp2_with fail
      go_region
      clear hne2
      go_wp2_with fail
      go_region_with (go_at_call 84; refine (KB.out _).mono ?_; rintro e w' ⟨rfl, rfl⟩)
      go_wp2_with fail
      all_goals
        show bodyPost Tryd.prog Tryd.f76 (fun e w' => e = .returned (.int .i64 (-1)) ∧ Below W.heap.size W w') Exit.ret _ _
        go_ret
        exact ⟨rfl, ((Below.refl _ _).drew).drew⟩
/-- marks: two or three -/
structure Mk (E : ByteArray) : Prop where
  a : Asc E
  z : E.size = 2 ∨ E.size = 3
theorem idxE (E : ByteArray) (hE : Mk E) (s : ByteArray) (pos : Nat) (h : pos < s.size) (W : World) : Calls Tryd.prog 76 #[.string E, .int .i32 (Utf8.decode s pos).1] W fun e w' => (∃ i : Int, e = .returned (.int .i64 i) ∧ decide (0 ≤ i) = isM E s[pos]) ∧ Below W.heap.size W w' := by
  by_cases ha : (s[pos]).toNat < 128
  · rw [decode_ascii s pos h ha]
    refine (Tryd.strings_IndexRune_ascii E _ W (by omega) (by omega)).mono ?_
    rintro e w' ⟨rfl, rfl⟩
    refine ⟨⟨_, rfl, ?_⟩, Below.refl _ _⟩
    rw [idx_any, show ((s[pos].toNat : Int)).toNat.toUInt8 = s[pos] by simp]
    unfold isM
    rw [List.contains_eq_any_beq]
    show (Tl.tx E).any _ = _
    congr 1
    funext x
    exact BEq.comm
  · rw [isM_hi hE.a ha]
    obtain ⟨d1, d2, _⟩ := dec_hi s pos h (by omega)
    by_cases hb : (Utf8.decode s pos).1 = 65533
    · rw [hb]
      exact (idxRune_badE E hE.a W).mono fun e w' ⟨he, hw⟩ => ⟨⟨-1, he, rfl⟩, hw⟩
    · rcases hE.z with hz | hz
      · exact (idxRune_hi2 E hz hE.a _ d1 hb (d2.resolve_left hb) W).mono fun e w' ⟨he, hw⟩ => ⟨⟨-1, he, rfl⟩, hw⟩
      · exact (idxRune_hi E hz hE.a _ d1 hb (d2.resolve_left hb) W).mono fun e w' ⟨he, hw⟩ => ⟨⟨-1, he, rfl⟩, hw⟩
theorem skipE (E : ByteArray) (hE : Asc E) (s : ByteArray) (pos : Nat) (h : pos < s.size) (hM : isM E s[pos] = false) : pos + (Utf8.decode s pos).2 ≤ s.size ∧ 1 ≤ (Utf8.decode s pos).2 ∧ ∀ k (hk : k < s.size), pos ≤ k → k < pos + (Utf8.decode s pos).2 → isM E s[k] = false := by
  by_cases ha : (s[pos]).toNat < 128
  · rw [decode_ascii s pos h ha]
    refine ⟨h, Nat.le_refl _, fun k hk h1 h2 => ?_⟩
    obtain rfl : k = pos := by omega
    exact hM
  · obtain ⟨d1, d2, d3, d4, d5⟩ := dec_hi s pos h (by omega)
    refine ⟨d4, d3, fun k hk h1 h2 => ?_⟩
    have h5 := d5 (k - pos) (by omega)
    rw [show pos + (k - pos) = k by omega] at h5
    have g0 : s.get! k = s[k] := by
      cases s with
      | mk data => exact getElem!_pos data k hk
    rw [g0] at h5
    exact isM_hi hE (by omega)
set_option maxRecDepth 100000 in
set_option maxHeartbeats 8000000 in
theorem indexAny_shortE (E : ByteArray) (hE : Mk E) (s : ByteArray) (i0 : Nat) (hi0 : i0 < s.size) (h0 : isM E s[i0] = true) (hall0 : ∀ k (hk : k < s.size), k < i0 → isM E s[k] = false) (w : World) (h8 : s.size ≤ 8) :
    Calls Tryd.prog 69 #[.string s, .string E] w fun e w' => e = .returned (.int .i64 i0) ∧ Below w.heap.size w w' := by
  have KI := hide (fun pos (h : pos < s.size) W => idxE E hE s pos h W)
  have HK := hide (fun pos (h : pos < s.size) (hM : isM E s[pos] = false) => skipE E hE.a s pos h hM)
  have KS : Hid (∀ W, Calls Tryd.prog 77 #[.int .i64 s.size] W fun e w' => e = .returned (.bool false) ∧ w' = W) := fun W => by
    have h := Tryd.strings_shouldUseASCIISet s.size W
    rw [decide_eq_false (by omega)] at h
    exact h
  have hz : E.size = 2 ∨ E.size = 3 := hE.z
  have hz1 : ((E.size : Int) == 1) = false := by rw [beq_eq_false_iff_ne]; omega
  have hne : (E.toList == []) = false := by
    rw [ByteArray.toList_eq]
    cases h : E.data.toList with
    | nil =>
      have : E.size = 0 := by rw [← Tl.tx_len]; unfold Tl.tx; rw [h]; rfl
      omega
    | cons => rfl
  have hne2 : E.toList.isEmpty = false := by
    cases h : E.toList with
    | nil => rw [h] at hne; cases hne
    | cons => rfl
  have HA := hide hall0
  have HM := hide h0
  clear h8 hE hall0 h0 hz
  go_enter Tryd.func69, Tryd.ntmps69
  go_wp2_with (go_at_call 77; refine (KS.out _).mono ?_; rintro e X ⟨rfl, rfl⟩)
  go_loopw [9, 10] (fun _ _ wx => ∃ i : Nat, i ≤ i0 ∧ wx.heap[X.heap.size]? = some (.stringIter s i) ∧ Below X.heap.size X wx) (fun _ _ wx => s.size - wx.iterPos X.heap.size)
  case atStart => exact ⟨0, by omega, World.iter_heap X s 0, (Below.refl _ X).alloc (Nat.le_refl _) _⟩
  case round =>
    obtain ⟨i, hi, hb, hB⟩ := hrel
    have hpos : wr.iterPos X.heap.size = i := by simp [World.iterPos, hb]
    have hlt : i < s.size := by omega
    have hn := fun ty => next_at (P := Tryd.prog) wr X.heap.size s i ty hb hlt
    have hB2 : Below X.heap.size X (setIt wr X.heap.size s (i + (Utf8.decode s i).2)) := hB.trans (setIt_below (Nat.le_refl _))
    have hb2 : (setIt wr X.heap.size s (i + (Utf8.decode s i).2)).heap[X.heap.size]? = some (.stringIter s (i + (Utf8.decode s i).2)) := setIt_at (Array.getElem?_eq_some_iff.1 hb).1
    have hsk := HK.out i hlt
    have KI2 := hide (KI.out i hlt)
    have HB2 := hide (And.intro hB2 hb2)
    clear hB2 hb2 hb hB
    by_cases hii : i = i0
    · subst hii
      have hR := HM.out
      rw [hR] at KI2
      clear hsk
      generalize Utf8.decode s i = dr at *
      go_wp2_with fail
      refine (KI2.out _).mono ?_
      rintro e W3 ⟨⟨x, rfl, hx⟩, b3⟩
      have hx2 : 0 ≤ x := by simpa using hx
      have hB2 := HB2.out.1
      have hB3 := hB2.trans (b3.mono hB2.size)
      have HB3 := hide hB3
      clear hx b3 hB2 hB3 HB2
      go_wp2
      go_ret
      exact ⟨rfl, HB3.out⟩
    · have hE := HA.out i hlt (by omega)
      obtain ⟨n1, n2, n3⟩ := hsk hE
      have hnext : i + (Utf8.decode s i).2 ≤ i0 := by
        by_cases h : i + (Utf8.decode s i).2 ≤ i0
        · exact h
        · have := n3 i0 hi0 (by omega) (by omega)
          rw [HM.out] at this
          cases this
      clear hsk n3
      rw [hE] at KI2
      generalize Utf8.decode s i = dr at *
      go_wp2_with fail
      refine (KI2.out _).mono ?_
      rintro e W3 ⟨⟨x, rfl, hx⟩, b3⟩
      have hx2 : ¬ 0 ≤ x := by simpa using hx
      obtain ⟨hB2, hb2⟩ := HB2.out
      have hb3 := (b3.block _ (Array.getElem?_eq_some_iff.1 hb2).1).trans hb2
      have hB3 := hB2.trans (b3.mono hB2.size)
      have hp3 : W3.iterPos X.heap.size = i + dr.2 := by simp [World.iterPos, hb3]
      have HB3 := hide (And.intro hB3 hb3)
      clear hx b3 hB2 hb2 hB3 hb3 HB2
      go_wp2
      go_roundw
      case rel => exact ⟨i + dr.2, hnext, HB3.out.2, HB3.out.1⟩
      case measure => rw [hp3, hpos]; omega
/-- where the first mark stands -/
theorem indexAny_hit (E : ByteArray) (hE : Asc E) (hz : E.size = 1 ∨ E.size = 2 ∨ E.size = 3) (s : ByteArray) (i0 : Nat) (hi0 : i0 < s.size) (h0 : isM E s[i0] = true) (hall0 : ∀ k (hk : k < s.size), k < i0 → isM E s[k] = false) (w : World) (hs : s.size ≤ 1000000000) :
    Calls Tryd.prog 69 #[.string s, .string E] w fun e w' => e = .returned (.int .i64 i0) ∧ Below w.heap.size w w' := by
  have hL : Lib.indexAny s.data.toList E.data.toList = (i0 : Int) := lib_hit _ _ i0 (by rw [show s.data.toList.length = s.size from Tl.tx_len s]; exact hi0) h0 (fun k hk hki => hall0 k (by rwa [show s.data.toList.length = s.size from Tl.tx_len s] at hk) hki)
  have hac : ∀ (j : Nat) b, E.data.toList[j]? = some b → b.toNat < 128 := fun j b hb => hE b (List.mem_iff_getElem?.2 ⟨j, hb⟩)
  rcases hz with hz | hz
  · refine (Tryd.strings_IndexAny_one s E w hz hac).mono ?_
    rintro e w' ⟨rfl, rfl⟩
    exact ⟨by rw [hL], Below.refl _ _⟩
  · by_cases h8 : s.size ≤ 8
    · exact indexAny_shortE E ⟨hE, hz⟩ s i0 hi0 h0 hall0 w h8
    · refine (Tryd.strings_IndexAny_long zeroSet s E w (by omega) (by omega) (by omega) (by omega) hac).mono ?_
      rintro e w' ⟨rfl, rfl⟩
      exact ⟨by rw [hL], ((Below.refl _ w).alloc (Nat.le_refl _) _).alloc (by simp) _⟩
end Go.Proofs.YtponocolfjkapaaDoor
