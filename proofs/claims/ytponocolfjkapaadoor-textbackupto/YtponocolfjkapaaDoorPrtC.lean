/- package text: strings.ContainsAny of what ends a value, at any text; quoted. -/
import Derived.Test.YtponocolfjkapaaDoorPrtB
import Derived.Test.YtponocolfjkapaaDoorPrtI
namespace Go.Proofs.YtponocolfjkapaaDoor
open Go.RowKit Go.Shelf
set_option linter.unusedVariables false
set_option linter.unusedSimpArgs false

def isE (b : UInt8) : Bool := b == 44 || b == 59 || b == 58
def anyE (s : ByteArray) : Bool := (Tl.tx s).any isE
theorem anyE_eq (s : ByteArray) : anyE s = (hasB s 44 || hasB s 59 || hasB s 58) := by
  unfold anyE hasB isE
  induction Tl.tx s with
  | nil => rfl
  | cons b l ih =>
    rw [List.any_cons, List.any_cons, List.any_cons, List.any_cons, ih]
    cases (b == 44) <;> cases (b == 59) <;> cases (b == 58) <;> simp
theorem idx_list (cs : List UInt8) : ∀ l : List UInt8, decide (0 ≤ Lib.indexAny l cs) = l.any (cs.contains ·)
  | [] => rfl
  | b :: l => by
    have ih := idx_list cs l
    have lo := Lib.indexAny_ge cs l
    rw [List.any_cons, ← ih, Lib.indexAny]
    generalize Lib.indexAny l cs = r at *
    cases h : cs.contains b
    · rw [Bool.false_or, if_neg (by simp), decide_eq_decide]
      by_cases e : r = -1
      · subst e; simp
      · rw [if_neg (by simpa using e)]; omega
    · simp
theorem ends_contains (b : UInt8) : ([44, 59, 58] : List UInt8).contains b = isE b := by
  unfold isE
  rw [Bool.eq_iff_iff]
  simp [or_assoc]
/-- a range's state moved on -/
def setIt (W : World) (b : Nat) (s : ByteArray) (pos : Nat) : World := { W with heap := W.heap.setIfInBounds b (.stringIter s pos) }
theorem setIt_at {W : World} {b : Nat} {s : ByteArray} {pos : Nat} (h : b < W.heap.size) : (setIt W b s pos).heap[b]? = some (.stringIter s pos) := by
  unfold setIt
  simp [h]
theorem setIt_below {W : World} {n b : Nat} {s : ByteArray} {pos : Nat} (h : n ≤ b) : Below n W (setIt W b s pos) :=
  ⟨rfl, rfl, rfl, by simp [setIt], fun k hk => by simp only [setIt]; rw [Array.getElem?_setIfInBounds_ne (by omega)]⟩
section
variable {P : Program}
theorem next_at (W : World) (b : Nat) (s : ByteArray) (pos : Nat) (ty : TypeId) (hb : W.heap[b]? = some (.stringIter s pos)) (h : pos < s.size) :
    (Instr.next (.pointer (some ⟨b, 0, none⟩)) true ty).run P W = .ok (.tuple #[.bool true, .int .i64 pos, .int .i32 (Utf8.decode s pos).1]) (setIt W b s (pos + (Utf8.decode s pos).2)) := by
  simp only [Instr.next, getObj, setObj, Sem.run_bind, Sem.run, hb, Result.andThen, h, if_true]
  simp [goInt, Sem.run, hb, setIt]
theorem next_done (W : World) (b : Nat) (s : ByteArray) (pos : Nat) (ty : TypeId) (hb : W.heap[b]? = some (.stringIter s pos)) (h : ¬ pos < s.size) :
    (Instr.next (.pointer (some ⟨b, 0, none⟩)) true ty).run P W = .ok (.tuple #[.bool false]) W := by
  simp [Instr.next, getObj, Sem.run, hb, h]
end
/-- IndexRune in what ends a value, at a text's next character -/
theorem idxEnds (s : ByteArray) (pos : Nat) (h : pos < s.size) (W : World) : Calls Tryd.prog 76 #[.string ends3, .int .i32 (Utf8.decode s pos).1] W fun e w' => (∃ i : Int, e = .returned (.int .i64 i) ∧ decide (0 ≤ i) = isE s[pos]) ∧ Below W.heap.size W w' := by
  by_cases ha : (s[pos]).toNat < 128
  · rw [decode_ascii s pos h ha]
    refine (Tryd.strings_IndexRune_ascii ends3 _ W (by omega) (by omega)).mono ?_
    rintro e w' ⟨rfl, rfl⟩
    refine ⟨⟨_, rfl, ?_⟩, Below.refl _ _⟩
    rw [idx_any, show ((s[pos].toNat : Int)).toNat.toUInt8 = s[pos] by simp]
    rw [show ends3.data.toList = [44, 59, 58] from rfl]
    unfold isE
    simp only [List.any_cons, List.any_nil, Bool.or_false]
    rw [Bool.or_assoc, show ((44 : UInt8) == s[pos]) = (s[pos] == 44) from BEq.comm, show ((59 : UInt8) == s[pos]) = (s[pos] == 59) from BEq.comm, show ((58 : UInt8) == s[pos]) = (s[pos] == 58) from BEq.comm]
  · have hn : isE s[pos] = false := by
      unfold isE
      have : ∀ c : UInt8, c.toNat < 128 → (s[pos] == c) = false := fun c hc => by
        rw [beq_eq_false_iff_ne]; intro e; rw [e] at ha; omega
      rw [this 44 (by decide), this 59 (by decide), this 58 (by decide)]; rfl
    obtain ⟨d1, d2, _⟩ := dec_hi s pos h (by omega)
    rw [hn]
    by_cases hb : (Utf8.decode s pos).1 = 65533
    · rw [hb]
      exact (idxRune_bad W).mono fun e w' ⟨he, hw⟩ => ⟨⟨-1, he, rfl⟩, hw⟩
    · refine (idxRune_hi ends3 rfl ?_ _ d1 hb (d2.resolve_left hb) W).mono fun e w' ⟨he, hw⟩ => ⟨⟨-1, he, rfl⟩, hw⟩
      intro b hb
      have h5 : b = 44 ∨ b = 59 ∨ b = 58 := by simpa [ends3, Tl.tx] using hb
      rcases h5 with rfl | rfl | rfl <;> decide
/-- a character's bytes are none of these, where its first one is none -/
theorem skip_ok (s : ByteArray) (pos : Nat) (h : pos < s.size) (hE : isE s[pos] = false) : pos + (Utf8.decode s pos).2 ≤ s.size ∧ 1 ≤ (Utf8.decode s pos).2 ∧ ∀ k (hk : k < s.size), pos ≤ k → k < pos + (Utf8.decode s pos).2 → isE s[k] = false := by
  by_cases ha : (s[pos]).toNat < 128
  · rw [decode_ascii s pos h ha]
    refine ⟨h, Nat.le_refl _, fun k hk h1 h2 => ?_⟩
    obtain rfl : k = pos := by omega
    exact hE
  · obtain ⟨d1, d2, d3, d4, d5⟩ := dec_hi s pos h (by omega)
    refine ⟨d4, d3, fun k hk h1 h2 => ?_⟩
    have h5 := d5 (k - pos) (by omega)
    rw [show pos + (k - pos) = k by omega] at h5
    have g0 : s.get! k = s[k] := by
      cases s with
      | mk data => exact getElem!_pos data k hk
    rw [g0] at h5
    unfold isE
    have : ∀ c : UInt8, c.toNat < 128 → (s[k] == c) = false := fun c hc => by
      rw [beq_eq_false_iff_ne]; intro e; rw [e] at h5; omega
    rw [this 44 (by decide), this 59 (by decide), this 58 (by decide)]; rfl
set_option maxRecDepth 100000 in
set_option maxHeartbeats 8000000 in
theorem indexAny_short (s : ByteArray) (w : World) (h8 : s.size ≤ 8) :
    Calls Tryd.prog 69 #[.string s, .string ends3] w fun e w' => (∃ i : Int, e = .returned (.int .i64 i) ∧ decide (0 ≤ i) = anyE s) ∧ Below w.heap.size w w' := by
  have HY : Hid (∀ k (hk : k < s.size), isE s[k] = true → anyE s = true) := fun k hk he => by
    unfold anyE
    rw [List.any_eq_true]
    exact ⟨s[k], List.mem_iff_getElem.2 ⟨k, by rw [Tl.tx_len]; exact hk, rfl⟩, he⟩
  have HN : Hid ((∀ k (hk : k < s.size), isE s[k] = false) → anyE s = false) := fun h => by
    unfold anyE
    rw [List.any_eq_false]
    intro b hb
    obtain ⟨k, hk, rfl⟩ := List.mem_iff_getElem.1 hb
    rw [Tl.tx_len] at hk
    have := h k hk
    exact fun e => by rw [show (Tl.tx s)[k] = s[k] from rfl, this] at e; cases e
  generalize anyE s = R at *
  have KI := hide (fun pos (h : pos < s.size) W => idxEnds s pos h W)
  have HK := hide (fun pos (h : pos < s.size) (hE : isE s[pos] = false) => skip_ok s pos h hE)
  have KS : Hid (∀ W, Calls Tryd.prog 77 #[.int .i64 s.size] W fun e w' => e = .returned (.bool false) ∧ w' = W) := fun W => by
    have h := Tryd.strings_shouldUseASCIISet s.size W
    rw [decide_eq_false (by omega)] at h
    exact h
  have hz : ends3.size = 3 := rfl
  have hz2 : ends3.toList.isEmpty = false := by rw [show ends3.toList = [44, 59, 58] by rw [ByteArray.toList_eq]; rfl]; rfl
  have hz3 : (ends3.toList == []) = false := by rw [show ends3.toList = [44, 59, 58] by rw [ByteArray.toList_eq]; rfl]; rfl
  generalize ends3 = E at *
  clear h8
  go_enter Tryd.func69, Tryd.ntmps69
  go_wp2_with (go_at_call 77; refine (KS.out _).mono ?_; rintro e X ⟨rfl, rfl⟩)
  go_loopw [9, 10] (fun _ _ wx => ∃ i : Nat, i ≤ s.size ∧ wx.heap[X.heap.size]? = some (.stringIter s i) ∧ Below X.heap.size X wx ∧ ∀ k (hk : k < s.size), k < i → isE s[k] = false) (fun _ _ wx => s.size - wx.iterPos X.heap.size)
  case atStart => exact ⟨0, by omega, World.iter_heap X s 0, (Below.refl _ X).alloc (Nat.le_refl _) _, fun k hk h => by omega⟩
  case round =>
    obtain ⟨i, hi, hb, hB, hall⟩ := hrel
    have hpos : wr.iterPos X.heap.size = i := by simp [World.iterPos, hb]
    by_cases hlt : i < s.size
    · have hn := fun ty => next_at (P := Tryd.prog) wr X.heap.size s i ty hb hlt
      have hB2 : Below X.heap.size X (setIt wr X.heap.size s (i + (Utf8.decode s i).2)) := hB.trans (setIt_below (Nat.le_refl _))
      have hb2 : (setIt wr X.heap.size s (i + (Utf8.decode s i).2)).heap[X.heap.size]? = some (.stringIter s (i + (Utf8.decode s i).2)) := setIt_at (Array.getElem?_eq_some_iff.1 hb).1
      have hsk := HK.out i hlt
      have KI2 := hide (KI.out i hlt)
      have HH := hide hall
      have HB2 := hide (And.intro hB2 hb2)
      clear hall hB2 hb2 hb hB
      cases hE : isE s[i]
      · obtain ⟨n1, n2, n3⟩ := hsk hE
        have HN3 := hide n3
        clear hsk n3
        rw [hE] at KI2
        generalize Utf8.decode s i = dr at *
        go_wp2_with fail
        refine (KI2.out _).mono ?_
        rintro e W3 ⟨⟨x, rfl, hx⟩, b3⟩
        have hx2 : ¬ 0 ≤ x := by simpa using hx
        obtain ⟨hB2, hb2⟩ := HB2.out
        have hb3 := (b3.block _ (Array.getElem?_eq_some_iff.1 hb2).1).trans hb2
        have hB3 := hB2.trans (b3.mono hB2.size)
        have hp3 : W3.iterPos X.heap.size = i + dr.2 := by simp [World.iterPos, hb3]
        have HB3 := hide (And.intro hB3 hb3)
        clear hx b3 hB2 hb2 hB3 hb3 HB2
        go_wp2
        go_roundw
        case rel => exact ⟨i + dr.2, n1, HB3.out.2, HB3.out.1, fun k hk hk2 => by
          by_cases h : k < i
          · exact HH.out k hk h
          · exact HN3.out k hk (by omega) hk2⟩
        case measure => rw [hp3, hpos]; omega
      · have hR := HY.out i hlt hE
        subst hR
        rw [hE] at KI2
        clear hsk
        generalize Utf8.decode s i = dr at *
        go_wp2_with fail
        refine (KI2.out _).mono ?_
        rintro e W3 ⟨⟨x, rfl, hx⟩, b3⟩
        have hx2 : 0 ≤ x := by simpa using hx
        have hB2 := HB2.out.1
        have hB3 := hB2.trans (b3.mono hB2.size)
        have HB3 := hide hB3
        clear hx b3 hB2 hB3 HB2
        go_wp2
        go_ret
        exact ⟨⟨i, rfl, by simp⟩, HB3.out⟩
    · obtain rfl : i = s.size := by omega
      have hn := fun ty => next_done (P := Tryd.prog) wr X.heap.size s s.size ty hb (by omega)
      have hR := HN.out (fun k hk => hall k hk hk)
      subst hR
      have HB2 := hide hB
      clear hall hb hB
      go_wp2
      go_ret
      exact ⟨⟨-1, rfl, by first | rfl | decide⟩, HB2.out⟩
theorem indexAny_ends (hv : ∀ w, (zeroValue 140).run Tryd.prog w = .ok (.agg (Array.replicate 256 (.bool false))) w) (s : ByteArray) (w : World) (hs : s.size ≤ 1000000000) :
    Calls Tryd.prog 69 #[.string s, .string ends3] w fun e w' => (∃ i : Int, e = .returned (.int .i64 i) ∧ decide (0 ≤ i) = anyE s) ∧ Below w.heap.size w w' := by
  by_cases h8 : s.size ≤ 8
  · exact indexAny_short s w h8
  · refine (Tryd.strings_IndexAny_long hv s ends3 w (by decide) (by omega) (by omega) (by decide) ?_).mono ?_
    · intro j b hb
      have hm : b ∈ ends3.data.toList := List.mem_iff_getElem?.2 ⟨j, hb⟩
      have h5 : b = 44 ∨ b = 59 ∨ b = 58 := by simpa [ends3] using hm
      rcases h5 with rfl | rfl | rfl <;> decide
    · rintro e w' ⟨rfl, rfl⟩
      refine ⟨⟨_, rfl, ?_⟩, ((Below.refl _ w).alloc (Nat.le_refl _) _).alloc (by simp) _⟩
      rw [idx_list]
      unfold anyE
      show (Tl.tx s).any (fun b => ([44, 59, 58] : List UInt8).contains b) = _
      congr 1
      funext b
      exact ends_contains b
theorem containsAny_ends (hv : ∀ w, (zeroValue 140).run Tryd.prog w = .ok (.agg (Array.replicate 256 (.bool false))) w) (s : ByteArray) (w : World) (hs : s.size ≤ 1000000000) :
    Calls Tryd.prog 62 #[.string s, .string ends3] w fun e w' => e = .returned (.bool (anyE s)) ∧ Below w.heap.size w w' := by
  have K := hide (indexAny_ends hv s w hs)
  generalize anyE s = R at *
  generalize ends3 = E at *
  go_enter Tryd.func62, Tryd.ntmps62
  go_wp2_with fail
  refine K.out.mono ?_
  rintro e W ⟨⟨i, rfl, hi⟩, hb⟩
  go_wp2
  go_ret
  exact ⟨ret_bool (by first | exact hi | rw [← hi] | (rw [← hi]; simp)), hb⟩
theorem zeroSet : ∀ w, (zeroValue 140).run Tryd.prog w = .ok (.agg (Array.replicate 256 (.bool false))) w := (zero_of_info (show (Tryd.prog.info? 140).map (fun i => (i.zero, i.size)) = some (some (.agg (Array.replicate 256 (.bool false))), 256) by kernel_rfl)).1
/-- a param's value, written -/
def quo (s : ByteArray) : ByteArray := if anyE s then ⟨#[34]⟩ ++ s ++ ⟨#[34]⟩ else s
set_option maxHeartbeats 2000000 in
theorem quoted_any (s : ByteArray) (w : World) (hs : s.size ≤ 1000000000) :
    Calls Tryd.prog 50 #[.string s] w fun e w' => e = .returned (.string (quo s)) ∧ Below w.heap.size w w' := by
  have K := hide (fun W => containsAny_ends zeroSet s W hs)
  have HQ : Hid (quo s = if anyE s then ⟨#[34]⟩ ++ s ++ ⟨#[34]⟩ else s) := rfl
  generalize quo s = Q at *
  generalize anyE s = R at *
  rw [show ends3 = (⟨#[44, 59, 58]⟩ : ByteArray) from rfl] at K
  cases R
  · have hq := HQ.out
    rw [if_neg (by simp)] at hq
    subst hq
    clear HQ
    go_enter Tryd.func50, Tryd.ntmps50
    go_wp2_with fail
    refine (K.out _).mono ?_
    rintro e W ⟨rfl, hb⟩
    go_wp2
    go_ret
    exact ⟨rfl, hb⟩
  · have hq := HQ.out
    rw [if_pos rfl] at hq
    subst hq
    clear HQ
    have z1 : (⟨#[34]⟩ : ByteArray).size + s.size ≤ 1000000001 := by show 1 + s.size ≤ _; omega
    have z2 : ((⟨#[34]⟩ : ByteArray) ++ s).size + (⟨#[34]⟩ : ByteArray).size ≤ 1000000002 := by rw [ByteArray.size_append]; show 1 + s.size + 1 ≤ _; omega
    go_enter Tryd.func50, Tryd.ntmps50
    go_wp2_with fail
    refine (K.out _).mono ?_
    rintro e W ⟨rfl, hb⟩
    go_wp2
    go_ret
    exact ⟨rfl, hb⟩
end Go.Proofs.YtponocolfjkapaaDoor
