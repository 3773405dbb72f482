/- package text: appendPart. -/
import Derived.Test.YtponocolfjkapaaDoorMTextBackUpto28
import Derived.Test.YtponocolfjkapaaDoorMTextBackUpto34
import Derived.Test.YtponocolfjkapaaDoorMTextBackUpto24
namespace Go.Proofs.YtponocolfjkapaaDoor
open Go.RowKit Go.Shelf
set_option linter.unusedVariables false
set_option linter.unusedSimpArgs false

/-- a part in memory, all of which lies below a block -/
def PtB (t : PPt) (v : Value) (base : Nat) (W : World) : Prop := ∃ w0 : World, PtM t v w0 ∧ w0.heap.size ≤ base ∧ Below w0.heap.size w0 W
theorem PtB.now {t : PPt} {v : Value} {base : Nat} {W : World} (h : PtB t v base W) : PtM t v W := by
  obtain ⟨w0, h, _, hb⟩ := h
  exact PtM.later hb _ _ h
theorem PtB.later {t : PPt} {v : Value} {base : Nat} {W W' : World} (h : PtB t v base W) (hb : Below base W W') : PtB t v base W' := by
  obtain ⟨w0, h, h0, h1⟩ := h
  exact ⟨w0, h, h0, h1.trans (hb.mono h0)⟩
theorem PtB.new {t : PPt} {v : Value} {W : World} (h : PtM t v W) : PtB t v W.heap.size W := ⟨W, h, Nat.le_refl _, Below.refl _ W⟩
/-- the lines and parts of a part, all of which lies below a block -/
structure PtL (nm : ByteArray) (ls : List PLn) (ks : List PPt) (A A2 : Option Addr) (base : Nat) (W : World) : Prop where
  ex : ∃ w0 : World, LS A ls w0 ∧ KsM ks A2 0 w0 ∧ w0.heap.size ≤ base ∧ Below w0.heap.size w0 W
theorem PtL.later {nm : ByteArray} {ls : List PLn} {ks : List PPt} {A A2 : Option Addr} {base : Nat} {W W' : World} (h : PtL nm ls ks A A2 base W) (hb : Below base W W') : PtL nm ls ks A A2 base W' := by
  obtain ⟨w0, h1, h2, h0, h3⟩ := h.ex
  exact ⟨w0, h1, h2, h0, h3.trans (hb.mono h0)⟩
theorem PtL.ls {nm : ByteArray} {ls : List PLn} {ks : List PPt} {A A2 : Option Addr} {base : Nat} {W : World} (h : PtL nm ls ks A A2 base W) : LS A ls W := by
  obtain ⟨w0, h1, h2, h0, h3⟩ := h.ex
  exact h1.later h3
/-- the k-th part within -/
theorem PtL.kid {nm : ByteArray} {ls : List PLn} {ks : List PPt} {A A2 : Option Addr} {base : Nat} {W : World} (h : PtL nm ls ks A A2 base W) (k : Nat) (hk : k < ks.length) :
    ∃ ad a b c, A2 = some ad ∧ W.cell? (ad.add (k * 3)) = some a ∧ W.cell? ⟨(ad.add (k * 3)).block, (ad.add (k * 3)).off + 1, none⟩ = some b ∧ W.cell? ⟨(ad.add (k * 3)).block, (ad.add (k * 3)).off + 2, none⟩ = some c ∧ PtB ks[k] (.agg #[a, b, c]) base W := by
  obtain ⟨w0, h1, h2, h0, h3⟩ := h.ex
  obtain ⟨ad, a, b, c, e, p0, p1, p2, hp⟩ := h2.at k hk
  rw [Nat.zero_add] at p0 p1 p2
  exact ⟨ad, a, b, c, e, (h3.cell (World.block_lt_of_cell? _ _ p0)).trans p0, (h3.cell (World.block_lt_of_cell? _ _ p1)).trans p1, (h3.cell (World.block_lt_of_cell? _ _ p2)).trans p2, w0, hp, h0, h3⟩
theorem PtB.open {nm : ByteArray} {ls : List PLn} {ks : List PPt} {v : Value} {base : Nat} {W : World} (h : PtB (.mk nm ls ks) v base W) :
    nm.size ≤ 1000000000 ∧ ls.length ≤ 1000000000 ∧ ks.length ≤ 1000000000 ∧ ∃ A c A2 c2, v = .agg #[.string nm, .slice A ls.length c, .slice A2 ks.length c2] ∧ PtL nm ls ks A A2 base W := by
  obtain ⟨w0, h, h0, h1⟩ := h
  unfold PtM at h
  obtain ⟨z1, z2, z3, A, c, A2, c2, rfl, h4, h5⟩ := h
  exact ⟨z1, z2, z3, A, c, A2, c2, rfl, ⟨w0, h4, h5, h0, h1⟩⟩
/-- what is no bytes stays as it was -/
def NT (w w' : World) : Prop := ∀ (k : Nat) (cs : Array Value) (t : TypeId) (f : Nat × Nat), w.heap[k]? = some (.cells cs t f) → t ≠ 5 → w'.heap[k]? = some (.cells cs t f)
theorem NT.refl (w : World) : NT w w := fun _ _ _ _ h _ => h
theorem NT.trans {a b c : World} (h : NT a b) (h' : NT b c) : NT a c := fun k cs t f e n => h' k cs t f (h k cs t f e n) n
theorem NT.below {w w' : World} (h : Below w.heap.size w w') : NT w w' := fun k cs t f e _ => (h.block k (Array.getElem?_eq_some_iff.1 e).1).trans e
/-- an own row of bytes is no box of another type -/
theorem BR.not_box {w : World} {base : Nat} {v : Value} {l : List UInt8} (h : BR w base v l) {B : Nat} {cs : Array Value} {t : TypeId} {f : Nat × Nat} (hb : w.heap[B]? = some (.cells cs t f)) (ht : t ≠ 5) : v.ownBlock ≠ some B := by
  rcases h.2 with ⟨h', _⟩ | ⟨g, cap, cur, h', _, hg, _⟩
  · subst h'; intro e; cases e
  · subst h'
    intro e
    obtain rfl : g = B := by simpa [Value.ownBlock] using e
    rw [hg] at hb
    cases hb
    exact ht rfl
theorem NT.grown {w w' : World} {base : Nat} {v : Value} {l : List UInt8} (h : BR w base v l) (hg : w.grownBy w' v.ownBlock) : NT w w' := fun k cs t f e n =>
  (hg.block k (Array.getElem?_eq_some_iff.1 e).1 (fun e' => h.not_box e n e'.symm)).trans e
/-- what appendPart says of a part -/
def PartA (t : PPt) : Prop := ∀ (v to : Value) (l : List UInt8) (base : Nat) (w : World), PtB t v base w → base ≤ w.heap.size → BR w base to l → l.length + (ptT t).length ≤ 1000000000 → ptz t ≤ 10000000 →
  Calls Tryd.prog 23 #[to, v] w fun e w' => ∃ v', e = .returned v' ∧ BR w' base v' (l ++ ptT t) ∧ Below base w w' ∧ NT w w'
/-- what its walk keeps -/
structure AW (w : World) (base g : Nat) (nm : ByteArray) (ls : List PLn) (ks : List PPt) (A A2 : Option Addr) (c c2 : Nat) (v : Value) (l : List UInt8) (W : World) : Prop where
  p : W.heap[g]? = some (.cells #[.string nm, .slice A ls.length c, .slice A2 ks.length c2] 25 (0, 0))
  q : PtL nm ls ks A A2 base W
  e : Below base w W
  r : BR W base v l
  lt : base ≤ g
  n : NT w W
theorem AW.cells {w : World} {base g : Nat} {nm : ByteArray} {ls : List PLn} {ks : List PPt} {A A2 : Option Addr} {c c2 : Nat} {v : Value} {l : List UInt8} {W : World} (h : AW w base g nm ls ks A A2 c c2 v l W) :
    W.cell? ⟨g, 0, none⟩ = some (.string nm) ∧ W.cell? ⟨g, 1, none⟩ = some (.slice A ls.length c) ∧ W.cell? ⟨g, 2, none⟩ = some (.slice A2 ks.length c2) :=
  ⟨cell_of_row _ _ _ _ _ (0, 0) h.p, cell_of_row _ _ _ _ _ (0, 0) h.p, cell_of_row _ _ _ _ _ (0, 0) h.p⟩
theorem AW.glt {w : World} {base g : Nat} {nm : ByteArray} {ls : List PLn} {ks : List PPt} {A A2 : Option Addr} {c c2 : Nat} {v : Value} {l : List UInt8} {W : World} (h : AW w base g nm ls ks A A2 c c2 v l W) : g < W.heap.size := (Array.getElem?_eq_some_iff.1 h.p).1
theorem AW.bs {w : World} {base g : Nat} {nm : ByteArray} {ls : List PLn} {ks : List PPt} {A A2 : Option Addr} {c c2 : Nat} {v : Value} {l : List UInt8} {W : World} (h : AW w base g nm ls ks A A2 c c2 v l W) : base ≤ W.heap.size := by
  have := h.glt
  have := h.lt
  omega
theorem AW.next {w : World} {base g : Nat} {nm : ByteArray} {ls : List PLn} {ks : List PPt} {A A2 : Option Addr} {c c2 : Nat} {v v' : Value} {l l' : List UInt8} {W W' : World} (h : AW w base g nm ls ks A A2 c c2 v l W) (hr : BR W' base v' l') (hb : Below base W W') (hn : NT W W') : AW w base g nm ls ks A A2 c c2 v' l' W' :=
  ⟨hn _ _ _ _ h.p (by decide), h.q.later hb, h.e.trans hb, hr, h.lt, h.n.trans hn⟩
theorem AW.later {w : World} {base g : Nat} {nm : ByteArray} {ls : List PLn} {ks : List PPt} {A A2 : Option Addr} {c c2 : Nat} {v : Value} {l : List UInt8} {W W' : World} (h : AW w base g nm ls ks A A2 c c2 v l W) (hb : Below W.heap.size W W') : AW w base g nm ls ks A A2 c c2 v l W' :=
  h.next (h.r.later hb) (hb.mono h.bs) (.below hb)
theorem AW.grown {w : World} {base g : Nat} {nm : ByteArray} {ls : List PLn} {ks : List PPt} {A A2 : Option Addr} {c c2 : Nat} {v v' : Value} {l l' : List UInt8} {W W' : World} (h : AW w base g nm ls ks A A2 c c2 v l W) (hr : BR W' base v' l') (hg : W.grownBy W' v.ownBlock) (hb : Below base W W') : AW w base g nm ls ks A A2 c c2 v' l' W' :=
  h.next hr hb (.grown h.r hg)
theorem bgT_tx (nm : ByteArray) : Tl.tx (⟨#[66, 69, 71, 73, 78, 58]⟩ ++ nm) = bgT nm := by rw [Tl.tx_app]; rfl
theorem enT_tx (nm : ByteArray) : Tl.tx (⟨#[69, 78, 68, 58]⟩ ++ nm) = enT nm := by rw [Tl.tx_app]; rfl
set_option maxRecDepth 100000 in
set_option maxHeartbeats 8000000 in
theorem partA_step (nm : ByteArray) (ls : List PLn) (ks : List PPt) (IH : ∀ k (h : k < ks.length), PartA ks[k]) : PartA (.mk nm ls ks) := by
  intro v to l base w hp hbase hr hlen hz
  obtain ⟨z1, z2, z3, A, c, A2, c2, rfl, hl⟩ := hp.open
  clear hp
  have hnm : nm.size ≤ 10000000 := by simp only [ptz] at hz; omega
  have hlz : lsz ls ≤ 10000000 := by simp only [ptz] at hz; omega
  have hkz : ptsz ks ≤ 10000000 := by simp only [ptz] at hz; omega
  have HE : Hid (ptT (.mk nm ls ks) = fld (bgT nm) ++ lsT ls ++ ptsT ks ++ fld (enT nm)) := by show _ = _; simp only [ptT]
  have hsz : (⟨#[66, 69, 71, 73, 78, 58]⟩ ++ nm : ByteArray).size = 6 + nm.size := by rw [ByteArray.size_append]; rfl
  have hsz2 : (⟨#[69, 78, 68, 58]⟩ ++ nm : ByteArray).size = 4 + nm.size := by rw [ByteArray.size_append]; rfl
  have K1 := hide (fun W => fold_any (⟨#[66, 69, 71, 73, 78, 58]⟩ ++ nm) (fld (bgT nm)) W (by omega) (by rw [bgT_tx]; exact fld_is _) (by have := fld_len (bgT nm); have := bgT_len nm; omega))
  have K3 := hide (fun W => fold_any (⟨#[69, 78, 68, 58]⟩ ++ nm) (fld (enT nm)) W (by omega) (by rw [enT_tx]; exact fld_is _) (by have := fld_len (enT nm); have := enT_len nm; omega))
  have hb1 : Below w.heap.size w (w.alloc (.cells #[.string nm, .slice A ls.length c, .slice A2 ks.length c2] 25)) := (Below.refl _ w).alloc (Nat.le_refl _) _
  have HW := hide (AW.mk (World.alloc_heap_new w (.cells #[.string nm, .slice A ls.length c, .slice A2 ks.length c2] 25)) (hl.later (hb1.mono hbase)) (hb1.mono hbase) (hr.later hb1) hbase (.below hb1))
  obtain ⟨a0, l0, c0, rfl⟩ := ownr_form' hr
  have HLZ := hide (And.intro hlz hkz)
  have HI := hide IH
  rw [HE.out] at hlen ⊢
  simp only [List.length_append] at hlen
  clear IH hl hr hz hb1 HE hlz hkz
  generalize hB : fld (bgT nm) = B at *
  generalize hN : fld (enT nm) = N at *
  clear hB hN
  go_enter Tryd.func23, Tryd.ntmps23
  go_upto_region 1 with fail
  obtain ⟨W0, hW0⟩ : ∃ W0, (w.alloc (.cells #[.string nm, .slice A ls.length c, .slice A2 ks.length c2] 25)) = W0 := ⟨_, rfl⟩
  rw [hW0] at HW ⊢
  have hw := HW.out
  clear hW0 HW
  generalize w.heap.size = g at *
  obtain ⟨c0', c1, c2'⟩ := hw.cells
  have hw2 := hw
  have hx0 := hw.bs
  have hrr := hw.r
  have HW := hide hw
  clear hw hw2
  go_wp2_with (first
    | (go_at_call 34; refine (K1.out _).mono ?_; rintro e w1 ⟨rfl, b1⟩
       have hw1 := HW.out.later b1
       have hrr1 := hw1.r
       have hx1 := hw1.bs
       clear HW b1 hrr hx0)
    | (at_builtin; refine wpList_append_brs rfl (.tmp 9) (.tmp 13) rfl base _ l rfl hrr1 (Tl.str B) rfl (by rw [Tl.str_size]; omega) hx1 ?_; intro v1 w2 q1 q2 q3
       have hw2 := hw1.grown q1 q2 q3
       rw [Tl.tx_str] at hw2
       clear hw1 q1 q2 q3 hrr1 hx1
       obtain ⟨c0', c1, c2'⟩ := hw2.cells))
  have HW2 := hide hw2
  clear hw2
  go_loopw [0, 18] (fun u i wr => ∃ k : Nat, k ≤ ls.length ∧ i = .int .i64 k ∧ AW w base g nm ls ks A A2 c c2 u (l ++ B ++ lsT (ls.take k)) wr) (fun _ i _ => ls.length - (intOf i).toNat)
  case atStart => exact ⟨0, by omega, rfl, by rw [List.take_zero, lsT, List.append_nil]; exact HW2.out⟩
  case round =>
    clear HW2 c0' c1 c2'
    obtain ⟨k, hk, rfl, hw⟩ := hrel
    by_cases hlt : k < ls.length
    · have hi : (k : Int) < ls.length := by omega
      obtain ⟨ad, Av, cv, hA, p0, p1, p2, hs, hok⟩ := hw.q.ls k hlt
      subst hA
      have hst : l ++ B ++ lsT (ls.take (k + 1)) = l ++ B ++ lsT (ls.take k) ++ fld (lT ls[k]) := by rw [lsT_step _ _ hlt, List.append_assoc (l ++ B)]
      have hle := lsT_le ls (k + 1)
      rw [lsT_step _ _ hlt, List.length_append] at hle
      have hL : (l ++ B ++ lsT (ls.take k)).length + (fld (lT ls[k])).length ≤ 1000000000 := by simp only [List.length_append]; omega
      have h1 := lT_len ls[k]
      have h2 := lnz_le ls k hlt
      have h3 := HLZ.out.1
      have h4 := fld_len (lT ls[k])
      have KF := hide (fun W => fold_any (Tl.str (lT ls[k])) (fld (lT ls[k])) W (by rw [Tl.str_size]; omega) (by rw [Tl.tx_str]; exact fld_is _) (by omega))
      have HLT : Hid ((lT ls[k]).length ≤ 1000000000) := hide (by omega)
      have HST := hide hst
      have HW := hide hw
      clear hst hle h1 h2 h3 h4 hw
      generalize l ++ B ++ lsT (ls.take k) = L at *
      generalize ls[k] = y at *
      have hb1 : Below wr.heap.size wr (wr.alloc (.cells #[.string y.n, .slice Av y.ps.length cv, .string y.v] 56)) := (Below.refl _ wr).alloc (Nat.le_refl _) _
      have KL := hide (lineText_any y Av cv _ (hs.later hb1) hok HLT.out)
      have HW1 := hide (HW.out.later hb1)
      clear hs hok hb1 HW HLT
      generalize fld (lT y) = Y at *
      go_wp2_with (first
        | (go_at_call 35; refine KL.out.mono ?_; rintro e w1 ⟨rfl, b1⟩
           have hw1 := HW1.out.later b1
           clear HW1 b1 KL)
        | (go_at_call 34; refine (KF.out _).mono ?_; rintro e w2 ⟨rfl, b2⟩
           have hw2 := hw1.later b2
           have hrr2 := hw2.r
           have hx2 := hw2.bs
           clear hw1 b2 KF)
        | (at_builtin; refine wpList_append_brs rfl (.tmp 22) (.tmp 25) rfl base _ L rfl hrr2 (Tl.str Y) rfl (by rw [Tl.str_size]; omega) hx2 ?_; intro v3 w3 q1 q2 q3
           have hw3 := hw2.grown q1 q2 q3
           rw [Tl.tx_str, ← HST.out] at hw3
           clear hw2 q1 q2 q3 hrr2 hx2))
      go_roundw
      case rel => exact ⟨k + 1, by omega, by go_num, hw3⟩
      case measure => simp [intOf]; omega
    · obtain rfl : k = ls.length := by omega
      have hi : ¬ (ls.length : Int) < ls.length := by omega
      rw [List.take_length] at hw
      obtain ⟨c0', c1, c2'⟩ := hw.cells
      have hL0 : (l ++ B ++ lsT ls).length + (ptsT ks).length + N.length ≤ 1000000000 := by simp only [List.length_append]; omega
      have HEND : Hid (∀ X : List UInt8, l ++ B ++ lsT ls ++ X ++ N = l ++ (B ++ lsT ls ++ X ++ N)) := fun X => by simp only [List.append_assoc]
      generalize l ++ B ++ lsT ls = L at *
      have HW2 := hide hw
      clear hw hlen
      go_wp2_with fail
      go_loopw [0, 31] (fun u i wx => ∃ k : Nat, k ≤ ks.length ∧ i = .int .i64 k ∧ AW w base g nm ls ks A A2 c c2 u (L ++ ptsT (ks.take k)) wx) (fun _ i _ => ks.length - (intOf i).toNat)
      case atStart => exact ⟨0, by omega, rfl, by rw [List.take_zero, ptsT, List.append_nil]; exact HW2.out⟩
      case round =>
        clear c0' c1 c2' HW2
        obtain ⟨k, hk2, rfl, hw⟩ := hrel
        by_cases hlt2 : k < ks.length
        · have hi2 : (k : Int) < ks.length := by omega
          obtain ⟨ad, a, b, cc, hA, p0, p1, p2, hp⟩ := hw.q.kid k hlt2
          subst hA
          have hst : L ++ ptsT (ks.take (k + 1)) = L ++ ptsT (ks.take k) ++ ptT ks[k] := by rw [ptsT_step _ _ hlt2, List.append_assoc]
          have hle := ptsT_le ks (k + 1)
          rw [ptsT_step _ _ hlt2, List.length_append] at hle
          have hL : (L ++ ptsT (ks.take k)).length + (ptT ks[k]).length ≤ 1000000000 := by simp only [List.length_append]; omega
          have h2 := ptz_le ks k hlt2
          have h3 := HLZ.out.2
          have HP := HI.out k hlt2
          obtain ⟨nm', ls', ks', ek⟩ : ∃ nm' ls' ks', ks[k] = PPt.mk nm' ls' ks' := by
            cases ks[k] with
            | mk a b c => exact ⟨a, b, c, rfl⟩
          have hp2 := hp
          rw [ek] at hp2
          obtain ⟨_, _, _, A', c', A2', c2', e', _⟩ := hp2.open
          simp only [Value.agg.injEq, Array.mk.injEq, List.cons.injEq, and_true] at e'
          obtain ⟨rfl, rfl, rfl⟩ := e'
          clear ek hp2
          have hb1 : Below wr.heap.size wr (wr.alloc (.cells #[.string nm', .slice A' ls'.length c', .slice A2' ks'.length c2'] 25)) := (Below.refl _ wr).alloc (Nat.le_refl _) _
          have hw1 := hw.later hb1
          have KP := hide (HP _ _ _ base _ (hp.later (hb1.mono hw.bs)) hw1.bs hw1.r hL (by omega))
          have HST := hide hst
          have HW1 := hide hw1
          clear hst hle h2 h3 HP hp hw hw1 hb1 hL
          generalize L ++ ptsT (ks.take k) = L2 at *
          generalize ptT ks[k] = Y at *
          go_wp2_with (go_at_call 23; refine KP.out.mono ?_; rintro e w1 ⟨v1, rfl, q1, q2, q3⟩
                       have hw1 := HW1.out.next q1 q2 q3
                       rw [← HST.out] at hw1
                       clear HW1 KP q1 q2 q3)
          go_roundw
          case rel => exact ⟨k + 1, by omega, by go_num, hw1⟩
          case measure => simp [intOf]; omega
        · obtain rfl : k = ks.length := by omega
          have hi2 : ¬ (ks.length : Int) < ks.length := by omega
          rw [List.take_length] at hw
          obtain ⟨c0', c1, c2'⟩ := hw.cells
          have hL1 : (L ++ ptsT ks).length + N.length ≤ 1000000000 := by simp only [List.length_append]; omega
          have HE2 := hide (HEND.out (ptsT ks))
          generalize L ++ ptsT ks = L2 at *
          have HW := hide hw
          clear hw hL0 HEND
          go_wp2_with (first
            | (go_at_call 34; refine (K3.out _).mono ?_; rintro e w1 ⟨rfl, b1⟩
               have hw1 := HW.out.later b1
               have hrr1 := hw1.r
               have hx1 := hw1.bs
               clear HW b1)
            | (at_builtin; refine wpList_append_brs rfl (.tmp 39) (.tmp 43) rfl base _ L2 rfl hrr1 (Tl.str N) rfl (by rw [Tl.str_size]; omega) hx1 ?_; intro v2 w2 q1 q2 q3
               have hw2 := hw1.grown q1 q2 q3
               rw [Tl.tx_str, HE2.out] at hw2
               clear hw1 q1 q2 q3 hrr1 hx1))
          go_ret
          exact ⟨_, rfl, hw2.r, hw2.e, hw2.n⟩
mutual
theorem partA_any : ∀ t, PartA t
  | .mk nm ls ks => partA_step nm ls ks (partsA_any ks)
theorem partsA_any : ∀ (ks : List PPt) (k : Nat) (h : k < ks.length), PartA ks[k]
  | [], k, h => absurd h (Nat.not_lt_zero _)
  | x :: ks, 0, h => partA_any x
  | x :: ks, k + 1, h => partsA_any ks k (by simpa using h)
end
end Go.Proofs.YtponocolfjkapaaDoor
