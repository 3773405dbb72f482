/- The reference's partText. -/
import Derived.Test.YtponocolfjkapaaDoorMTextBackUpto28
import Derived.Test.YtponocolfjkapaaDoorMTextBackUpto16
import Derived.Test.YtponocolfjkapaaDoorMTextBackUpto17
import Derived.Test.YtponocolfjkapaaDoorMTextBackUpto24
import Derived.Deep.Cut
namespace Go.Proofs.YtponocolfjkapaaDoor
open Go.RowKit Go.Shelf
set_option linter.unusedVariables false
set_option linter.unusedSimpArgs false

theorem eF_all {e : Nat → Int} : ∀ {n : Nat}, eF e n = 0 → ∀ k, k < n → e k = 0
  | 0, _, k, h => absurd h (Nat.not_lt_zero _)
  | n + 1, h, k, hk => by
    unfold eF at h
    split at h
    · rename_i h0
      by_cases c : k = n
      · rw [c]; exact h
      · exact eF_all h0 k (by omega)
    · rename_i h0
      exact absurd h h0
/-- each param of each line has values -/
def NeL (x : PLn) : Prop := ∀ k (h : k < x.ps.length), 0 < x.ps[k].vs.length
def NeLs (ls : List PLn) : Prop := ∀ k (h : k < ls.length), NeL ls[k]
mutual
def NeT : PPt → Prop
  | .mk nm ls ks => NeLs ls ∧ NeTs ks
def NeTs : List PPt → Prop
  | [] => True
  | k :: ks => NeT k ∧ NeTs ks
end
theorem NeTs.at : ∀ {ks : List PPt}, NeTs ks → ∀ k (h : k < ks.length), NeT ks[k]
  | x :: ks, h, 0, _ => by unfold NeTs at h; exact h.1
  | x :: ks, h, k + 1, hk => by unfold NeTs at h; exact NeTs.at h.2 k (by simpa using hk)
theorem NeL.of (x : PLn) (h : eL x = 0) : NeL x := by
  intro k hk
  unfold eL at h
  split at h
  · exact absurd h (by decide)
  split at h
  · exact absurd h (by decide)
  split at h
  · exact absurd h (by decide)
  split at h
  · rename_i h0
    have := eF_all h0 k hk
    unfold eP2 at this
    rw [List.getElem?_eq_getElem hk] at this
    simp only [eP] at this
    split at this
    · exact absurd this (by decide)
    split at this
    · exact absurd this (by decide)
    · omega
  · rename_i h0
    exact absurd h h0
theorem NeLs.of (ls : List PLn) (h : eF (eL2 ls) ls.length = 0) : NeLs ls := by
  intro k hk
  have := eF_all h k hk
  unfold eL2 at this
  rw [List.getElem?_eq_getElem hk] at this
  exact NeL.of _ this
mutual
theorem NeT.of : ∀ (t : PPt) (d n : Int), (chk t d n).1 = 0 → NeT t
  | .mk nm ls ks, d, n, h => by
    unfold chk at h
    unfold NeT
    split at h
    · exact absurd h (by show ¬ (6 : Int) = 0; decide)
    · split at h
      · exact absurd h (by show ¬ (6 : Int) = 0; decide)
      · split at h
        · exact absurd h (by show ¬ (8 : Int) = 0; decide)
        · split at h
          · rename_i e4
            exact ⟨NeLs.of ls e4, NeTs.of ks _ _ h⟩
          · rename_i e4
            exact absurd h e4
theorem NeTs.of : ∀ (ks : List PPt) (d n : Int), (chks ks d n).1 = 0 → NeTs ks
  | [], _, _, _ => by unfold NeTs; trivial
  | k :: ks, d, n, h => by
    unfold chks at h
    unfold NeTs
    split at h
    · rename_i e
      exact ⟨NeT.of k d n e, NeTs.of ks d _ h⟩
    · rename_i e
      exact absurd h e
end
/-- the values so far, behind the = -/
def vR (l : List ByteArray) : List UInt8 := (vT 0 l).drop 1
theorem vR_nil : vR [] = [] := by simp [vR, vT]
theorem vR_one (l : List ByteArray) (h : 0 < l.length) : [61] ++ vR l = vT 0 l := by
  cases l with
  | nil => exact absurd h (by simp)
  | cons v l => simp [vR, vT]
theorem vR_step (l : List ByteArray) (k : Nat) (h : k < l.length) : vR (l.take (k + 1)) = if k = 0 then Tl.tx (quo l[k]) else vR (l.take k) ++ [44] ++ Tl.tx (quo l[k]) := by
  have h1 := vT_app 0 (l.take k) l[k]
  rw [List.length_take, Nat.zero_add, Nat.min_eq_left (by omega)] at h1
  have e : l.take (k + 1) = l.take k ++ [l[k]] := by rw [List.take_add_one, List.getElem?_eq_getElem h]; rfl
  unfold vR
  rw [e, h1]
  by_cases c : k = 0
  · subst c; simp [vT]
  · rw [if_neg c, if_neg c]
    have hp : 0 < (vT 0 (l.take k)).length := by
      cases l with
      | nil => simp at h
      | cons v l =>
        cases k with
        | zero => exact absurd rfl c
        | succ k => simp [vT]
    rw [List.drop_append_of_le_length (by omega)]
    simp
/-- what partText says of a part -/
def PartX (t : PPt) : Prop := ∀ (v : Value) (w : World), PtM t v w → NeT t → ptz t ≤ 10000000 →
  Calls Tryd.prog 16 #[v] w fun e w' => e = .returned (.string (Tl.str (ptT t))) ∧ Below w.heap.size w w'
/-- what its walk keeps -/
structure XW (w : World) (nm : ByteArray) (ls : List PLn) (ks : List PPt) (A A2 : Option Addr) (c c2 : Nat) (W : World) : Prop where
  p : W.heap[w.heap.size]? = some (.cells #[.string nm, .slice A ls.length c, .slice A2 ks.length c2] 25 (0, 0))
  l : LS A ls W
  k : KsM ks A2 0 W
  e : Below w.heap.size w W
theorem XW.cells {w : World} {nm : ByteArray} {ls : List PLn} {ks : List PPt} {A A2 : Option Addr} {c c2 : Nat} {W : World} (h : XW w nm ls ks A A2 c c2 W) :
    W.cell? ⟨w.heap.size, 0, none⟩ = some (.string nm) ∧ W.cell? ⟨w.heap.size, 1, none⟩ = some (.slice A ls.length c) ∧ W.cell? ⟨w.heap.size, 2, none⟩ = some (.slice A2 ks.length c2) :=
  ⟨cell_of_row _ _ _ _ _ (0, 0) h.p, cell_of_row _ _ _ _ _ (0, 0) h.p, cell_of_row _ _ _ _ _ (0, 0) h.p⟩
theorem XW.later {w : World} {nm : ByteArray} {ls : List PLn} {ks : List PPt} {A A2 : Option Addr} {c c2 : Nat} {W W' : World} (h : XW w nm ls ks A A2 c c2 W) (hb : Below W.heap.size W W') : XW w nm ls ks A A2 c c2 W' :=
  ⟨(hb.block _ (Array.getElem?_eq_some_iff.1 h.p).1).trans h.p, h.l.later hb, KsM.later hb _ _ _ h.k, h.e.trans (hb.mono h.e.size)⟩
/-- and within a line: its box, too -/
structure YW (w : World) (nm : ByteArray) (ls : List PLn) (ks : List PPt) (A A2 : Option Addr) (c c2 : Nat) (g : Nat) (x : PLn) (Av : Option Addr) (cv : Nat) (W : World) : Prop where
  q : XW w nm ls ks A A2 c c2 W
  b : LnBox W g x Av cv
  s : PS Av x.ps W
theorem YW.later {w : World} {nm : ByteArray} {ls : List PLn} {ks : List PPt} {A A2 : Option Addr} {c c2 : Nat} {g : Nat} {x : PLn} {Av : Option Addr} {cv : Nat} {W W' : World} (h : YW w nm ls ks A A2 c c2 g x Av cv W) (hb : Below W.heap.size W W') : YW w nm ls ks A A2 c c2 g x Av cv W' :=
  ⟨h.q.later hb, h.b.later hb, h.s.later hb⟩
set_option maxRecDepth 100000 in
set_option maxHeartbeats 8000000 in
theorem partX_step (nm : ByteArray) (ls : List PLn) (ks : List PPt) (IH : ∀ k (h : k < ks.length), PartX ks[k]) : PartX (.mk nm ls ks) := by
  intro v w hp hne hz
  unfold PtM at hp
  obtain ⟨z1, z2, z3, A, c, A2, c2, rfl, hls, hks⟩ := hp
  unfold NeT at hne
  obtain ⟨hnl, hnk⟩ := hne
  have hnm : nm.size ≤ 10000000 := by simp only [ptz] at hz; omega
  have hlz : lsz ls ≤ 10000000 := by simp only [ptz] at hz; omega
  have hkz : ptsz ks ≤ 10000000 := by simp only [ptz] at hz; omega
  have hB1 := fld_len (bgT nm)
  have hN1 := fld_len (enT nm)
  have hB2 := bgT_len nm
  have hN2 := enT_len nm
  have hl1 := lsT_len ls
  have hk1 := ptsT_len ks
  have HE : Hid (ptT (.mk nm ls ks) = fld (bgT nm) ++ lsT ls ++ ptsT ks ++ fld (enT nm)) := by show _ = _; simp only [ptT]
  have hsz : (⟨#[66, 69, 71, 73, 78, 58]⟩ ++ nm : ByteArray).size = 6 + nm.size := by rw [ByteArray.size_append]; rfl
  have hsz2 : (⟨#[69, 78, 68, 58]⟩ ++ nm : ByteArray).size = 4 + nm.size := by rw [ByteArray.size_append]; rfl
  have K1 := hide (fun W => rfold_any (⟨#[66, 69, 71, 73, 78, 58]⟩ ++ nm) (fld (bgT nm)) W (by omega) (by rw [Tl.tx_app]; exact fld_is _) (by omega))
  have K3 := hide (fun W => rfold_any (⟨#[69, 78, 68, 58]⟩ ++ nm) (fld (enT nm)) W (by omega) (by rw [Tl.tx_app]; exact fld_is _) (by omega))
  have hb1 : Below w.heap.size w (w.alloc (.cells #[.string nm, .slice A ls.length c, .slice A2 ks.length c2] 25)) := (Below.refl _ w).alloc (Nat.le_refl _) _
  have HW := hide (XW.mk (World.alloc_heap_new w (.cells #[.string nm, .slice A ls.length c, .slice A2 ks.length c2] 25)) (hls.later hb1) (KsM.later hb1 _ _ _ hks) hb1)
  have hB : (fld (bgT nm)).length ≤ 41000000 := by omega
  have hN : (fld (enT nm)).length ≤ 41000000 := by omega
  have hl2 : (lsT ls).length ≤ 120000000 := by omega
  have hk2 : (ptsT ks).length ≤ 440000000 := by omega
  have HLZ := hide (And.intro hlz hkz)
  have HI := hide IH
  have HNE := hide (And.intro hnl hnk)
  rw [HE.out]
  clear IH hls hks hz hb1 HE hlz hkz hnl hnk hB1 hB2 hN1 hN2 hl1 hk1
  generalize hBB : fld (bgT nm) = B at *
  generalize hNN : fld (enT nm) = N at *
  clear hBB hNN
  go_enter Tryd.func16, Tryd.ntmps16
  go_upto_region 1 with fail
  obtain ⟨W0, hW0⟩ : ∃ W0, (w.alloc (.cells #[.string nm, .slice A ls.length c, .slice A2 ks.length c2] 25)) = W0 := ⟨_, rfl⟩
  rw [hW0] at HW ⊢
  have hw := HW.out
  clear hW0
  obtain ⟨c0', c1, c2'⟩ := hw.cells
  clear hw
  go_wp2_with (go_at_call 25; refine (K1.out _).mono ?_; rintro e w1 ⟨rfl, b1⟩
               have hw1 := HW.out.later b1
               clear HW b1 c0' c1 c2'
               obtain ⟨c0', c1, c2'⟩ := hw1.cells)
  have HW2 := hide hw1
  clear hw1
  go_loopw [3, 20] (fun u i wr => ∃ k : Nat, k ≤ ls.length ∧ i = .int .i64 k ∧ u = .string (Tl.str (B ++ lsT (ls.take k))) ∧ XW w nm ls ks A A2 c c2 wr) (fun _ i _ => ls.length - (intOf i).toNat)
  case atStart => exact ⟨0, by omega, rfl, by rw [List.take_zero, lsT, List.append_nil], HW2.out⟩
  case round =>
    clear HW2 c0' c1 c2'
    obtain ⟨k, hk, rfl, rfl, hw⟩ := hrel
    by_cases hlt : k < ls.length
    · have hi : (k : Int) < ls.length := by omega
      obtain ⟨ad, Av, cv, hA, p0, p1, p2, hs, hok⟩ := hw.l k hlt
      subst hA
      have hst : B ++ lsT (ls.take (k + 1)) = B ++ lsT (ls.take k) ++ fld (lT ls[k]) := by rw [lsT_step _ _ hlt, List.append_assoc B]
      have hle := lsT_le ls (k + 1)
      rw [lsT_step _ _ hlt, List.length_append] at hle
      have hL : (B ++ lsT (ls.take k)).length + (fld (lT ls[k])).length ≤ 161000000 := by simp only [List.length_append]; omega
      have h1 := lT_len ls[k]
      have h2 := lnz_le ls k hlt
      have h3 := HLZ.out.1
      have h4 := fld_len (lT ls[k])
      have hne := HNE.out.1 k hlt
      have HLT : Hid ((lT ls[k]).length ≤ 30000001) := hide (by omega)
      have HST := hide hst
      clear hst hle h1 h2 h3 h4
      generalize B ++ lsT (ls.take k) = T at *
      generalize ls[k] = y at *
      have hlt2 := HLT.out
      unfold lT at hlt2
      simp only [List.length_append, List.length_cons, Tl.tx_len] at hlt2
      have KF := hide (fun W => rfold_any (Tl.str (Tl.tx y.n ++ psT y.ps) ++ ⟨#[58]⟩ ++ y.v) (fld (lT y)) W (by rw [ByteArray.size_append, ByteArray.size_append, Tl.str_size, List.length_append, Tl.tx_len]; have : (⟨#[58]⟩ : ByteArray).size = 1 := rfl; omega)
        (by rw [show Tl.tx (Tl.str (Tl.tx y.n ++ psT y.ps) ++ ⟨#[58]⟩ ++ y.v) = lT y by rw [Tl.tx_app, Tl.tx_app, Tl.tx_str]; unfold lT; rw [List.append_assoc (Tl.tx y.n ++ psT y.ps)]; rfl]; exact fld_is _) (by omega))
      have HPL : Hid (∀ j, (psT (y.ps.take j)).length ≤ (psT y.ps).length) := fun j => psT_le y.ps j
      have hb1 : Below wr.heap.size wr (wr.alloc (.cells #[.string y.n, .slice Av y.ps.length cv, .string y.v] 56)) := (Below.refl _ wr).alloc (Nat.le_refl _) _
      have HY := hide (YW.mk (g := wr.heap.size) (x := y) (Av := Av) (cv := cv) (hw.later hb1) (World.alloc_heap_new wr _) (hs.later hb1))
      have HO := hide hok
      have hpl := hok.l
      clear hs hok hb1 hw
      generalize fld (lT y) = Y at *
      go_wp2_with fail
      generalize wr.heap.size = g at *
      go_loopw [6, 29] (fun u i wx => ∃ j : Nat, j ≤ y.ps.length ∧ i = .int .i64 j ∧ u = .string (Tl.str (Tl.tx y.n ++ psT (y.ps.take j))) ∧ YW w nm ls ks (some ad) A2 c c2 g y Av cv wx) (fun _ i _ => y.ps.length - (intOf i).toNat)
      case atStart => exact ⟨0, by omega, rfl, by rw [List.take_zero, show psT [] = [] from rfl, List.append_nil, Tl.str_tx], HY.out⟩
      case round =>
        clear HY
        obtain ⟨j, hj, rfl, rfl, hq⟩ := hrel
        by_cases hlj : j < y.ps.length
        · have hi2 : (j : Int) < y.ps.length := by omega
          obtain ⟨ad2, Av2, cv2, hA2, q0, q1, hsl⟩ := hq.s j hlj
          subst hA2
          have hst2 : Tl.tx y.n ++ psT (y.ps.take (j + 1)) = Tl.tx y.n ++ psT (y.ps.take j) ++ pT y.ps[j] := by rw [psT_step _ _ hlj, List.append_assoc]
          have h1 := HPL.out (j + 1)
          have hL2 : (Tl.tx y.n ++ psT (y.ps.take j) ++ pT y.ps[j]).length ≤ 31000000 := by rw [← hst2, List.length_append, Tl.tx_len]; omega
          have hne2 := hne j hlj
          have hok2 := HO.out.p j hlj
          have HST2 := hide hst2
          clear hst2 h1
          generalize Tl.tx y.n ++ psT (y.ps.take j) = L at *
          generalize y.ps[j] = x at *
          have hb2 : Below wr.heap.size wr (wr.alloc (.cells #[.string x.n, .slice Av2 x.vs.length cv2] 58)) := (Below.refl _ wr).alloc (Nat.le_refl _) _
          have HSL := hide (fun W (hb : Below wr.heap.size wr W) => hsl.later hb)
          have HQ := hide (And.intro (hq.later hb2) hb2)
          have hxl := hok2.l
          have HO2 := hide hok2
          have hL3 := hL2
          unfold pT at hL3
          simp only [List.length_append, List.length_cons, Tl.tx_len] at hL3
          have hz0 : L.length ≤ 31000000 := by omega
          have hz1 : x.n.size ≤ 31000000 := by omega
          clear hq hsl hb2 hok2
          have hs1 : (Tl.str L).size ≤ 31000000 := by rw [Tl.str_size]; exact hz0
          have q59 : (⟨#[59]⟩ : ByteArray).size = 1 := rfl
          have q61 : (⟨#[61]⟩ : ByteArray).size = 1 := rfl
          have hs2 : (Tl.str L).size + (⟨#[59]⟩ : ByteArray).size ≤ 32000000 := by omega
          have hs3 : (Tl.str L).size + (⟨#[59]⟩ : ByteArray).size + x.n.size ≤ 63000000 := by omega
          have hs4 : (Tl.str L).size + (⟨#[59]⟩ : ByteArray).size + x.n.size + (⟨#[61]⟩ : ByteArray).size ≤ 64000000 := by omega
          have HS0 : Hid (Tl.str L ++ ⟨#[59]⟩ ++ x.n ++ ⟨#[61]⟩ = Tl.str (L ++ [59] ++ Tl.tx x.n ++ [61] ++ vR (x.vs.take 0))) := by
            show _ = _
            apply Tl.tx_inj
            rw [List.take_zero, vR_nil, List.append_nil, Tl.tx_app, Tl.tx_app, Tl.tx_app, Tl.tx_str, Tl.tx_str]; rfl
          go_wp2_with fail
          rw [HS0.out]
          obtain ⟨E0, hE0⟩ : ∃ E0, Tl.str (L ++ [59] ++ Tl.tx x.n ++ [61] ++ vR (x.vs.take 0)) = E0 := ⟨_, rfl⟩
          rw [hE0]
          have HE0 := hide hE0
          clear hE0
          go_loopw [6, 42] (fun u i wv => ∃ m : Nat, m ≤ x.vs.length ∧ i = .int .i64 m ∧ u = .string (Tl.str (L ++ [59] ++ Tl.tx x.n ++ [61] ++ vR (x.vs.take m))) ∧ YW w nm ls ks (some ad) A2 c c2 g y (some ad2) cv wv ∧ Below wr.heap.size wr wv) (fun _ i _ => x.vs.length - (intOf i).toNat)
          case atStart => exact ⟨0, by omega, rfl, by rw [HE0.out], HQ.out.1, HQ.out.2⟩

          case round =>
            clear HQ HS0 HE0
            obtain ⟨m, hm, rfl, rfl, hq, hbq⟩ := hrel
            by_cases hlm : m < x.vs.length
            · have hi3 : (m : Int) < x.vs.length := by omega
              obtain ⟨ad3, hA3, hc3⟩ := (HSL.out wr hbq) m hlm
              subst hA3
              have hst3 := vR_step x.vs m hlm
              have hvl := vT_le 0 x.vs (m + 1)
              have hvs := HO2.out.v m hlm
              have hqs := quo_size x.vs[m]
              have hE0 : (L ++ [59] ++ Tl.tx x.n ++ [61] ++ vR (x.vs.take (m + 1))).length ≤ 31000002 := by
                unfold vR
                simp only [List.length_append, List.length_cons, List.length_nil, List.length_drop, Tl.tx_len]
                omega
              have HQQ : Hid (quo x.vs[m] = if (hasB x.vs[m] 44 || hasB x.vs[m] 59 || hasB x.vs[m] 58) = true then ⟨#[34]⟩ ++ x.vs[m] ++ ⟨#[34]⟩ else x.vs[m]) := by
                show _ = _
                unfold quo
                rw [anyE_eq]
              have KA := hide (fun c W => has_one x.vs[m] c W hvs)
              have HYW := hide (And.intro hq hbq)
              have hEz : (Tl.str (L ++ [59] ++ Tl.tx x.n ++ [61] ++ vR (x.vs.take m))).size + 1 + (quo x.vs[m]).size ≤ 63000000 := by
                have e : (quo x.vs[m]).size ≤ (vR (x.vs.take (m + 1))).length := by
                  rw [hst3]
                  split
                  · rw [Tl.tx_len]; omega
                  · simp only [List.length_append, Tl.tx_len]; omega
                have e2 : (vR (x.vs.take m)).length ≤ (vT 0 x.vs).length := by
                  unfold vR
                  rw [List.length_drop]
                  have := vT_le 0 x.vs m
                  omega
                rw [Tl.str_size]
                simp only [List.length_append, List.length_cons, List.length_nil, Tl.tx_len] at hE0 ⊢
                omega
              have HNX : Hid ((m = 0 → Tl.str (L ++ [59] ++ Tl.tx x.n ++ [61] ++ vR (x.vs.take m)) ++ quo x.vs[m] = Tl.str (L ++ [59] ++ Tl.tx x.n ++ [61] ++ vR (x.vs.take (m + 1)))) ∧
                  (m ≠ 0 → Tl.str (L ++ [59] ++ Tl.tx x.n ++ [61] ++ vR (x.vs.take m)) ++ ⟨#[44]⟩ ++ quo x.vs[m] = Tl.str (L ++ [59] ++ Tl.tx x.n ++ [61] ++ vR (x.vs.take (m + 1))))) := by
                refine ⟨fun e => ?_, fun e => ?_⟩
                · subst e
                  apply Tl.tx_inj
                  rw [Tl.tx_app, Tl.tx_str, Tl.tx_str, hst3, if_pos rfl, List.take_zero, vR_nil, List.append_nil]
                · apply Tl.tx_inj
                  rw [Tl.tx_app, Tl.tx_app, Tl.tx_str, Tl.tx_str, hst3, if_neg e]
                  simp only [List.append_assoc]
                  rfl
              clear hst3 hvl hE0 hq hbq
              generalize hE9 : Tl.str (L ++ [59] ++ Tl.tx x.n ++ [61] ++ vR (x.vs.take (m + 1))) = E' at *
              have HE9 := hide hE9
              clear hE9
              generalize Tl.str (L ++ [59] ++ Tl.tx x.n ++ [61] ++ vR (x.vs.take m)) = E at *
              generalize hasB x.vs[m] = f at *
              generalize quo x.vs[m] = Q at *
              generalize x.vs[m] = z at *
              have q44 : (⟨#[44]⟩ : ByteArray).size = 1 := rfl
              have q34 : (⟨#[34]⟩ : ByteArray).size = 1 := rfl
              have e0 : E.size ≤ 63000000 := by omega
              have e1 : E.size + (⟨#[44]⟩ : ByteArray).size ≤ 63000001 := by omega
              have e2 : (⟨#[34]⟩ : ByteArray).size + z.size ≤ 1000000001 := by omega
              have e3 : (⟨#[34]⟩ : ByteArray).size + z.size + (⟨#[34]⟩ : ByteArray).size ≤ 1000000002 := by omega
              have e4 : E.size + ((⟨#[34]⟩ : ByteArray).size + z.size + (⟨#[34]⟩ : ByteArray).size) ≤ 1100000002 := by omega
              have e5 : E.size + (⟨#[44]⟩ : ByteArray).size + ((⟨#[34]⟩ : ByteArray).size + z.size + (⟨#[34]⟩ : ByteArray).size) ≤ 1100000003 := by omega
              have e6 : E.size + z.size ≤ 1100000002 := by omega
              have e7 : E.size + (⟨#[44]⟩ : ByteArray).size + z.size ≤ 1100000003 := by omega
              by_cases hm0 : m = 0
              · have hN := HNX.out.1 hm0
                have HN := hide hN
                have hmi : ¬ (0 : Int) < m := by omega
                clear hN HNX hm0
                obtain ⟨b, hb⟩ : ∃ b, (f 44 || f 59 || f 58) = b := ⟨_, rfl⟩
                have hQ := HQQ.out
                rw [hb] at hQ
                have hc : (f 44 = true ∧ b = true) ∨ (f 44 = false ∧ f 59 = true ∧ b = true) ∨ (f 44 = false ∧ f 59 = false ∧ f 58 = true ∧ b = true) ∨ (f 44 = false ∧ f 59 = false ∧ f 58 = false ∧ b = false) := by
                  subst hb
                  cases f 44 <;> cases f 59 <;> cases f 58 <;> simp
                clear hb HQQ
                rcases hc with ⟨h1, rfl⟩ | ⟨h1, h2, rfl⟩ | ⟨h1, h2, h3, rfl⟩ | ⟨h1, h2, h3, rfl⟩
                all_goals
                  simp only [if_true, if_false, Bool.false_eq_true, reduceCtorEq] at hQ
                  rw [hQ] at HN
                  have H1 := hide h1
                  try have H2 := hide h2
                  try have H3 := hide h3
                  clear hQ h1
                  try clear h2
                  try clear h3
                  go_wp2_with (go_at_call 26; refine (KA.out _ _).mono ?_; rintro e W ⟨rfl, rfl⟩; first | rw [H1.out] | rw [H2.out] | rw [H3.out] | fail)
                  go_roundw
                  case rel => exact ⟨m + 1, by omega, by go_num, by rw [HE9.out, ← HN.out], HYW.out.1, HYW.out.2⟩
                  case measure => simp [intOf]; omega
              · have hN := HNX.out.2 hm0
                have HN := hide hN
                have hmi : (0 : Int) < m := by omega
                clear hN HNX hm0
                obtain ⟨b, hb⟩ : ∃ b, (f 44 || f 59 || f 58) = b := ⟨_, rfl⟩
                have hQ := HQQ.out
                rw [hb] at hQ
                have hc : (f 44 = true ∧ b = true) ∨ (f 44 = false ∧ f 59 = true ∧ b = true) ∨ (f 44 = false ∧ f 59 = false ∧ f 58 = true ∧ b = true) ∨ (f 44 = false ∧ f 59 = false ∧ f 58 = false ∧ b = false) := by
                  subst hb
                  cases f 44 <;> cases f 59 <;> cases f 58 <;> simp
                clear hb HQQ
                rcases hc with ⟨h1, rfl⟩ | ⟨h1, h2, rfl⟩ | ⟨h1, h2, h3, rfl⟩ | ⟨h1, h2, h3, rfl⟩
                all_goals
                  simp only [if_true, if_false, Bool.false_eq_true, reduceCtorEq] at hQ
                  rw [hQ] at HN
                  have H1 := hide h1
                  try have H2 := hide h2
                  try have H3 := hide h3
                  clear hQ h1
                  try clear h2
                  try clear h3
                  go_wp2_with (go_at_call 26; refine (KA.out _ _).mono ?_; rintro e W ⟨rfl, rfl⟩; first | rw [H1.out] | rw [H2.out] | rw [H3.out] | fail)
                  go_roundw
                  case rel => exact ⟨m + 1, by omega, by go_num, by rw [HE9.out, ← HN.out], HYW.out.1, HYW.out.2⟩
                  case measure => simp [intOf]; omega
            · obtain rfl : m = x.vs.length := by omega
              have hi3 : ¬ (x.vs.length : Int) < x.vs.length := by omega
              have e : L ++ [59] ++ Tl.tx x.n ++ [61] ++ vR (x.vs.take x.vs.length) = Tl.tx y.n ++ psT (y.ps.take (j + 1)) := by
                rw [HST2.out, List.take_length, List.append_assoc _ [61], vR_one _ hne2]
                unfold pT
                simp
              rw [e]
              have HQ2 := hide hq
              clear hq e HSL HO2 HST2 hbq
              go_wp2
              go_roundw
              case rel => exact ⟨j + 1, by omega, by go_num, rfl, HQ2.out⟩
              case measure => simp [intOf]; omega
        · obtain rfl : j = y.ps.length := by omega
          have hi2 : ¬ (y.ps.length : Int) < y.ps.length := by omega
          rw [List.take_length]
          have q58 : (⟨#[58]⟩ : ByteArray).size = 1 := rfl
          have s1 : (Tl.str (Tl.tx y.n ++ psT y.ps)).size ≤ 31000000 := by rw [Tl.str_size, List.length_append, Tl.tx_len]; omega
          have s2 : (Tl.str (Tl.tx y.n ++ psT y.ps)).size + (⟨#[58]⟩ : ByteArray).size ≤ 32000000 := by omega
          have s3 : (Tl.str (Tl.tx y.n ++ psT y.ps)).size + (⟨#[58]⟩ : ByteArray).size + y.v.size ≤ 64000000 := by omega
          have s4 : (Tl.str T).size + (Tl.str Y).size ≤ 170000000 := by rw [Tl.str_size, Tl.str_size]; exact Nat.le_trans hL (by omega)
          have HT : Hid (Tl.str T ++ Tl.str Y = Tl.str (B ++ lsT (ls.take (k + 1)))) := by
            show _ = _
            rw [HST.out, Tl.str_app]
          obtain ⟨d0, d1, d2⟩ := hq.b.cells
          have HQ := hide hq.q
          clear hq
          go_wp2_with (go_at_call 25; refine (KF.out _).mono ?_; rintro e w2 ⟨rfl, b2⟩)
          rw [HT.out]
          have HQ2 := hide (HQ.out.later b2)
          clear b2 HQ
          go_roundw
          case rel => exact ⟨k + 1, by omega, by go_num, rfl, HQ2.out⟩
          case measure => simp [intOf]; omega
    · obtain rfl : k = ls.length := by omega
      have hi : ¬ (ls.length : Int) < ls.length := by omega
      rw [List.take_length]
      have hT : (B ++ lsT ls).length ≤ 161000000 := by rw [List.length_append]; omega
      generalize hTT : B ++ lsT ls = T at *
      have HTT := hide hTT
      clear hTT
      obtain ⟨c0', c1, c2'⟩ := hw.cells
      have HW2 := hide hw
      clear hw
      go_wp2_with fail
      go_loopw [3, 81] (fun u i wx => ∃ k : Nat, k ≤ ks.length ∧ i = .int .i64 k ∧ u = .string (Tl.str (T ++ ptsT (ks.take k))) ∧ XW w nm ls ks A A2 c c2 wx) (fun _ i _ => ks.length - (intOf i).toNat)
      case atStart => exact ⟨0, by omega, rfl, by rw [List.take_zero, ptsT, List.append_nil], HW2.out⟩
      case round =>
        clear c0' c1 c2' HW2
        obtain ⟨k, hk3, rfl, rfl, hw⟩ := hrel
        by_cases hlt2 : k < ks.length
        · have hi2 : (k : Int) < ks.length := by omega
          obtain ⟨ad, a, b, cc, hA, p0, p1, p2, hp⟩ := hw.k.at k hlt2
          rw [Nat.zero_add] at p0 p1 p2
          subst hA
          have hst : T ++ ptsT (ks.take (k + 1)) = T ++ ptsT (ks.take k) ++ ptT ks[k] := by rw [ptsT_step _ _ hlt2, List.append_assoc]
          have hle := ptsT_le ks (k + 1)
          rw [ptsT_step _ _ hlt2, List.length_append] at hle
          have hL : (T ++ ptsT (ks.take k)).length + (ptT ks[k]).length ≤ 1000000000 := by simp only [List.length_append]; omega
          have h2 := ptz_le ks k hlt2
          have h3 := HLZ.out.2
          have HP := HI.out k hlt2
          have hnt := HNE.out.2.at k hlt2
          obtain ⟨nm', ls', ks', ek⟩ : ∃ nm' ls' ks', ks[k] = PPt.mk nm' ls' ks' := by
            cases ks[k] with
            | mk a b c => exact ⟨a, b, c, rfl⟩
          have hp2 := hp
          rw [ek] at hp2
          unfold PtM at hp2
          obtain ⟨_, _, _, A', c', A2', c2', e', _⟩ := hp2
          simp only [Value.agg.injEq, Array.mk.injEq, List.cons.injEq, and_true] at e'
          obtain ⟨rfl, rfl, rfl⟩ := e'
          clear ek
          have hb1 : Below wr.heap.size wr (wr.alloc (.cells #[.string nm', .slice A' ls'.length c', .slice A2' ks'.length c2'] 25)) := (Below.refl _ wr).alloc (Nat.le_refl _) _
          have KP := hide (HP _ _ (PtM.later hb1 _ _ hp) hnt (by omega))
          have HST := hide hst
          have HW1 := hide (hw.later hb1)
          clear hst hle h2 h3 HP hp hw hb1
          generalize T ++ ptsT (ks.take k) = L2 at *
          generalize ptT ks[k] = Y at *
          have s4 : (Tl.str L2).size + (Tl.str Y).size ≤ 1700000000 := by rw [Tl.str_size, Tl.str_size]; omega
          have HT2 : Hid (Tl.str L2 ++ Tl.str Y = Tl.str (T ++ ptsT (ks.take (k + 1)))) := by
            show _ = _
            rw [HST.out, Tl.str_app]
          go_wp2_with (go_at_call 16; refine KP.out.mono ?_; rintro e w1 ⟨rfl, b1⟩
                       have HW3 := hide (HW1.out.later b1)
                       clear HW1 KP b1)
          rw [HT2.out]
          go_roundw
          case rel => exact ⟨k + 1, by omega, by go_num, rfl, HW3.out⟩
          case measure => simp [intOf]; omega
        · obtain rfl : k = ks.length := by omega
          have hi2 : ¬ (ks.length : Int) < ks.length := by omega
          rw [List.take_length]
          obtain ⟨c0', c1, c2'⟩ := hw.cells
          have HW := hide hw
          clear hw
          have s4 : (Tl.str (T ++ ptsT ks)).size + (Tl.str N).size ≤ 1700000000 := by rw [Tl.str_size, Tl.str_size, List.length_append]; omega
          have HT2 : Hid (Tl.str (T ++ ptsT ks) ++ Tl.str N = Tl.str (T ++ ptsT ks ++ N)) := by
            show _ = _
            rw [Tl.str_app (T ++ ptsT ks)]
          go_wp2_with (go_at_call 25; refine (K3.out _).mono ?_; rintro e w1 ⟨rfl, b1⟩
                       have HW3 := hide (HW.out.later b1)
                       clear HW K3 b1)
          rw [HT2.out]
          go_ret
          have hTT := HTT.out
          subst hTT
          exact ⟨rfl, HW3.out.e⟩
mutual
theorem partX_any : ∀ t, PartX t
  | .mk nm ls ks => partX_step nm ls ks (partsX_any ks)
theorem partsX_any : ∀ (ks : List PPt) (k : Nat) (h : k < ks.length), PartX ks[k]
  | [], k, h => absurd h (Nat.not_lt_zero _)
  | x :: ks, 0, h => partX_any x
  | x :: ks, k + 1, h => partsX_any ks k (by simpa using h)
end
end Go.Proofs.YtponocolfjkapaaDoor
