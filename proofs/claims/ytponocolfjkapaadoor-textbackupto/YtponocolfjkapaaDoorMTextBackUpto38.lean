/- package text: the tree's part. -/
import Derived.Test.YtponocolfjkapaaDoorMTextBackUpto37
namespace Go.Proofs.YtponocolfjkapaaDoor
open Go.RowKit Go.Shelf
set_option linter.unusedVariables false
set_option linter.unusedSimpArgs false

/-- to which line a tree has come -/
def atOf (W : World) (B : Nat) : Nat := (intOf ((W.cell? ⟨B, 1, none⟩).getD .nilIface)).toNat
theorem atOf_eq {W : World} {B : Nat} {A : Option Addr} {n c i : Nat} (h : TB W B A n c i) : atOf W B = i := by
  unfold atOf
  rw [h.cells.2]
  simp [intOf]
theorem SL.kt {w w' : World} {B : Nat} {A0 : Option Addr} {n c : Nat} {i : Int} (h : KB B w w') (hb : TB w B A0 n c i) {A : Option Addr} {l : List ByteArray} (hs : SL A l w) : SL A l w' := fun k hk => by
  obtain ⟨ad, e, hc⟩ := hs k hk
  refine ⟨ad, e, ?_⟩
  by_cases he : (ad.add k).block = B
  · exfalso
    unfold World.cell? at hc
    rw [he, show w.heap[B]? = _ from hb] at hc
    simp only [] at hc
    match ho : (ad.add k).off with
    | 0 => rw [ho] at hc; simp at hc
    | 1 => rw [ho] at hc; simp at hc
    | n + 2 => rw [ho] at hc; simp at hc
  · exact (World.cell?_of_block (w := w) (h.block _ (World.block_lt_of_cell? _ _ hc) he)).trans hc
/-- the line to which it has come -/
theorem drop_at {L : List ByteArray} {i : Nat} {x : List UInt8} {z : List (List UInt8)} (h : (txs L).drop i = x :: z) : ∃ h : i < L.length, L[i] = Tl.str x ∧ (txs L).drop (i + 1) = z := by
  have hi : i < (txs L).length := by
    have := congrArg List.length h
    rw [List.length_drop, List.length_cons] at this
    omega
  rw [List.drop_eq_getElem_cons hi] at h
  obtain ⟨h1, h2⟩ := List.cons.inj h
  have h3 : (txs L)[i]? = some x := by rw [List.getElem?_eq_getElem hi, h1]
  have hi2 : i < L.length := by rwa [txs_len] at hi
  refine ⟨hi2, ?_, h2⟩
  unfold txs at h3
  rw [List.getElem?_map, List.getElem?_eq_getElem hi2, Option.map_some, Option.some.injEq] at h3
  rw [← h3, Tl.str_tx]
/-- what part says of a part's lines -/
def PartP (t : PPt) : Prop := ∀ (d : Int) (L : List ByteArray) (A : Option Addr) (c i : Nat) (z : List (List UInt8)) (B : Nat) (w : World) (BG : ByteArray) (Af : Option Addr) (kf : Nat), VT d t → 0 ≤ d → ptz t ≤ 10000000 → TB w B A L.length c i → SL A L w → L.length ≤ 1000000000 → (BG.toList == [66, 69, 71, 73, 78]) = true → (txs L).drop i = lnsT t ++ z →
  Calls Tryd.prog 48 #[.pointer (some ⟨B, 0, none⟩), .agg #[.string BG, .slice Af 0 kf, .string (nmT t)], .int .i64 d] w fun e w' => ∃ (nm' : ByteArray) (a1 : Option Addr) (n1 k1 : Nat) (a2 : Option Addr) (n2 k2 : Nat) (i' : Nat), e = .returned (.tuple #[.agg #[.string nm', .slice a1 n1 k1, .slice a2 n2 k2], .nilIface]) ∧ Fpt (PtM t (.agg #[.string nm', .slice a1 n1 k1, .slice a2 n2 k2])) w.heap.size w'.heap.size w' ∧ TB w' B A L.length c i' ∧ (txs L).drop i' = enT (nmT t) :: z ∧ KB B w w'
/-- how far part's walk has come -/
def St (w : World) (B R P : Nat) (nm : ByteArray) (ls : List PLn) (ks : List PPt) (a b : Nat) (W : World) : Prop :=
  (b = 0 ∧ ∃ vl, P1 w B R P nm vl (ls.take a) W) ∨ (a = ls.length ∧ ∃ e0 A c vp, P2 w B R P e0 nm ls A c vp (ks.take b) W)
theorem St.kb {w : World} {B R P : Nat} {nm : ByteArray} {ls : List PLn} {ks : List PPt} {a b : Nat} {W W' : World} (h : St w B R P nm ls ks a b W) (hk : KB B W W') : St w B R P nm ls ks a b W' :=
  h.imp (fun ⟨h1, vl, h2⟩ => ⟨h1, vl, h2.kb hk⟩) (fun ⟨h1, e0, A, c, vp, h2⟩ => ⟨h1, e0, A, c, vp, h2.kb hk⟩)
theorem St.k {w : World} {B R P : Nat} {nm : ByteArray} {ls : List PLn} {ks : List PPt} {a b : Nat} {W : World} (h : St w B R P nm ls ks a b W) : KB B w W := by
  rcases h with ⟨_, vl, h⟩ | ⟨_, e0, A, c, vp, h⟩ <;> exact h.k
theorem St.lines {w : World} {B R P : Nat} {nm : ByteArray} {ls : List PLn} {ks : List PPt} {a b : Nat} {W : World} (h : St w B R P nm ls ks a b W) (hlt : a < ls.length) : b = 0 ∧ ∃ vl, P1 w B R P nm vl (ls.take a) W := by
  rcases h with h | ⟨rfl, _⟩
  · exact h
  · omega
theorem St.parts {w : World} {B R P : Nat} {nm : ByteArray} {ls : List PLn} {ks : List PPt} {b : Nat} {W : World} (h : St w B R P nm ls ks ls.length b W) (hk : ∀ k (h : k < ls.length), LnOk ls[k]) : ∃ e0 A c vp, P2 w B R P e0 nm ls A c vp (ks.take b) W := by
  rcases h with ⟨rfl, vl, h⟩ | ⟨_, h⟩
  · rw [List.take_length] at h
    obtain ⟨A, c, rfl, h2⟩ := h.turn hk
    exact ⟨_, A, c, _, by rw [List.take_zero]; exact h2⟩
  · exact h
set_option maxRecDepth 100000 in
set_option maxHeartbeats 8000000 in
theorem partP_step (nm : ByteArray) (ls : List PLn) (ks : List PPt) (IH : ∀ k (h : k < ks.length), PartP ks[k]) : PartP (.mk nm ls ks) := by
  intro d L A c i z B w BG Af kf hv d0 hz hB hS hL9 hBG hdr
  unfold VT at hv
  obtain ⟨hd, hn, hls, hks⟩ := hv
  have hlz : lsz ls ≤ 10000000 := by simp only [ptz] at hz; omega
  have hkz : ptsz ks ≤ 10000000 := by simp only [ptz] at hz; omega
  have hok : ∀ k (h : k < ls.length), LnOk ls[k] := fun k hk => LnOk.of (by have := lnz_le ls k hk; omega)
  have hlen : ∀ k (h : k < ls.length), (lT ls[k]).length ≤ 100000000 := fun k hk => by have := lT_len ls[k]; have := lnz_le ls k hk; omega
  have hl9 : ls.length ≤ 10000000 := by have := lsz_len ls; omega
  have hk9 : ks.length ≤ 10000000 := by have := ptsz_len ks; omega
  obtain ⟨hi0, _, hdr1⟩ := drop_at (show (txs L).drop i = bgT nm :: (ls.map lT ++ lnss ks ++ [enT nm] ++ z) by rw [hdr]; simp [lnsT])
  have KB0 := hide (fun W => beginOf_any BG nm Af kf d W hBG hn hd)
  have KE := hide (fun EN Ae ke W => checkEnd_any EN nm Ae ke W hn)
  have KL := hide (fun (x : PLn) hx ho hs (j : Nat) hj hLj W (hB : TB W B A L.length c j) (hS : SL A L W) => tline_any x hx ho hs L A c j hj hLj hL9 B W hB hS)
  have hb1 : Below w.heap.size w (w.alloc (.cells #[.string BG, .slice Af 0 kf, .string nm] 56)) := (Below.refl _ w).alloc (Nat.le_refl _) _
  have hb2 := hb1.alloc hb1.size (.cells #[.string ⟨#[]⟩, .slice none 0 0, .slice none 0 0] 25)
  have hR0 : ((w.alloc (.cells #[.string BG, .slice Af 0 kf, .string nm] 56)).alloc (.cells #[.string ⟨#[]⟩, .slice none 0 0, .slice none 0 0] 25)).heap[w.heap.size + 1]? = some (.cells #[.string ⟨#[]⟩, .slice none 0 0, .slice none 0 0] 25 (0, 0)) := by
    have := World.alloc_heap_new (w.alloc (.cells #[.string BG, .slice Af 0 kf, .string nm] 56)) (.cells #[.string ⟨#[]⟩, .slice none 0 0, .slice none 0 0] 25)
    rwa [World.size_alloc] at this
  have hp0 : ((w.alloc (.cells #[.string BG, .slice Af 0 kf, .string nm] 56)).alloc (.cells #[.string ⟨#[]⟩, .slice none 0 0, .slice none 0 0] 25)).heap[w.heap.size]? = some (.cells #[.string BG, .slice Af 0 kf, .string nm] 56 (0, 0)) :=
    (((Below.refl _ (w.alloc (.cells #[.string BG, .slice Af 0 kf, .string nm] 56))).alloc (Nat.le_refl _) (.cells #[.string ⟨#[]⟩, .slice none 0 0, .slice none 0 0] 25)).block _ (by simp)).trans (World.alloc_heap_new w _)
  have hlt0 := hB.lt
  have hB0 := hB.later hb2
  have HS := hide (fun W (hk : KB B w W) => hS.kt hk hB)
  have H0 := hide (And.intro hB0 (And.intro hR0 (And.intro hb2 hlt0)))
  have q0 : ((w.alloc (.cells #[.string BG, .slice Af 0 kf, .string nm] 56)).alloc (.cells #[.string ⟨#[]⟩, .slice none 0 0, .slice none 0 0] 25)).cell? ⟨w.heap.size, 0, none⟩ = some (Value.string BG) := cell_of_row _ _ _ _ _ (0, 0) hp0
  have q1 : ((w.alloc (.cells #[.string BG, .slice Af 0 kf, .string nm] 56)).alloc (.cells #[.string ⟨#[]⟩, .slice none 0 0, .slice none 0 0] 25)).cell? ⟨w.heap.size, 1, none⟩ = some (Value.slice Af 0 kf) := cell_of_row _ _ _ _ _ (0, 0) hp0
  have q2 : ((w.alloc (.cells #[.string BG, .slice Af 0 kf, .string nm] 56)).alloc (.cells #[.string ⟨#[]⟩, .slice none 0 0, .slice none 0 0] 25)).cell? ⟨w.heap.size, 2, none⟩ = some (Value.string nm) := cell_of_row _ _ _ _ _ (0, 0) hp0
  have HI := hide IH
  have HV := hide (And.intro hls (And.intro hks (And.intro hok (And.intro hlen (And.intro hn hkz)))))
  have HD := hide hdr1
  have hnn : nm.size ≤ 1000000000 := by have := (nm_facts hn).2.1; omega
  clear hB hS hb1 hb2 hR0 hp0 hB0 hlt0 IH hls hks hok hlen hn hdr hdr1 hlz hkz hz hBG
  show Calls _ _ #[_, .agg #[.string BG, .slice Af 0 kf, .string nm], _] _ _
  go_enter Tryd.func48, Tryd.ntmps48
  go_upto_region 1 with fail
  generalize (w.alloc (.cells #[.string BG, .slice Af 0 kf, .string nm] 56)).alloc (.cells #[.string ⟨#[]⟩, .slice none 0 0, .slice none 0 0] 25) = W00 at *
  go_wp2_with fail
  refine (KB0.out _).mono ?_
  rintro e W1 ⟨rfl, b1⟩
  obtain ⟨hB0, hR0, hb0, hlt0⟩ := H0.out
  have hR0l : w.heap.size + 1 < W00.heap.size := (Array.getElem?_eq_some_iff.1 hR0).1
  have hz1 := b1.size
  have hbp : Below W1.heap.size W1 (W1.alloc (.cells #[.string nm, .slice none 0 0, .slice none 0 0] 25)) := (Below.refl _ W1).alloc (Nat.le_refl _) _
  have hbp1 := b1.trans (hbp.mono hz1)
  have hP : P1 w B (w.heap.size + 1) W1.heap.size nm (.slice none 0 0) [] (W1.alloc (.cells #[.string nm, .slice none 0 0, .slice none 0 0] 25)) :=
    ⟨(hbp1.block _ hR0l).trans hR0, World.alloc_heap_new W1 _, .nil, KB.of_below (hb0.trans (hbp1.mono (by omega))), hlt0, by omega, by omega⟩
  have HST := hide (And.intro (hB0.later hbp1) hP)
  clear hB0 hR0 hb0 hlt0 hR0l hz1 hbp hbp1 hP b1 q0 q1 q2 H0
  go_wp2_with fail
  generalize hWW : W1.alloc (.cells #[.string nm, .slice none 0 0, .slice none 0 0] 25) = W2 at *
  generalize hPP : W1.heap.size = P at *
  generalize hRR : w.heap.size + 1 = R at *
  clear hWW hPP
  go_loopw [30] (fun _ wr => ∃ (a b j : Nat), a ≤ ls.length ∧ b ≤ ks.length ∧ TB wr B A L.length c j ∧ (txs L).drop (j + 1) = (ls.drop a).map lT ++ (lnss (ks.drop b) ++ enT nm :: z) ∧ St w B R P nm ls ks a b wr) (fun _ wr => L.length - atOf wr B)
  case atStart => exact ⟨0, 0, i, by omega, by omega, HST.out.1, by rw [HD.out]; simp, .inl ⟨rfl, _, by rw [List.take_zero]; exact HST.out.2⟩⟩
  case round =>
    clear HST HD
    obtain ⟨a, b, j, ha, hb, hT, hdr, hst⟩ := hrel
    have hj : j + 1 < L.length := by
      have := congrArg List.length hdr
      rw [List.length_drop, txs_len, List.length_append, List.length_append, List.length_cons] at this
      omega
    have hji : ((j : Int) + 1) < 9223372036854775807 := by omega
    obtain ⟨d0, d1⟩ := hT.cells
    have f1 := frozen_of hT 1
    have hat := atOf_eq hT
    have hk1 : KB B wr (wr.setCell ⟨B, 1, none⟩ (.int .i64 ((j : Int) + 1))) := (KB.refl B wr).put 1 _
    have hT1 : TB (wr.setCell ⟨B, 1, none⟩ (.int .i64 ((j : Int) + 1))) B A L.length c ((j + 1 : Nat) : Int) := by
      have := hT.set1 ((j : Int) + 1)
      exact_mod_cast this
    have hst1 := hst.kb hk1
    have HR := hide (And.intro hT1 (And.intro (HS.out _ hst1.k) hst1))
    have HDR := hide hdr
    have HFR := hide (And.intro d0 (And.intro d1 f1))
    clear hT hst hk1 hT1 hst1
    by_cases hla : a < ls.length
    · have hst := HR.out.2.2
      obtain ⟨rfl, vl, hP⟩ := hst.lines hla
      rw [List.drop_eq_getElem_cons hla, List.map_cons, List.cons_append] at hdr
      obtain ⟨_, hLj, hdr2⟩ := drop_at hdr
      obtain ⟨hrd, hB1, hN1⟩ := RdOk.of (HV.out.1 a hla)
      have hyo := HV.out.2.2.1 a hla
      have hyl := HV.out.2.2.2.1 a hla
      have hst2 : ls.take (a + 1) = ls.take a ++ [ls[a]] := by rw [List.take_add_one, List.getElem?_eq_getElem hla]; rfl
      have hta : (ls.take a).length ≤ 1000000000 := by rw [List.length_take]; omega
      generalize ls[a] = y at *
      have KL2 := hide (fun W h1 h2 => KL.out y hrd hyo hyl (j + 1) hj hLj W h1 h2)
      have HP := hide hP
      have HDR2 := hide hdr2
      have hB2 : (y.n.toList == [66, 69, 71, 73, 78]) = false := hB1
      have hN2 : (y.n.toList == [69, 78, 68]) = false := hN1
      have hB3 : ¬ y.n.toList = [66, 69, 71, 73, 78] := by simpa using hB2
      have hN3 : ¬ y.n.toList = [69, 78, 68] := by simpa using hN2
      have hypl := hyo.l
      clear hst hP hdr hdr2 hLj hrd hyl hB1 hN1 hyo HDR HFR
      go_wp2_with fail
      clear d0 d1 f1
      generalize wr.setCell ⟨B, 1, none⟩ (.int .i64 ((j : Int) + 1)) = W5 at *
      refine (KL2.out _ HR.out.1 HR.out.2.1).mono ?_
      rintro e W6 ⟨Ay, ky, rfl, hF, b6⟩
      obtain ⟨a0, l0, c0, rfl⟩ := HP.out.g.form
      have hgl := HP.out.g.lt
      have hb7 : Below W6.heap.size W6 (W6.alloc (.cells #[.string y.n, .slice Ay y.ps.length ky, .string y.v] 56)) := (Below.refl _ W6).alloc (Nat.le_refl _) _
      have hb8 : Below (W6.alloc (.cells #[.string y.n, .slice Ay y.ps.length ky, .string y.v] 56)).heap.size (W6.alloc (.cells #[.string y.n, .slice Ay y.ps.length ky, .string y.v] 56)) ((W6.alloc (.cells #[.string y.n, .slice Ay y.ps.length ky, .string y.v] 56)).alloc (.cells #[.string y.n, .slice Ay y.ps.length ky, .string y.v] 56)) := (Below.refl _ _).alloc (Nat.le_refl _) _
      have hb9 := hb7.trans (hb8.mono hb7.size)
      have hbA := b6.trans (hb9.mono b6.size)
      obtain ⟨p0, p1, p2⟩ := ((HP.out.later b6).later hb7).cells
      have hP9 := HP.out.later hbA
      have hT9 := HR.out.1.later hbA
      have hF9 : Fpt (encLn y [.string y.n, .slice Ay y.ps.length ky, .string y.v]) W5.heap.size W6.heap.size _ := (hF.later (.below hb9 (Nat.le_refl _)) hb9.size).imp fun W' hW => ⟨Ay, ky, rfl, hW⟩
      have hne9 : ∀ g, (Value.slice a0 l0 c0).ownBlock = some g → ¬ (W5.heap.size ≤ g ∧ g < W6.heap.size) := fun g hg hh => by have := (hgl g hg).2; omega
      have hst9 : P + 1 ≤ W5.heap.size := HP.out.plt
      have hpl9 := hP9.plt
      have hnw : ∀ j u, ([.string y.n, .slice Ay y.ps.length ky, .string y.v] : List Value)[j]? = some u → ((W6.alloc (.cells #[.string y.n, .slice Ay y.ps.length ky, .string y.v] 56)).alloc (.cells #[.string y.n, .slice Ay y.ps.length ky, .string y.v] 56)).cell? ((⟨W6.heap.size + 1, 0, none⟩ : Addr).add j) = some u := fun j u hj => by
        match j, hj with
        | 0, hj => simp at hj; subst hj; simp [Addr.add]
        | 1, hj => simp at hj; subst hj; simp [Addr.add]
        | 2, hj => simp at hj; subst hj; simp [Addr.add]
      have hlB : B < P := by have := hP9.l1; have := hP9.l2; have := hP9.l3; omega
      have HH := hide (And.intro hP9 (And.intro hT9 (And.intro hF9 (And.intro hne9 (And.intro hst9 (And.intro hnw hpl9))))))
      clear hP9 hT9 hF9 hne9 hst9 hnw hpl9 hb7 hb8 hb9 hbA hF b6 HR KL2 HP hgl
      go_wp2_with (at_builtin; obtain ⟨hP9, hT9, hF9, hne9, hst9, hnw, hpl9⟩ := HH.out; refine wpList_append_grow infoLn Tryd.underlying22 rfl (by decide) (by decide) rfl (.tmp 44) (.tmp 46) rfl (P + 1) (.slice a0 l0 c0) (ls.take a) (by rfl) hP9.g y [.string y.n, .slice Ay y.ps.length ky, .string y.v] rfl (by intro u hu; simp only [List.mem_cons, List.not_mem_nil, or_false] at hu; rcases hu with rfl | rfl | rfl <;> rfl) W5.heap.size W6.heap.size hst9 hF9 hne9 ⟨W6.heap.size + 1, 0, none⟩ 1 (by rfl) hnw hta hpl9 ?_; intro v' w4 q1 q2 q3
                   have hP4 := hP9.store q1 q3
                   have hT4 : TB w4 B A L.length c _ := (q3.block B (by omega)).trans hT9
                   have g1 : w4.cell? ⟨P, 1, none⟩ = some _ := (q3.cell (p := ⟨P, 1, none⟩) (by show P < P + 1; omega)).trans hP9.cells.2.1
                   have g2 : w4.frozen? ⟨P, 1, none⟩ = false := frozen_of ((q3.block P (by omega)).trans hP9.p) 1
                   obtain ⟨a1, l1, c1, rfl⟩ := q1.form
                   clear q1 q2 q3 hP9 hT9 hF9 hne9 hst9 hnw hpl9)
      have hT5 : TB (w4.setCell ⟨P, 1, none⟩ (.slice a1 l1 c1)) B A L.length c ((j + 1 : Nat) : Int) := (Below.heap_setCell _ _ _ B (fun e => by have e' : B = P := e; omega)).trans hT4
      have hat2 := atOf_eq hT5
      rw [← hst2] at hP4
      have HF := hide (And.intro hT5 hP4)
      clear hT5 hP4 hT4 g1 g2 HH p0 p1 p2
      go_roundw
      case rel => exact ⟨a + 1, 0, j + 1, hla, hb, HF.out.1, HDR2.out, .inl ⟨rfl, _, HF.out.2⟩⟩
      case measure => rw [hat2, hat]; omega
    · obtain rfl : a = ls.length := by omega
      obtain ⟨e0, Al, cl, vp, hP⟩ := HR.out.2.2.parts HV.out.2.2.1
      rw [List.drop_length, List.map_nil, List.nil_append] at hdr
      by_cases hlb : b < ks.length
      · rw [List.drop_eq_getElem_cons hlb] at hdr
        have hst2 : ks.take (b + 1) = ks.take b ++ [ks[b]] := by rw [List.take_add_one, List.getElem?_eq_getElem hlb]; rfl
        have hvt := HV.out.2.1.at b hlb
        have hzz := ptz_le ks b hlb
        have hz6 := HV.out.2.2.2.2.2
        have hIH := HI.out b hlb
        have htb : (ks.take b).length ≤ 1000000000 := by rw [List.length_take]; omega
        have hdr' : (txs L).drop (j + 1) = lnsT ks[b] ++ (lnss (ks.drop (b + 1)) ++ enT nm :: z) := by rw [hdr]; simp [lnss]
        have hl8 : 2 + (lnss (ks.drop (b + 1)) ++ enT nm :: z).length ≤ L.length - (j + 1) := by
          have := congrArg List.length hdr'
          rw [List.length_drop, txs_len, List.length_append] at this
          have h2 : 2 ≤ (lnsT ks[b]).length := by
            cases ks[b] with
            | mk a b c => simp [lnsT]; omega
          omega
        generalize ks[b] = t at *
        cases t with
        | mk nm' ls' ks' =>
        have hn' : nmS nm' = true := by unfold VT at hvt; exact hvt.2.1
        obtain ⟨_, hLj, _⟩ := drop_at (show (txs L).drop (j + 1) = bgT nm' :: (ls'.map lT ++ lnss ks' ++ [enT nm'] ++ (lnss (ks.drop (b + 1)) ++ enT nm :: z)) by rw [hdr']; simp [lnsT])
        have KL2 := hide (fun W h1 h2 => KL.out (bgL nm') (bgL_ok hn') (bgL_ln hn') (by rw [bgL_T, bgT_len]; have := (nm_facts hn').2.1; omega) (j + 1) hj (by rw [bgL_T]; exact hLj) W h1 h2)
        have KP := hide (fun W Ay ky (hT : TB W B A L.length c ((j + 1 : Nat) : Int)) (hS : SL A L W) => hIH (d + 1) L A c (j + 1) (lnss (ks.drop (b + 1)) ++ enT nm :: z) B W ⟨#[66, 69, 71, 73, 78]⟩ Ay ky hvt (by omega) (by omega) hT hS hL9 (by decide +kernel) hdr')
        have HP := hide hP
        have hBG2 : ((⟨#[66, 69, 71, 73, 78]⟩ : ByteArray).toList == [66, 69, 71, 73, 78]) = true := by decide +kernel
        have hBG3 : (⟨#[66, 69, 71, 73, 78]⟩ : ByteArray).toList = [66, 69, 71, 73, 78] := eq_of_beq hBG2
        have hdd : d + 1 < 9223372036854775807 := by omega
        unfold bgL at KL2
        simp only [nmT] at KP
        obtain ⟨BG', hBG'⟩ : ∃ BG', (⟨#[66, 69, 71, 73, 78]⟩ : ByteArray) = BG' := ⟨_, rfl⟩
        rw [hBG'] at KL2 KP hBG2 hBG3
        clear hP hdr hdr' hLj hvt hzz hz6 hIH hn' HDR HFR hBG'
        go_wp2_with fail
        clear d0 d1 f1
        generalize wr.setCell ⟨B, 1, none⟩ (.int .i64 ((j : Int) + 1)) = W5 at *
        refine (KL2.out _ HR.out.1 HR.out.2.1).mono ?_
        rintro e W6 ⟨Ay, ky, rfl, hF, b6⟩
        clear hF
        have hb7 : Below W6.heap.size W6 (W6.alloc (.cells #[.string BG', .slice Ay 0 ky, .string nm'] 56)) := (Below.refl _ W6).alloc (Nat.le_refl _) _
        have hbA := b6.trans (hb7.mono b6.size)
        have hP7 := HP.out.later hbA
        have hT7 := HR.out.1.later hbA
        have hS7 := HR.out.2.1.later hbA
        have HX7 := hide (And.intro hP7 (And.intro hT7 hS7))
        clear hP7 hT7 hS7 hb7 hbA b6 HR KL2 HP
        go_wp2_with fail
        generalize W6.alloc (.cells #[.string BG', .slice Ay 0 ky, .string nm'] 56) = W7 at *
        refine (KP.out _ _ _ HX7.out.2.1 HX7.out.2.2).mono ?_
        rintro e W8 ⟨nm2, a1, n1, k1, a2, n2, k2, i', rfl, hF, hT8, hdr8, hK8⟩
        obtain ⟨a0, l0, c0, rfl⟩ := HX7.out.1.g.form
        have hgl := HX7.out.1.g.lt
        have hle7 := HX7.out.1.f.le
        have hb9 : Below W8.heap.size W8 (W8.alloc (.cells #[.string nm2, .slice a1 n1 k1, .slice a2 n2 k2] 25)) := (Below.refl _ W8).alloc (Nat.le_refl _) _
        have hb10 : Below (W8.alloc (.cells #[.string nm2, .slice a1 n1 k1, .slice a2 n2 k2] 25)).heap.size (W8.alloc (.cells #[.string nm2, .slice a1 n1 k1, .slice a2 n2 k2] 25)) ((W8.alloc (.cells #[.string nm2, .slice a1 n1 k1, .slice a2 n2 k2] 25)).alloc (.cells #[.string nm2, .slice a1 n1 k1, .slice a2 n2 k2] 25)) := (Below.refl _ _).alloc (Nat.le_refl _) _
        have hbB := hb9.trans (hb10.mono hb9.size)
        have hP8 := HX7.out.1.kb hK8
        obtain ⟨p0, p1, p2⟩ := (hP8.later hb9).cells
        have hP9 := hP8.later hbB
        have hT9 := hT8.later hbB
        have hF9 : Fpt (encPt (.mk nm' ls' ks') [.string nm2, .slice a1 n1 k1, .slice a2 n2 k2]) W7.heap.size W8.heap.size _ := (hF.later (.below hbB (Nat.le_refl _)) hbB.size).imp fun W' hW => ⟨_, _, _, rfl, hW⟩
        have hne9 : ∀ g, (Value.slice a0 l0 c0).ownBlock = some g → ¬ (W7.heap.size ≤ g ∧ g < W8.heap.size) := fun g hg hh => by have := (hgl g hg).2; omega
        have hpl9 : e0 ≤ ((W8.alloc (.cells #[.string nm2, .slice a1 n1 k1, .slice a2 n2 k2] 25)).alloc (.cells #[.string nm2, .slice a1 n1 k1, .slice a2 n2 k2] 25)).heap.size := hP9.f.le
        have hnw : ∀ j u, ([.string nm2, .slice a1 n1 k1, .slice a2 n2 k2] : List Value)[j]? = some u → ((W8.alloc (.cells #[.string nm2, .slice a1 n1 k1, .slice a2 n2 k2] 25)).alloc (.cells #[.string nm2, .slice a1 n1 k1, .slice a2 n2 k2] 25)).cell? ((⟨W8.heap.size + 1, 0, none⟩ : Addr).add j) = some u := fun j u hj => by
          match j, hj with
          | 0, hj => simp at hj; subst hj; simp [Addr.add]
          | 1, hj => simp at hj; subst hj; simp [Addr.add]
          | 2, hj => simp at hj; subst hj; simp [Addr.add]
        have hlB : B < P := by have := hP9.l1; have := hP9.l2; have := hP9.l3; omega
        have hlP : P < e0 := hP9.l4
        have HH := hide (And.intro hP9 (And.intro hT9 (And.intro hF9 (And.intro hne9 (And.intro hle7 (And.intro hnw hpl9))))))
        have HD8 := hide hdr8
        clear hP9 hT9 hF9 hne9 hle7 hnw hpl9 hb9 hb10 hbB hF hP8 hT8 hK8 hdr8 HX7 KP hgl
        go_wp2_with (at_builtin; obtain ⟨hP9, hT9, hF9, hne9, hle7, hnw, hpl9⟩ := HH.out; refine wpList_append_grow infoPt Tryd.underlying23 rfl (by decide) (by decide) rfl (.tmp 66) (.tmp 68) rfl e0 (.slice a0 l0 c0) (ks.take b) (by rfl) hP9.g (.mk nm' ls' ks') [.string nm2, .slice a1 n1 k1, .slice a2 n2 k2] rfl (by intro u hu; simp only [List.mem_cons, List.not_mem_nil, or_false] at hu; rcases hu with rfl | rfl | rfl <;> rfl) W7.heap.size W8.heap.size hle7 hF9 hne9 ⟨W8.heap.size + 1, 0, none⟩ 1 (by rfl) hnw htb hpl9 ?_; intro v' w4 q1 q2 q3
                     have hP4 := hP9.store q1 q3
                     have hT4 : TB w4 B A L.length c _ := (q3.block B (by omega)).trans hT9
                     have g1 : w4.cell? ⟨P, 2, none⟩ = some _ := (q3.cell (p := ⟨P, 2, none⟩) hlP).trans hP9.cells.2.2
                     have g2 : w4.frozen? ⟨P, 2, none⟩ = false := frozen_of ((q3.block P hlP).trans hP9.p) 2
                     obtain ⟨a3, l3, c3, rfl⟩ := q1.form
                     clear q1 q2 q3 hP9 hT9 hF9 hne9 hle7 hnw hpl9)
        have hT5 : TB (w4.setCell ⟨P, 2, none⟩ (.slice a3 l3 c3)) B A L.length c i' := (Below.heap_setCell _ _ _ B (fun e => by have e' : B = P := e; omega)).trans hT4
        have hat2 := atOf_eq hT5
        rw [← hst2] at hP4
        have hij : j < i' := by
          have := congrArg List.length HD8.out
          rw [List.length_drop, txs_len, List.length_cons] at this
          omega
        have HF := hide (And.intro hT5 hP4)
        clear hT5 hP4 hT4 g1 g2 HH p0 p1 p2
        go_roundw
        case rel => exact ⟨ls.length, b + 1, i', by omega, hlb, HF.out.1, by rw [List.drop_length, List.map_nil, List.nil_append]; exact (drop_at HD8.out).2.2, .inr ⟨rfl, e0, Al, cl, _, HF.out.2⟩⟩
        case measure => rw [hat2, hat]; omega
      · obtain rfl : b = ks.length := by omega
        rw [List.drop_length, lnss, List.nil_append] at hdr
        rw [List.take_length] at hP
        obtain ⟨_, hLj, _⟩ := drop_at hdr
        have hn := HV.out.2.2.2.2.1
        have KL2 := hide (fun W h1 h2 => KL.out (enL nm) (enL_ok hn) (enL_ln hn) (by rw [enL_T, enT_len]; have := (nm_facts hn).2.1; omega) (j + 1) hj (by rw [enL_T]; exact hLj) W h1 h2)
        have HP := hide hP
        have hEB : ((⟨#[69, 78, 68]⟩ : ByteArray).toList == [66, 69, 71, 73, 78]) = false := by decide +kernel
        have hEE : ((⟨#[69, 78, 68]⟩ : ByteArray).toList == [69, 78, 68]) = true := by decide +kernel
        have hEE3 : (⟨#[69, 78, 68]⟩ : ByteArray).toList = [69, 78, 68] := eq_of_beq hEE
        unfold enL at KL2
        obtain ⟨EN, hEN⟩ : ∃ EN, (⟨#[69, 78, 68]⟩ : ByteArray) = EN := ⟨_, rfl⟩
        rw [hEN] at KL2 hEB hEE hEE3
        have HDZ := hide hdr
        clear hP hdr hLj hn HDR HFR hEN
        go_wp2_with fail
        clear d0 d1 f1
        generalize wr.setCell ⟨B, 1, none⟩ (.int .i64 ((j : Int) + 1)) = W5 at *
        refine (KL2.out _ HR.out.1 HR.out.2.1).mono ?_
        rintro e W6 ⟨Ay, ky, rfl, hF, b6⟩
        clear hF
        have hb7 : Below W6.heap.size W6 (W6.alloc (.cells #[.string EN, .slice Ay 0 ky, .string nm] 56)) := (Below.refl _ W6).alloc (Nat.le_refl _) _
        have hbA := b6.trans (hb7.mono b6.size)
        have hP7 := HP.out.later hbA
        have hT7 := HR.out.1.later hbA
        obtain ⟨p0, p1, p2⟩ := hP7.cells
        have HX7 := hide (And.intro hP7 hT7)
        clear hP7 hT7 hb7 hbA b6 HR KL2 HP
        go_wp2_with fail
        obtain ⟨A2, c2, rfl, _⟩ := ks_of HX7.out.1.g
        have fR := frozen_of HX7.out.1.r
        clear hla hlb ha hb hRR hEE hEB hEE3 fR hji hj
        go_region_with (go_at_call 60; refine (KE.out _ _ _ _).mono ?_; rintro e W8 ⟨rfl, b8⟩
                        have b9 : Below (W6.alloc (.cells #[.string EN, .slice Ay 0 ky, .string nm] 56)).heap.size (W6.alloc (.cells #[.string EN, .slice Ay 0 ky, .string nm] 56)) W8 := ⟨b8.os, b8.tape, b8.output, b8.size, b8.block⟩
                        have hP8 := HX7.out.1.later b9
                        have hT8 := HX7.out.2.later b9
                        obtain ⟨r0, r1, r2⟩ := hP8.cells
                        have s0 : W8.cell? ⟨R, 0, none⟩ = some (.string ⟨#[]⟩) := cell_of_row _ _ _ _ _ (0, 0) hP8.r
                        have s1 : W8.cell? ⟨R, 1, none⟩ = some (.slice none 0 0) := cell_of_row _ _ _ _ _ (0, 0) hP8.r
                        have s2 : W8.cell? ⟨R, 2, none⟩ = some (.slice none 0 0) := cell_of_row _ _ _ _ _ (0, 0) hP8.r
                        have fR8 := frozen_of hP8.r)
        all_goals
          obtain ⟨g1, g2, g3⟩ := set3 hP8.r (.string nm) (.slice Al ls.length cl) (.slice A2 ks.length c2)
          have o1 : (((W8.setCell ⟨R, 0, none⟩ (.string nm)).setCell ⟨R, 1, none⟩ (.slice Al ls.length cl)).setCell ⟨R, 2, none⟩ (.slice A2 ks.length c2)).os = W8.os := rfl
          have o2 : (((W8.setCell ⟨R, 0, none⟩ (.string nm)).setCell ⟨R, 1, none⟩ (.slice Al ls.length cl)).setCell ⟨R, 2, none⟩ (.slice A2 ks.length c2)).tape = W8.tape := rfl
          have o3 : (((W8.setCell ⟨R, 0, none⟩ (.string nm)).setCell ⟨R, 1, none⟩ (.slice Al ls.length cl)).setCell ⟨R, 2, none⟩ (.slice A2 ks.length c2)).output = W8.output := rfl
          clear r0 r1 r2 s0 s1 s2 fR8 p0 p1 p2
          generalize (((W8.setCell ⟨R, 0, none⟩ (.string nm)).setCell ⟨R, 1, none⟩ (.slice Al ls.length cl)).setCell ⟨R, 2, none⟩ (.slice A2 ks.length c2)) = W9 at *
          have q1 := hP8.l1
          have q2 := hP8.l2
          have q3 := hP8.l3
          have hF9 := ((hP8.part hnn (by omega) (by omega)).later (W' := W9) (fun b h1 h2 => g2 b (by omega)) g3).widen (s' := w.heap.size) (e' := W9.heap.size) (by omega) g3 (Nat.le_refl _)
          have hT9 : TB W9 B A L.length c ((j + 1 : Nat) : Int) := (g2 B (by omega)).trans hT8
          have hK9 : KB B w W9 := ⟨o1.trans hP8.k.os, o2.trans hP8.k.tape, o3.trans hP8.k.output, Nat.le_trans hP8.k.size g3, fun k hk hne => (g2 k (by omega)).trans (hP8.k.block k hk hne)⟩
          have HF := hide (And.intro hF9 (And.intro hT9 (And.intro hK9 g1)))
          clear hF9 hT9 hK9 hP8 hT8 b8 b9 g1 g2 g3 o1 o2 o3 q1 q2 q3 HX7
          go_wp2
          refine bodyPost_ret (v := .tuple #[.agg #[.string nm, .slice Al ls.length cl, .slice A2 ks.length c2], .nilIface]) ?_ rfl ⟨nm, Al, ls.length, cl, A2, ks.length, c2, j + 1, rfl, HF.out.1, HF.out.2.1, HDZ.out, HF.out.2.2.1⟩
          rw [results_cell_tmp rfl]
          show ((asAddr (.pointer (some ⟨R, 0, none⟩))).run _ _).andThen _ = _
          simp only [asAddr, Sem.run_pure, Result.andThen_ok, run_loadVar_row _ R _ 25 _ _ _ HF.out.2.2.2 Tryd.underlying25 rfl (by kernel_rfl)]
          rfl
mutual
theorem partP_any : ∀ t, PartP t
  | .mk nm ls ks => partP_step nm ls ks (partsP_any ks)
theorem partsP_any : ∀ (ks : List PPt) (k : Nat) (h : k < ks.length), PartP ks[k]
  | [], k, h => absurd h (Nat.not_lt_zero _)
  | x :: ks, 0, h => partP_any x
  | x :: ks, k + 1, h => partsP_any ks k (by simpa using h)
end
end Go.Proofs.YtponocolfjkapaaDoor
