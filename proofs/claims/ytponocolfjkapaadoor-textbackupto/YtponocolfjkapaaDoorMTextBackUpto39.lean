/- package text: whole, Parse; plain.TextParse, at a text that was printed. -/
import Derived.Test.YtponocolfjkapaaDoorMTextBackUpto38
import Derived.Test.YtponocolfjkapaaDoorMTextBackUpto9
import Derived.Test.YtponocolfjkapaaDoorMTextBackUpto10
namespace Go.Proofs.YtponocolfjkapaaDoor
open Go.RowKit Go.Shelf
set_option linter.unusedVariables false
set_option linter.unusedSimpArgs false

mutual
theorem chk_cnt : ∀ (t : PPt) (d n : Int), (chk t d n).1 = 0 → (chk t d n).2 = n + ((lnsT t).length : Nat)
  | .mk nm ls ks, d, n, h => by
    unfold chk at h ⊢
    split at h
    · exact absurd h (by show ¬ (6 : Int) = 0; decide)
    · split at h
      · exact absurd h (by show ¬ (6 : Int) = 0; decide)
      · split at h
        · exact absurd h (by show ¬ (8 : Int) = 0; decide)
        · split at h
          · rename_i e1 e2 e3 e4
            rw [if_neg e1, if_neg e2, if_neg e3, if_pos e4, chks_cnt ks _ _ h]
            simp only [lnsT, List.length_cons, List.length_append, List.length_map, List.length_nil]
            omega
          · rename_i e4
            exact absurd h e4
theorem chks_cnt : ∀ (ks : List PPt) (d n : Int), (chks ks d n).1 = 0 → (chks ks d n).2 = n + ((lnss ks).length : Nat)
  | [], d, n, _ => by unfold chks; simp [lnss]
  | k :: ks, d, n, h => by
    unfold chks at h ⊢
    split at h
    · rename_i e
      rw [if_pos e, chks_cnt ks _ _ h, chk_cnt k d n e]
      simp only [lnss, List.length_append]
      omega
    · rename_i e
      exact absurd h e
end
theorem lns_le (t : PPt) (h : eT t = 0) : (lnsT t).length ≤ 2000 := by
  have h1 := chk_bd t 1 0 (by omega) h
  have h2 := chk_cnt t 1 0 h
  unfold eT at h
  omega
set_option maxRecDepth 100000 in
set_option maxHeartbeats 8000000 in
theorem whole_any (t : PPt) (ht : eT t = 0) (hz : ptz t ≤ 10000000) (L : List ByteArray) (hL : txs L = lnsT t) (A : Option Addr) (c : Nat) (B : Nat) (w : World) (hB : TB w B A L.length c 0) (hS : SL A L w) :
    Calls Tryd.prog 33 #[.pointer (some ⟨B, 0, none⟩)] w fun e w' => ∃ (nm' : ByteArray) (a1 : Option Addr) (n1 k1 : Nat) (a2 : Option Addr) (n2 k2 : Nat), e = .returned (.tuple #[.agg #[.string nm', .slice a1 n1 k1, .slice a2 n2 k2], .nilIface]) ∧ Fpt (PtM t (.agg #[.string nm', .slice a1 n1 k1, .slice a2 n2 k2])) w.heap.size w'.heap.size w' ∧ KB B w w' := by
  have hvt := VT.of t 1 0 ht
  have hl2 : L.length ≤ 2000 := by have := lns_le t ht; rw [← hL, txs_len] at this; exact this
  have hdr : (txs L).drop 0 = lnsT t ++ [] := by rw [List.drop_zero, hL, List.append_nil]
  have KP := hide (fun W Ay ky (hT : TB W B A L.length c ((0 : Nat) : Int)) (hS : SL A L W) => partP_any t 1 L A c 0 [] B W ⟨#[66, 69, 71, 73, 78]⟩ Ay ky hvt (by omega) hz hT hS (by omega) (by decide +kernel) hdr)
  cases t with
  | mk nm ls ks =>
  have hn : nmS nm = true := by unfold VT at hvt; exact hvt.2.1
  obtain ⟨h0L, hLj, _⟩ := drop_at (show (txs L).drop 0 = bgT nm :: (ls.map lT ++ lnss ks ++ [enT nm]) by rw [hdr]; simp [lnsT])
  have KL := hide (fun W (h1 : TB W B A L.length c ((0 : Nat) : Int)) h2 => tline_any (bgL nm) (bgL_ok hn) (bgL_ln hn) (by rw [bgL_T, bgT_len]; have := (nm_facts hn).2.1; omega) L A c 0 h0L (by rw [bgL_T]; exact hLj) (by omega) B W h1 h2)
  unfold bgL at KL
  simp only [nmT] at KP
  obtain ⟨BG', hBG'⟩ : ∃ BG', (⟨#[66, 69, 71, 73, 78]⟩ : ByteArray) = BG' := ⟨_, rfl⟩
  rw [hBG'] at KL KP
  have hb0 : Below w.heap.size w (w.alloc (.cells #[.string ⟨#[]⟩, .slice none 0 0, .slice none 0 0] 25)) := (Below.refl _ w).alloc (Nat.le_refl _) _
  have hr0 : (w.alloc (.cells #[.string ⟨#[]⟩, .slice none 0 0, .slice none 0 0] 25)).heap[w.heap.size]? = some (.cells #[.string ⟨#[]⟩, .slice none 0 0, .slice none 0 0] 25 (0, 0)) := World.alloc_heap_new w _
  have hlt0 := hB.lt
  have H0 := hide (And.intro (hB.later hb0) (And.intro (hS.later hb0) (And.intro hr0 (And.intro hb0 hlt0))))
  clear hb0 hr0 hB hS hlt0 hvt hdr hn h0L hLj ht hz hBG' hL
  go_enter Tryd.func33, Tryd.ntmps33
  go_wp2_with fail
  generalize w.alloc (.cells #[.string ⟨#[]⟩, .slice none 0 0, .slice none 0 0] 25) = W0 at *
  refine (KL.out _ H0.out.1 H0.out.2.1).mono ?_
  rintro e W6 ⟨Ay, ky, rfl, hF, b6⟩
  clear hF
  have hb7 : Below W6.heap.size W6 (W6.alloc (.cells #[.string BG', .slice Ay 0 ky, .string nm] 56)) := (Below.refl _ W6).alloc (Nat.le_refl _) _
  have hbA := b6.trans (hb7.mono b6.size)
  have hT7 := H0.out.1.later hbA
  have hS7 := H0.out.2.1.later hbA
  have hr7 := (hbA.block _ (Array.getElem?_eq_some_iff.1 H0.out.2.2.1).1).trans H0.out.2.2.1
  have hk7 := (KB.of_below (B := B) H0.out.2.2.2.1).trans (.of_below hbA)
  have hlt0 := H0.out.2.2.2.2
  have hwz := H0.out.2.2.2.1.size
  have hz7 : W0.heap.size ≤ _ := hbA.size
  have HX := hide (And.intro hT7 (And.intro hS7 (And.intro hr7 (And.intro hk7 (And.intro hlt0 (Nat.le_trans hwz hz7))))))
  clear hT7 hS7 hr7 hk7 hlt0 hb7 hbA b6 H0 KL hwz hz7
  go_wp2_with fail
  generalize W6.alloc (.cells #[.string BG', .slice Ay 0 ky, .string nm] 56) = W7 at *
  refine (KP.out _ _ _ HX.out.1 HX.out.2.1).mono ?_
  rintro e W8 ⟨nm2, a1, n1, k1, a2, n2, k2, i', rfl, hF, hT8, hdr8, hK8⟩
  obtain ⟨hT7, hS7, hr7, hk7, hlt0, hwz⟩ := HX.out
  have hb9 : Below W8.heap.size W8 (W8.alloc (.cells #[.string nm2, .slice a1 n1 k1, .slice a2 n2 k2] 25)) := (Below.refl _ W8).alloc (Nat.le_refl _) _
  have hend : i' + 1 = L.length := by
    have := congrArg List.length hdr8
    rw [List.length_drop, txs_len] at this
    simp only [List.length_cons, List.length_nil] at this
    omega
  have hr8 := (hb9.block _ (Array.getElem?_eq_some_iff.1 ((hK8.block _ (Array.getElem?_eq_some_iff.1 hr7).1 (by omega)).trans hr7)).1).trans ((hK8.block _ (Array.getElem?_eq_some_iff.1 hr7).1 (by omega)).trans hr7)
  have hT9 := hT8.later hb9
  have hF9 := hF.later (.below hb9 (Nat.le_refl _)) hb9.size
  have hw7 : w.heap.size < W7.heap.size := (Array.getElem?_eq_some_iff.1 hr7).1
  have hK9 := (hk7.trans hK8).trans (.of_below hb9)
  obtain ⟨d0, d1⟩ := hT9.cells
  have f1 := frozen_of hT9 1
  have hpB : W8.heap.size ≠ B := by have := hT8.lt; omega
  have hie : (((i' : Int) + 1) == (L.length : Int)) = true := by rw [beq_iff_eq]; omega
  have hib : ((i' : Int) + 1) < 9223372036854775807 := by omega
  have hT10 := hT9.set1 ((i' : Int) + 1)
  have hset : ∀ k, k ≠ B → ((W8.alloc (.cells #[.string nm2, .slice a1 n1 k1, .slice a2 n2 k2] 25)).setCell ⟨B, 1, none⟩ (.int .i64 ((i' : Int) + 1))).heap[k]? = (W8.alloc (.cells #[.string nm2, .slice a1 n1 k1, .slice a2 n2 k2] 25)).heap[k]? := fun k hk => Below.heap_setCell _ _ _ k (fun e => hk e)
  have hsz : (W8.alloc (.cells #[.string nm2, .slice a1 n1 k1, .slice a2 n2 k2] 25)).heap.size ≤ ((W8.alloc (.cells #[.string nm2, .slice a1 n1 k1, .slice a2 n2 k2] 25)).setCell ⟨B, 1, none⟩ (.int .i64 ((i' : Int) + 1))).heap.size := (KeepsWalks.setCell _ _ _).size
  have hbx : ((W8.alloc (.cells #[.string nm2, .slice a1 n1 k1, .slice a2 n2 k2] 25)).setCell ⟨B, 1, none⟩ (.int .i64 ((i' : Int) + 1))).heap[W8.heap.size]? = some (.cells #[.string nm2, .slice a1 n1 k1, .slice a2 n2 k2] 25 (0, 0)) := (hset _ hpB).trans (World.alloc_heap_new W8 _)
  have hr10 := (hset w.heap.size (by omega)).trans hr8
  have hF10 := hF9.later (W' := ((W8.alloc (.cells #[.string nm2, .slice a1 n1 k1, .slice a2 n2 k2] 25)).setCell ⟨B, 1, none⟩ (.int .i64 ((i' : Int) + 1)))) (fun b h1 h2 => hset b (by omega)) hsz
  have hK10 := hK9.put 1 (.int .i64 ((i' : Int) + 1))
  have HF := hide (And.intro hF10 (And.intro hK10 (And.intro hr10 (And.intro hlt0 (And.intro hT10 hbx)))))
  have hne : B ≠ w.heap.size := by omega
  have hz8 : W8.heap.size ≤ ((W8.alloc (.cells #[.string nm2, .slice a1 n1 k1, .slice a2 n2 k2] 25)).setCell ⟨B, 1, none⟩ (.int .i64 ((i' : Int) + 1))).heap.size := Nat.le_trans hb9.size hsz
  have hwz8 : w.heap.size ≠ W8.heap.size := by have := (Array.getElem?_eq_some_iff.1 hr7).1; have := hK8.size; omega
  clear hT7 hS7 hr7 hk7 hb9 hr8 hT9 hF9 hK9 hF hT8 hdr8 hK8 HX KP hend hwz hl2 hlt0 hF10 hK10 hr10 hT10 hbx hset hsz
  go_wp2_with fail
  generalize ((W8.alloc (.cells #[.string nm2, .slice a1 n1 k1, .slice a2 n2 k2] 25)).setCell ⟨B, 1, none⟩ (.int .i64 ((i' : Int) + 1))) = X at *
  obtain ⟨hF10, hK10, hr10, hlt0, hT10, hbx⟩ := HF.out
  clear d0 d1 f1
  obtain ⟨d0, d1⟩ := hT10.cells
  have p0 : X.cell? ⟨W8.heap.size, 0, none⟩ = some (.string nm2) := cell_of_row _ _ _ _ _ (0, 0) hbx
  have p1 : X.cell? ⟨W8.heap.size, 1, none⟩ = some (.slice a1 n1 k1) := cell_of_row _ _ _ _ _ (0, 0) hbx
  have p2 : X.cell? ⟨W8.heap.size, 2, none⟩ = some (.slice a2 n2 k2) := cell_of_row _ _ _ _ _ (0, 0) hbx
  have s0 : X.cell? ⟨w.heap.size, 0, none⟩ = some (.string ⟨#[]⟩) := cell_of_row _ _ _ _ _ (0, 0) hr10
  have s1 : X.cell? ⟨w.heap.size, 1, none⟩ = some (.slice none 0 0) := cell_of_row _ _ _ _ _ (0, 0) hr10
  have s2 : X.cell? ⟨w.heap.size, 2, none⟩ = some (.slice none 0 0) := cell_of_row _ _ _ _ _ (0, 0) hr10
  have fR := frozen_of hr10
  go_region
  go_wp2_with fail
  obtain ⟨g1, g2, g3⟩ := set3 hr10 (.string nm2) (.slice a1 n1 k1) (.slice a2 n2 k2)
  have hF6 : Fpt (PtM (.mk nm ls ks) (.agg #[.string nm2, .slice a1 n1 k1, .slice a2 n2 k2])) w.heap.size (((X.setCell ⟨w.heap.size, 0, none⟩ (.string nm2)).setCell ⟨w.heap.size, 1, none⟩ (.slice a1 n1 k1)).setCell ⟨w.heap.size, 2, none⟩ (.slice a2 n2 k2)).drew.heap.size (((X.setCell ⟨w.heap.size, 0, none⟩ (.string nm2)).setCell ⟨w.heap.size, 1, none⟩ (.slice a1 n1 k1)).setCell ⟨w.heap.size, 2, none⟩ (.slice a2 n2 k2)).drew := by
    refine ((hF10.later (W' := (((X.setCell ⟨w.heap.size, 0, none⟩ (.string nm2)).setCell ⟨w.heap.size, 1, none⟩ (.slice a1 n1 k1)).setCell ⟨w.heap.size, 2, none⟩ (.slice a2 n2 k2)).drew) (fun b h1 h2 => g2 b (by omega)) g3)).widen (by omega) ?_ (Nat.le_refl _)
    exact Nat.le_trans hz8 g3
  have hK6 : KB B w (((X.setCell ⟨w.heap.size, 0, none⟩ (.string nm2)).setCell ⟨w.heap.size, 1, none⟩ (.slice a1 n1 k1)).setCell ⟨w.heap.size, 2, none⟩ (.slice a2 n2 k2)).drew := ⟨hK10.os, hK10.tape, hK10.output, Nat.le_trans hK10.size g3, fun k hk hne => (g2 k (by omega)).trans (hK10.block k hk hne)⟩
  have g1' : (((X.setCell ⟨w.heap.size, 0, none⟩ (.string nm2)).setCell ⟨w.heap.size, 1, none⟩ (.slice a1 n1 k1)).setCell ⟨w.heap.size, 2, none⟩ (.slice a2 n2 k2)).drew.heap[w.heap.size]? = _ := g1
  refine bodyPost_ret (v := .tuple #[.agg #[.string nm2, .slice a1 n1 k1, .slice a2 n2 k2], .nilIface]) ?_ rfl ⟨nm2, a1, n1, k1, a2, n2, k2, rfl, hF6, hK6⟩
  rw [results_cell_tmp rfl]
  show ((asAddr (.pointer (some ⟨w.heap.size, 0, none⟩))).run _ _).andThen _ = _
  simp only [asAddr, Sem.run_pure, Result.andThen_ok, run_loadVar_row _ w.heap.size _ 25 _ _ _ g1' Tryd.underlying25 rfl (by kernel_rfl)]
  rfl
set_option maxRecDepth 100000 in
set_option maxHeartbeats 8000000 in
theorem parse_any (t : PPt) (ht : eT t = 0) (hz : ptz t ≤ 10000000) (C : List (List UInt8)) (hC : Tl.Cts (ptT t) C) (hC3 : Tl.total C ≤ 10000000) (hU : Tl.unf [] (Tl.strip C) = lnsT t) (hs : (ptT t).length ≤ 100000) (w : World) :
    Calls Tryd.prog 22 #[.string (Tl.str (ptT t))] w fun e w' => ∃ (nm' : ByteArray) (a1 : Option Addr) (n1 k1 : Nat) (a2 : Option Addr) (n2 k2 : Nat), e = .returned (.tuple #[.agg #[.string nm', .slice a1 n1 k1, .slice a2 n2 k2], .nilIface]) ∧ Fpt (PtM t (.agg #[.string nm', .slice a1 n1 k1, .slice a2 n2 k2])) w.heap.size w'.heap.size w' ∧ Below w.heap.size w w' := by
  have hl2 := lns_le t ht
  have hsz : (Tl.str (ptT t)).size ≤ 100000 := by rw [Tl.str_size]; exact hs
  have KU := hide (fun W => unfold_any (Tl.str (ptT t)) C W (by omega) hC hC3)
  have KW := hide (fun L hL A c B W h1 h2 => whole_any t ht hz L hL A c B W h1 h2)
  rw [hU] at KU
  have hsi : ¬ (100000 : Int) < ((Tl.str (ptT t)).size : Int) := by omega
  have hb0 : Below w.heap.size w (w.alloc (.cells #[.string ⟨#[]⟩, .slice none 0 0, .slice none 0 0] 25)) := (Below.refl _ w).alloc (Nat.le_refl _) _
  have hr0 : (w.alloc (.cells #[.string ⟨#[]⟩, .slice none 0 0, .slice none 0 0] 25)).heap[w.heap.size]? = some (.cells #[.string ⟨#[]⟩, .slice none 0 0, .slice none 0 0] 25 (0, 0)) := World.alloc_heap_new w _
  have H0 := hide (And.intro hr0 hb0)
  generalize Tl.str (ptT t) = Z at *
  generalize lnsT t = LT at *
  clear hC hC3 hU hs ht hz hb0 hr0 hsz
  go_enter Tryd.func22, Tryd.ntmps22
  go_wp2_with fail
  generalize w.alloc (.cells #[.string ⟨#[]⟩, .slice none 0 0, .slice none 0 0] 25) = W0 at *
  refine (KU.out _).mono ?_
  rintro e W1 ⟨v, L, rfl, hsr, hL, hl, b1⟩
  obtain ⟨A, c, rfl, hsl⟩ := SR.sl hsr
  have hLl : L.length ≤ 2000 := by rw [← hL, txs_len] at hl2; exact hl2
  have hLi : ¬ (2000 : Int) < (L.length : Int) := by omega
  have hr1 := (b1.block _ (Array.getElem?_eq_some_iff.1 H0.out.1).1).trans H0.out.1
  have hB1 := H0.out.2.trans (b1.mono H0.out.2.size)
  have hb2 : Below W1.heap.size W1 (W1.alloc (.cells #[.slice A L.length c, .int .i64 0] 78)) := (Below.refl _ W1).alloc (Nat.le_refl _) _
  have hT : TB (W1.alloc (.cells #[.slice A L.length c, .int .i64 0] 78)) W1.heap.size A L.length c 0 := World.alloc_heap_new W1 _
  have hr2 := (hb2.block _ (Array.getElem?_eq_some_iff.1 hr1).1).trans hr1
  have hw1 : w.heap.size < W1.heap.size := (Array.getElem?_eq_some_iff.1 hr1).1
  have HX := hide (And.intro hT (And.intro (hsl.later hb2) (And.intro hr2 (And.intro (hB1.trans (hb2.mono hB1.size)) hw1))))
  clear hsr hsl hr1 hB1 hb2 hT hr2 b1 H0 hl hl2 hw1
  go_wp2_with fail
  generalize W1.alloc (.cells #[.slice A L.length c, .int .i64 0] 78) = W2 at *
  refine (KW.out L hL A c _ _ HX.out.1 HX.out.2.1).mono ?_
  rintro e W3 ⟨nm2, a1, n1, k1, a2, n2, k2, rfl, hF, hK⟩
  obtain ⟨_, _, hr2, hB2, hw1⟩ := HX.out
  have hr3 := (hK.block _ (Array.getElem?_eq_some_iff.1 hr2).1 (by omega)).trans hr2
  have hw2 : w.heap.size < W2.heap.size := (Array.getElem?_eq_some_iff.1 hr2).1
  have hB3 : Below w.heap.size w W3 := ⟨hK.os.trans hB2.os, hK.tape.trans hB2.tape, hK.output.trans hB2.output, Nat.le_trans hB2.size hK.size, fun k hk => (hK.block k (by omega) (by omega)).trans (hB2.block k hk)⟩
  have hb4 : Below W3.heap.size W3 (W3.alloc (.cells #[.string nm2, .slice a1 n1 k1, .slice a2 n2 k2] 25)) := (Below.refl _ W3).alloc (Nat.le_refl _) _
  have hr4 := (hb4.block _ (Array.getElem?_eq_some_iff.1 hr3).1).trans hr3
  have hF4 := hF.later (.below hb4 (Nat.le_refl _)) hb4.size
  have hB4 := hB3.trans (hb4.mono hB3.size)
  have s0 : (W3.alloc (.cells #[.string nm2, .slice a1 n1 k1, .slice a2 n2 k2] 25)).cell? ⟨w.heap.size, 0, none⟩ = some (.string ⟨#[]⟩) := cell_of_row _ _ _ _ _ (0, 0) hr4
  have s1 : (W3.alloc (.cells #[.string nm2, .slice a1 n1 k1, .slice a2 n2 k2] 25)).cell? ⟨w.heap.size, 1, none⟩ = some (.slice none 0 0) := cell_of_row _ _ _ _ _ (0, 0) hr4
  have s2 : (W3.alloc (.cells #[.string nm2, .slice a1 n1 k1, .slice a2 n2 k2] 25)).cell? ⟨w.heap.size, 2, none⟩ = some (.slice none 0 0) := cell_of_row _ _ _ _ _ (0, 0) hr4
  have fR := frozen_of hr4
  have HF := hide (And.intro hr4 (And.intro hF4 (And.intro hB4 (And.intro hw2 hb4.size))))
  have hwz8 : w.heap.size ≠ W3.heap.size := by have := (Array.getElem?_eq_some_iff.1 hr3).1; omega
  clear hr2 hB2 hw1 hr3 hw2 hB3 hb4 hr4 hF4 hB4 hK hF HX
  go_wp2_with fail
  generalize (W3.alloc (.cells #[.string nm2, .slice a1 n1 k1, .slice a2 n2 k2] 25)) = X at *
  obtain ⟨hr4, hF4, hB4, hw2, hz4⟩ := HF.out
  obtain ⟨g1, g2, g3⟩ := set3 hr4 (.string nm2) (.slice a1 n1 k1) (.slice a2 n2 k2)
  have hF6 : Fpt (PtM t (.agg #[.string nm2, .slice a1 n1 k1, .slice a2 n2 k2])) w.heap.size (((X.setCell ⟨w.heap.size, 0, none⟩ (.string nm2)).setCell ⟨w.heap.size, 1, none⟩ (.slice a1 n1 k1)).setCell ⟨w.heap.size, 2, none⟩ (.slice a2 n2 k2)).heap.size (((X.setCell ⟨w.heap.size, 0, none⟩ (.string nm2)).setCell ⟨w.heap.size, 1, none⟩ (.slice a1 n1 k1)).setCell ⟨w.heap.size, 2, none⟩ (.slice a2 n2 k2)) := by
    refine ((hF4.later (W' := (((X.setCell ⟨w.heap.size, 0, none⟩ (.string nm2)).setCell ⟨w.heap.size, 1, none⟩ (.slice a1 n1 k1)).setCell ⟨w.heap.size, 2, none⟩ (.slice a2 n2 k2))) (fun b h1 h2 => g2 b (by omega)) g3)).widen (by omega) ?_ (Nat.le_refl _)
    exact Nat.le_trans hz4 g3
  have hB6 : Below w.heap.size w (((X.setCell ⟨w.heap.size, 0, none⟩ (.string nm2)).setCell ⟨w.heap.size, 1, none⟩ (.slice a1 n1 k1)).setCell ⟨w.heap.size, 2, none⟩ (.slice a2 n2 k2)) := ⟨hB4.os, hB4.tape, hB4.output, Nat.le_trans hB4.size g3, fun k hk => (g2 k (by omega)).trans (hB4.block k hk)⟩
  refine bodyPost_ret (v := .tuple #[.agg #[.string nm2, .slice a1 n1 k1, .slice a2 n2 k2], .nilIface]) ?_ rfl ⟨nm2, a1, n1, k1, a2, n2, k2, rfl, hF6, hB6⟩
  rw [results_cell_tmp rfl]
  show ((asAddr (.pointer (some ⟨w.heap.size, 0, none⟩))).run _ _).andThen _ = _
  simp only [asAddr, Sem.run_pure, Result.andThen_ok, run_loadVar_row _ w.heap.size _ 25 _ _ _ g1 Tryd.underlying25 rfl (by kernel_rfl)]
  rfl
theorem results_cell_tmp2 {fn : Func} {p u v : Tmp} {ty : TypeId} (h : fn.results = #[.cell p ty, .tmp u, .tmp v]) (tmps : Array Value) (P : Program) (w : World) :
    (results fn tmps).run P w =
      ((asAddr (tmps.getD p undef)).run P w).andThen fun a w₁ => ((loadVar ty a).run P w₁).andThen fun x w₂ => .ok (.tuple #[x, tmps.getD u undef, tmps.getD v undef]) w₂ := by
  simp only [results, h]
  simp [Sem.run_bind, Result.andThen]
end Go.Proofs.YtponocolfjkapaaDoor
