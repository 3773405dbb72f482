/- The law TextBack. -/
import Derived.Test.YtponocolfjkapaaDoorMTextBackUpto41
import Derived.Test.YtponocolfjkapaaDoorMTextBackUpto37
import Derived.Test.YtponocolfjkapaaDoorMTextBackUpto40
import Derived.Test.YtponocolfjkapaaDoorMTextBackUpto1
import Derived.Test.YtponocolfjkapaaDoorMTextBackUpto20
import Derived.Test.YtponocolfjkapaaDoorMTextBackUpto36
import Derived.Deep.Cut
namespace Go.Proofs.YtponocolfjkapaaDoor
open Go.RowKit Go.Shelf
set_option linter.unusedVariables false
set_option linter.unusedSimpArgs false

/-- what Items answers at a list that was joined -/
theorem items_of {L M : List ByteArray} {x k : Int} (h : DIt (Tl.run (Tl.tx (Tl.str (Tl.joinE (txs L)))) 0 [] []) M x k) : x = 0 ∧ (L ≠ [] → M = L) := by
  rw [Tl.tx_str] at h
  by_cases hL : L = []
  · subst hL
    refine ⟨?_, fun e => absurd rfl e⟩
    rcases h with ⟨_, rfl, _⟩ | ⟨i, e, _⟩
    · rfl
    · exact absurd e (by simp [txs, Tl.joinE, Tl.run])
  · have hr := Tl.run_join (txs L) 0 [] (by
      intro e
      have := congrArg List.length e
      rw [txs_len] at this
      exact hL (List.eq_nil_of_length_eq_zero this))
    rw [List.nil_append] at hr
    rw [hr] at h
    rcases h with ⟨h1, rfl, _⟩ | ⟨i, e, _⟩
    · exact ⟨rfl, fun _ => (txs_inj (Except.ok.inj h1)).symm⟩
    · cases e
theorem joinE_sz (L : List ByteArray) : (Tl.str (Tl.joinE (txs L))).size ≤ 2 * Tl.total (txs L) + L.length := by
  rw [Tl.str_size]
  have := Tl.joinE_len (txs L)
  rwa [txs_len] at this
set_option maxRecDepth 100000 in
set_option maxHeartbeats 8000000 in
theorem textback_walk (t : PPt) (v : Value) (a : Option Addr) (c : Nat) (L : List ByteArray) (w : World) (hd : Hd w) (h : PtM t v w) (hz : ptz t ≤ 1200000) (hS : SL a L w) (hT : Tl.total (txs L) ≤ 1200000) :
    Calls Tryd.prog 4 #[v, .slice a L.length c] w fun e w' => e = .returned (.bool true) ∧ Below w.heap.size w w' := by
  by_cases hbig : 512 < L.length
  · obtain ⟨nm, A, n, cc, A2, n2, c2, rfl⟩ := h.agg
    have hbi : (512 : Int) < L.length := by omega
    have hb0 : Below w.heap.size w (w.alloc (.cells #[.string nm, .slice A n cc, .slice A2 n2 c2] 25)) := (Below.refl _ w).alloc (Nat.le_refl _) _
    clear h hS
    go_enter Tryd.func4, Tryd.ntmps4
    go_wp2
    go_ret
    exact ⟨rfl, hb0⟩
  · have hbi : ¬ (512 : Int) < L.length := by omega
    have hjs := joinE_sz L
    have KJ := hide (fun W (hb : Below w.heap.size w W) => pjoin_any a c L W (hS.later hb) (by omega) (by omega))
    have KI := hide (fun W (hb : Below w.heap.size w W) => pitems_gen (Tl.str (Tl.joinE (txs L))) W (hd.later hb) (by omega))
    have KS := hide (fun a1 c1 W (hs : SL a1 L W) (hb : Below w.heap.size w W) => same_any a1 a c1 c L W hs (hS.later hb) (by omega))
    have KP := hide (fun W (hb : Below w.heap.size w W) => ptextPrint_any t v W (hd.later hb) (PtM.later hb _ _ h) (by omega))
    have KC := hide (fun W (hb : Below w.heap.size w W) => ptextCheck_any t v W (hd.later hb) (PtM.later hb _ _ h))
    have KQ := hide (fun v1 W (h1 : PtM t v1 W) (hb : Below w.heap.size w W) => partS_any t v1 v W h1 (PtM.later hb _ _ h))
    have HD := hide (fun W (hb : Below w.heap.size w W) => hd.later hb)
    have HIT := hide (fun M x k (h : DIt (Tl.run (Tl.tx (Tl.str (Tl.joinE (txs L)))) 0 [] []) M x k) => items_of h)
    obtain ⟨nm, A, n, cc, A2, n2, c2, rfl⟩ := h.agg
    have HX := hide (show TpS w #[.string nm, .slice A n cc, .slice A2 n2 c2] (w.alloc (.cells #[.string nm, .slice A n cc, .slice A2 n2 c2] 25)) from ⟨World.alloc_heap_new w _, (Below.refl _ w).alloc (Nat.le_refl _) _⟩)
    clear h hd hS hjs
    generalize Tl.str (Tl.joinE (txs L)) = J at *
    go_enter Tryd.func4, Tryd.ntmps4
    go_wp2_with fail
    refine (KJ.out _ HX.out.2).mono ?_
    rintro e W1 ⟨rfl, b1⟩
    have hX1 := HX.out.later b1
    have HX1 := hide hX1
    clear hX1 b1 HX KJ
    go_wp2_with fail
    refine (KI.out _ HX1.out.2).mono ?_
    rintro e W2 ⟨a1, c1, L1, x1, k1, rfl, hs1, hD1, hl1, b2⟩
    obtain ⟨rfl, hLL⟩ := HIT.out _ _ _ hD1
    have HX2 := hide (HX1.out.later b2)
    clear b2 HX1 KI HIT hD1 hT
    go_upto_region 4 with fail
    go_cut [37] from 15 (fun s37 wc => s37 = .bool false ∧ TpS w #[.string nm, .slice A n cc, .slice A2 n2 c2] wc)
    case first =>
      rcases Nat.eq_zero_or_pos L.length with h0 | h0
      · obtain rfl : L = [] := List.eq_nil_of_length_eq_zero h0
        clear h0
        go_wp2_with fail
        go_meet
        case rel => exact ⟨rfl, HX2.out⟩
      · have h0i : (0 : Int) < L.length := by omega
        obtain rfl := hLL (by intro e; rw [e] at h0; simp at h0)
        have HS := hide hs1
        clear hs1
        go_wp2_with fail
        refine (KS.out _ _ _ HS.out HX2.out.2).mono ?_
        rintro e W3 ⟨rfl, b3⟩
        have HX3 := hide (HX2.out.later b3)
        clear b3 HX2
        go_wp2_with fail
        go_meet
        case rel => exact ⟨rfl, HX3.out⟩
    case rest =>
      obtain ⟨rfl, hX3⟩ := hcut
      clear hs1 hLL HX2 KS hl1
      obtain ⟨d0, d1, d2⟩ := hX3.cells
      have HX3 := hide hX3
      clear hX3
      go_wp2_with fail
      refine (KP.out _ HX3.out.2).mono ?_
      rintro e W4 ⟨rfl, b4⟩
      have hX4 := HX3.out.later b4
      have HX4 := hide hX4
      clear b4 HX3 KP d0 d1 d2
      have HPT : Hid (prT t = if eT t = 0 then Tl.str (ptT t) else ByteArray.empty) := rfl
      by_cases he : eT t = 0
      · have hp := HPT.out
        rw [if_pos he] at hp
        rw [hp, he]
        obtain ⟨C, hC, hU, hC76⟩ := printed t he
        have hzt := ptT_len t
        have hCt := cts_total hC
        have hzs : (Tl.str (ptT t)).size = (ptT t).length := Tl.str_size _
        have KT := hide (fun W (hs : (ptT t).length ≤ 100000) => pparse_any t he (by omega) C hC (by omega) hU hs W)
        have KTL := hide (fun W (hs : 100000 < (Tl.str (ptT t)).size) (hb : Below w.heap.size w W) => pparse_long (Tl.str (ptT t)) hs W (HD.out W hb))
        have HC := hide (And.intro hC hC76)
        have hZ : Tl.tx (Tl.str (ptT t)) = ptT t := Tl.tx_str _
        have hz9 : (Tl.str (ptT t)).size ≤ 60000000 := by omega
        clear hC hU hC76 hCt he HPT hp KC HD hX4 hzt
        generalize ptT t = T at *
        generalize Tl.str T = Z at *
        go_wp2_with fail
        go_loopw [10, 11] (fun u10 u11 wr => ∃ f i : Nat, f ≤ i ∧ i ≤ Z.size ∧ u10 = .int .i64 f ∧ u11 = .int .i64 i ∧ (∃ C', Tl.Cts (T.drop f) C' ∧ ∀ q ∈ C', q.length ≤ 76) ∧ (10 : UInt8) ∉ (T.drop f).take (i - f) ∧ W4 = wr) (fun _ u11 _ => Z.size - (intOf u11).toNat)
        case atStart => exact ⟨0, 0, by omega, by omega, rfl, rfl, ⟨C, by rw [List.drop_zero]; exact HC.out.1, HC.out.2⟩, by simp, rfl⟩
        case round =>
          obtain ⟨f, i, hfi, hi, rfl, rfl, ⟨C', hC', hC6⟩, hno, rfl⟩ := hrel
          by_cases hlt : i < Z.size
          · have hii : (i : Int) < Z.size := by omega
            have hi0 : (0 : Int) ≤ i := by omega
            have hTi : T[i]? = some Z[i] := by
              rw [← hZ, List.getElem?_eq_getElem (by rw [Tl.tx_len]; exact hlt)]; rfl
            have hdi : (T.drop f).drop (i - f) = Z[i] :: T.drop (i + 1) := by
              rw [List.drop_drop, show f + (i - f) = i by omega]
              have hlT : i < T.length := (List.getElem?_eq_some_iff.1 hTi).1
              rw [List.drop_eq_getElem_cons hlT]
              congr 1
              rw [List.getElem?_eq_getElem hlT] at hTi
              exact Option.some.inj hTi
            have hsplit : T.drop f = (T.drop f).take (i - f) ++ Z[i] :: T.drop (i + 1) := by rw [← hdi, List.take_append_drop]
            by_cases hb : Z[i] = 10
            · have hbi : ((Z[i].toNat : Int) == 10) = true := by rw [hb]; rfl
              rw [hb] at hsplit
              obtain ⟨C2, hC2, rfl⟩ := hC'.inv_more hsplit hno
              have hp6 := hC6 _ List.mem_cons_self
              have hlen : ((T.drop f).take (i - f)).length = i - f := by
                have hlT : i < T.length := (List.getElem?_eq_some_iff.1 hTi).1
                rw [List.length_take, List.length_drop]; omega
              rw [hlen] at hp6
              have hsub : ¬ (76 : Int) < (i : Int) - f := by omega
              have HN := hide (And.intro hC2 (fun q hq => hC6 q (List.mem_cons_of_mem _ hq)))
              clear hC' hC6 hno hTi hdi hsplit hb hC2 hlen
              go_wp2
              go_roundw
              case rel => exact ⟨i + 1, i + 1, Nat.le_refl _, by omega, by go_num, by go_num, ⟨C2, HN.out.1, HN.out.2⟩, by simp, by trivial⟩
              case measure => simp [intOf]; omega
            · have hbi : ((Z[i].toNat : Int) == 10) = false := by
                rw [beq_eq_false_iff_ne]
                intro e
                exact hb (UInt8.toNat_inj.1 (by have : (10 : UInt8).toNat = 10 := rfl; omega))
              have hno2 : (10 : UInt8) ∉ (T.drop f).take (i + 1 - f) := by
                rw [show i + 1 - f = (i - f) + 1 by omega, List.take_add_one]
                have hg : (T.drop f)[i - f]? = some Z[i] := by rw [List.getElem?_drop, show f + (i - f) = i by omega]; exact hTi
                rw [hg]
                simp only [Option.toList, List.mem_append, List.mem_singleton]
                exact fun h => h.elim hno (fun e => hb e.symm)
              have HN := hide (And.intro hC' (And.intro hC6 hno2))
              clear hC' hC6 hno hno2 hTi hdi hsplit hb
              go_wp2
              go_roundw
              case rel => exact ⟨f, i + 1, by omega, by omega, rfl, by go_num, ⟨C', HN.out.1, HN.out.2.1⟩, HN.out.2.2, by trivial⟩
              case measure => simp [intOf]; omega
          · obtain rfl : i = Z.size := by omega
            have hii : ¬ (Z.size : Int) < Z.size := by omega
            clear hC' hC6 hno HC
            by_cases hs : T.length ≤ 100000
            · have hsi : ¬ (100000 : Int) < (Z.size : Int) := by omega
              go_wp2_with fail
              refine (KT.out _ hs).mono ?_
              rintro e W5 ⟨nm2, a5, n5, k5, a6, n6, k6, rfl, hF, b5⟩
              have hX5 := HX4.out.later b5
              have hb6 : Below W5.heap.size W5 (W5.alloc (.cells #[.string nm2, .slice a5 n5 k5, .slice a6 n6 k6] 25)) := (Below.refl _ W5).alloc (Nat.le_refl _) _
              have hX6 := hX5.later hb6
              have hP6 := (hF.later (.below hb6 (Nat.le_refl _)) hb6.size).now
              obtain ⟨d0, d1, d2⟩ := hX6.cells
              have HX6 := hide (And.intro hX6 hP6)
              clear hX5 hb6 hX6 hP6 hF b5 HX4 KT KTL
              go_wp2_with fail
              refine (KQ.out _ _ HX6.out.2 HX6.out.1.2).mono ?_
              rintro e W7 ⟨rfl, b7⟩
              have hB7 := (HX6.out.1.later b7).2
              clear b7 HX6 d0 d1 d2
              go_wp2
              go_ret
              exact ⟨rfl, hB7⟩
            · have hsi : (100000 : Int) < (Z.size : Int) := by omega
              go_wp2_with fail
              refine (KTL.out _ (by omega) HX4.out.2).mono ?_
              rintro e W5 ⟨rfl, b5⟩
              have hX5 := HX4.out.later b5
              have hb6 : Below W5.heap.size W5 (W5.alloc (.cells #[.string ⟨#[]⟩, .slice none 0 0, .slice none 0 0] 25)) := (Below.refl _ W5).alloc (Nat.le_refl _) _
              have hB6 := (hX5.later hb6).2
              clear hX5 hb6 b5 HX4 KT KTL
              go_wp2
              go_ret
              exact ⟨rfl, hB6⟩
      · have hp := HPT.out
        rw [if_neg he] at hp
        rw [hp]
        generalize eT t = k at *
        have hkb : ((k : Int) == 0) = false := by rw [beq_eq_false_iff_ne]; exact he
        have hkk : ((k : Int) == k) = true := by simp
        have hem : (ByteArray.empty.toList == []) = true := by decide +kernel
        obtain ⟨d0, d1, d2⟩ := hX4.cells
        clear HPT hp hX4
        generalize ByteArray.empty = E at *
        go_wp2_with fail
        refine (KC.out _ HX4.out.2).mono ?_
        rintro e W5 ⟨rfl, b5⟩
        have HX5 := hide (HX4.out.later b5)
        clear b5 HX4
        go_wp2
        go_ret
        exact ⟨by first | rfl | simp, HX5.out.2⟩
end Go.Proofs.YtponocolfjkapaaDoor
