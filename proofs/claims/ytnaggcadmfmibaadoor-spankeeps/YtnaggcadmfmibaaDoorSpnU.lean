/- package span: closed. -/
import Derived.Test.YtnaggcadmfmibaaDoorSpnS
import Derived.Test.YtnaggcadmfmibaaDoorSpnT
import Derived.Deep.LoopGhost
import Derived.Laws.ResultCell
namespace Go.Proofs.YtnaggcadmfmibaaDoor
open Go.RowKit
set_option linter.unusedVariables false
set_option linter.unusedSimpArgs false

theorem A1_row (X : World) : (X.alloc (.cells (grA 0 z2) 51)).heap[X.heap.size]? = some (.cells (grA 0 z2) 51 (0, 0)) := heap_alloc_last _ _
theorem A1_there (X : World) (G : Array Value) (hG : G.size = 37) : (X.alloc (.cells (grA 0 z2) 51)).there X.heap.size 0 G.size := fun j hj => by
  rw [Nat.zero_add, cell_of_row _ _ _ _ _ (0, 0) (A1_row X)]
  exact ⟨by rw [Array.getElem?_eq_getElem (by rw [grA_size]; rw [hG] at hj; exact hj)]; rfl, frozen_of_row _ _ _ _ _ (A1_row X)⟩
theorem A1_set {X W1 : World} {n : Nat} {N : Nat → Nat → Nat} (h : (X.alloc (.cells (grA 0 z2) 51)).setCells X.heap.size 0 (grA n N).toList = W1) :
    Gr X.heap.size n N W1 ∧ Below X.heap.size X W1 := by
  subst h
  exact ⟨setCells_whole (A1_row X) (by rw [grA_size, grA_size]), setCells_bel (Nat.le_refl _) _ _ _ ((Below.refl _ X).alloc (Nat.le_refl _) _)⟩
/-- what the loop of closed keeps -/
structure CI (n : Nat) (S N : Nat → Nat → Nat) : Prop where
  mat : Mat n N
  win : Within n N S
  low : ∀ M, Closed n M → Within n M S → Within n M N
theorem CI.next {n : Nat} {S N N' : Nat → Nat → Nat} {ls : Bool} (h : CI n S N) (k : NI n N N' ls) : CI n S N' :=
  ⟨k.mat, fun a b ha hb => (k.win a b ha hb).trans (h.win a b ha hb), fun M hM hm => k.low M hM (h.low M hM hm)⟩
theorem CI.great {n : Nat} {S N N' : Nat → Nat → Nat} (h : CI n S N) (k : NI n N N' false) (q : ∀ a b c, a < n → b < n → c < n → Q3 N a b c) : Great n S N' := by
  have h' := h.next k
  refine ⟨⟨k.mat.eq, fun i j hi hj => ?_, fun i j l hi hj hl => ?_⟩, h'.win, h'.low⟩
  · rw [k.mat.bk j i hj hi]; exact Sub.refl _
  · rw [k.same rfl i l hi hl, k.same rfl i j hi hj, k.same rfl j l hj hl]; exact q i j l hi hj hl
theorem cpN_lt {n : Nat} {g : Nat → Nat → Int} (hg : ∀ a b, a < n → b < n → 0 ≤ g a b ∧ g a b ≤ 8191) (a b : Nat) : cpN n g n a b < 8192 := by
  unfold cpN
  split
  · rename_i h; have := hg a b h.1 h.2; omega
  · omega
theorem cpN_0 (n : Nat) (g : Nat → Nat → Int) (r a b : Nat) (h : n ≤ b) : cpN n g r a b = 0 := by unfold cpN; rw [if_neg (by omega)]
set_option maxRecDepth 100000 in
set_option maxHeartbeats 16000000 in
theorem closed_ok (a : Addr) (n cap : Nat) (A : Nat → Option Addr) (C : Nat → Nat) (g : Nat → Nat → Int) (w : World) (hf : FT w) (hz : chk n (fun _ => n) g = 0) (h : NetAt (some a) n A (fun _ => n) C g w) :
    Calls Tryd.prog 16 #[.slice (some a) n cap] w fun e w' => ∃ (N : Nat → Nat → Nat) (G : Array Value) (k : Int), e = .returned (.tuple #[.agg G, ek k]) ∧ Below w.heap.size w w' ∧ Great n (cpN n g n) N ∧ Mat n N ∧
      ((noWay n N n = true ∧ k = 12 ∧ G = grA 0 z2) ∨ (noWay n N n = false ∧ k = 0 ∧ G = grA n N)) := by
  obtain ⟨n1, n6, _, hg⟩ := chk_ok hz
  have hb0 : Below w.heap.size w (w.alloc (.cells (grA 0 z2) 51)) := (Below.refl _ w).alloc (Nat.le_refl _) _
  have hr0 := A1_row w
  have K1 := hide (check_any (some a) n cap A (fun _ => n) C g _ (h.step hb0))
  rw [hz, ek_0] at K1
  have K2 := hide (fun W (hb : Below w.heap.size w W) => gridof_any a n cap A C g W n1 n6 (h.step hb) (fun x y hx hy => (hg x y hx hy).1))
  have HF := hide hf
  have HB0 := hide hb0
  have HR0 := hide hr0
  have HCL := hide (cpN_lt hg)
  have HW : Hid (w.heap.size < (w.alloc (.cells (grA 0 z2) 51)).heap.size) := by unfold Hid; simp
  clear hz h hf hb0 hr0 hg
  go_enter Tryd.func16, Tryd.ntmps16
  go_wp2_with fail
  generalize hW1 : World.alloc w _ = W1
  have hW1' : w.alloc (.cells (grA 0 z2) 51) = W1 := hW1
  rw [hW1'] at K1 HB0 HR0 HW
  clear hW1 hW1'
  refine K1.out.mono ?_
  rintro e X ⟨rfl, rfl⟩
  go_wp2_with fail
  refine (K2.out _ HB0.out).mono ?_
  rintro e X2 ⟨rfl, hx⟩
  have HX2 := hide (HB0.out.trans (hx.mono HB0.out.size))
  have HR2 : Hid (X2.heap[w.heap.size]? = some (.cells (grA 0 z2) 51 (0, 0))) := (hx.block _ HW.out).trans HR0.out
  have HS2 : Hid (w.heap.size < X2.heap.size) := Nat.lt_of_lt_of_le HW.out hx.size
  generalize hG : grA n (cpN n g n) = G
  have hGs : G.size = 37 := by rw [← hG]; exact grA_size _ _
  have HG := hide hG
  have HG1 : Hid (G.all (·.oneCell') = true) := by unfold Hid; rw [← hG]; exact grA_one _ _
  clear hG K1 hx HR0 HB0 HW
  go_wp2_with (first | (refine wpList_store_mid rfl 51 (.tmp 5) (.tmp 13) rfl X2.heap.size 0 G rfl rfl (A1_there X2 G hGs) (by rw [hGs]; exact infoGrid) HG1.out ?_; generalize hW : World.setCells _ _ _ _ = W3))
  have hA := A1_set (n := n) (N := cpN n g n) (show (X2.alloc (.cells (grA 0 z2) 51)).setCells X2.heap.size 0 (grA n (cpN n g n)).toList = W3 by rw [HG.out]; exact hW)
  clear hW
  have h2B : 2 ≤ X2.heap.size := by have := HF.out.2.1; have := HX2.out.size; omega
  have HA := hide hA
  clear hA
  have hBB : w.heap.size ≤ X2.heap.size := Nat.le_of_lt HS2.out
  have hB3 := hide (HX2.out.trans (HA.out.2.mono hBB))
  have KM := hide (match_any X2.heap.size n (cpN n g n) W3 n1 n6 HCL.out (fun x y => cpN_0 n g n x y) HA.out.1)
  have hrB : Hid (X2.heap.size < W3.heap.size) := HA.out.1.lt
  have HR3 : Hid (W3.heap[w.heap.size]? = some (.cells (grA 0 z2) 51 (0, 0))) := (HA.out.2.block _ HS2.out).trans HR2.out
  have HSB := hide HS2.out
  generalize X2.heap.size = B at *
  clear HA HR2 HS2 K2 HX2
  refine KM.out.mono ?_
  rintro e W4 ⟨rfl, hg4, hb4⟩
  have hMM := mt_mat (cpN n g n) n HCL.out
  have HCI : Hid (CI n (cpN n g n) (mtR (cpN n g n) n)) := ⟨hMM.1, hMM.2.1, hMM.2.2⟩
  have HG4 := hide hg4
  have HB4 := hide (hB3.out.trans (hb4.mono hBB))
  have HR4 : Hid (W4.heap[w.heap.size]? = some (.cells (grA 0 z2) 51 (0, 0))) := (hb4.block _ HSB.out).trans HR3.out
  clear hMM hg4 hb4 hB3 HR3 hrB KM
  generalize mtR (cpN n g n) n = N4 at *
  generalize hSS : cpN n g n = SS at *
  go_wp2_with fail
  go_loopg [] (tot N4 n n) (fun gk wx => ∃ N, tot N n n ≤ gk ∧ Gr B n N wx ∧ CI n SS N ∧ Below w.heap.size w wx ∧ wx.heap[w.heap.size]? = some (.cells (grA 0 z2) 51 (0, 0)))
  case atStart => exact ⟨N4, Nat.le_refl _, HG4.out, HCI.out, HB4.out, HR4.out⟩
  case round =>
    clear HG4 HCI HB4 HR4
    obtain ⟨N, ht, hg, hci, hb, hr⟩ := hrel
    have HFT := HF.out.later hb
    have KN := hide (narrow_any B n N wr HFT h2B n1 n6 hci.mat hg)
    have HH := hide (And.intro ht (And.intro hg (And.intro hci (And.intro hb hr))))
    clear ht hg hci hb hr HFT
    go_wp2_with fail
    refine KN.out.mono ?_
    rintro e W5 ⟨N', ls, rfl, hg5, hb5, hni, hq⟩
    have HN := hide (And.intro hg5 (And.intro hb5 (And.intro hni hq)))
    clear hg5 hb5 hni hq KN
    cases ls
    · have hgr := HH.out.2.2.1.great HN.out.2.2.1 (HN.out.2.2.2 rfl)
      have HGR := hide hgr
      have HMT := hide HN.out.2.2.1.mat
      have HG5 := hide HN.out.1
      have HB5 := hide (HH.out.2.2.2.1.trans (HN.out.2.1.mono hBB))
      have HR5 : Hid (W5.heap[w.heap.size]? = some (.cells (grA 0 z2) 51 (0, 0))) := (HN.out.2.1.block _ HSB.out).trans HH.out.2.2.2.2
      have KL := hide (lacks_any B n N' W5 n1 n6 HG5.out)
      clear hgr HH HN
      generalize hNW : noWay n N' n = nw at *
      have HNW := hide hNW
      clear hNW
      go_wp2_with fail
      refine KL.out.mono ?_
      rintro e W6 ⟨rfl, hb6⟩
      have HB6 := hide (HB5.out.trans (hb6.mono HB5.out.size))
      have hlt : w.heap.size < W5.heap.size := Nat.lt_of_lt_of_le HSB.out (Nat.le_of_lt HG5.out.lt)
      have hr6 : W6.heap[w.heap.size]? = some (.cells (grA 0 z2) 51 (0, 0)) := (hb6.block _ hlt).trans HR5.out
      have HG6 := hide (HG5.out.step hb6)
      have HR6 := hide hr6
      have HEND : Hid (∀ G : Array Value, G.size = 37 → Sem.run Tryd.prog (loadVar 51 ⟨w.heap.size, 0, none⟩) (W6.setCells w.heap.size 0 G.toList) = .ok (.agg G) (W6.setCells w.heap.size 0 G.toList) ∧ W6.there w.heap.size 0 G.size ∧ Below w.heap.size w (W6.setCells w.heap.size 0 G.toList)) := fun G hG => by
        have hwh := setCells_whole (vs := G) hr6 (by rw [grA_size, hG])
        have hld := run_loadVar_mid (P := Tryd.prog) (W6.setCells w.heap.size 0 G.toList) w.heap.size 0 51 G.toList _ (fun j v hv => by
          rw [Nat.zero_add, cell_of_row _ _ _ _ _ (0, 0) hwh]; simpa using hv) Tryd.underlying51 rfl (by rw [Array.length_toList, hG]; exact infoGrid)
        rw [Array.toArray_toList] at hld
        exact ⟨hld, fun j hj => by
          rw [Nat.zero_add, cell_of_row _ _ _ _ _ (0, 0) hr6]
          exact ⟨by rw [Array.getElem?_eq_getElem (by rw [grA_size]; rw [hG] at hj; exact hj)]; rfl, frozen_of_row _ _ _ _ _ hr6⟩, setCells_bel (Nat.le_refl _) _ _ _ HB6.out⟩
      clear hb6 hlt hr6 KL HB5 HR5 HG5
      cases nw
      · generalize hG2 : grA n N' = G2
        have hG2s : G2.size = 37 := by rw [← hG2]; exact grA_size _ _
        have HG2 := hide hG2
        have hG2o : G2.all (·.oneCell') = true := by rw [← hG2]; exact grA_one _ _
        have HRA : Hid (W6.rangeAt B 0 G2.toList) := fun j v hv => by
          rw [Nat.zero_add, cell_of_row _ _ _ _ _ (0, 0) HG6.out, hG2]; simpa using hv
        have HE := hide (HEND.out G2 hG2s)
        clear hG2
        go_wp2_with (first
          | (refine wpList_load_mid rfl 51 (.tmp 5) rfl B 0 rfl G2.toList _ HRA.out Tryd.underlying51 rfl (by rw [Array.length_toList, hG2s]; exact infoGrid) ?_)
          | (refine wpList_store_mid rfl 51 (.tmp 2) (.tmp 19) rfl w.heap.size 0 G2 rfl rfl HE.out.2.1 (by rw [hG2s]; exact infoGrid) hG2o ?_))
        refine bodyPost_ret (v := .tuple #[.agg G2, .nilIface]) ?_ rfl ⟨N', G2, 0, by rw [ek_0], HE.out.2.2, by rw [hSS]; exact HGR.out, HMT.out, .inr ⟨HNW.out, rfl, HG2.out.symm⟩⟩
        rw [results_cell_tmp rfl]
        simp [asAddr, Result.andThen, HE.out.1]
      · have HE := hide (HEND.out (grA 0 z2) (grA_size _ _))
        go_wp2_with (first
          | (refine wpList_store_mid rfl 51 (.tmp 2) (.tmp 17) rfl w.heap.size 0 (grA 0 z2) rfl rfl HE.out.2.1 (infoGrid2 0 z2) (grA_one 0 z2) ?_))
        refine bodyPost_ret (v := .tuple #[.agg (grA 0 z2), .iface 24 (.int .i64 12)]) ?_ rfl ⟨N', grA 0 z2, 12, by rw [ek_no (by decide)], HE.out.2.2, by rw [hSS]; exact HGR.out, HMT.out, .inl ⟨HNW.out, rfl, rfl⟩⟩
        rw [results_cell_tmp rfl]
        simp [asAddr, Result.andThen, HE.out.1]
    · go_wp2
      go_roundg (tot N' n n)
      case measure => have := HN.out.2.2.1.tt rfl; have := HH.out.1; omega
      case rel => exact ⟨N', Nat.le_refl _, HN.out.1, HH.out.2.2.1.next HN.out.2.2.1, HH.out.2.2.2.1.trans (HN.out.2.1.mono hBB), (HN.out.2.1.block _ HSB.out).trans HH.out.2.2.2.2⟩
end Go.Proofs.YtnaggcadmfmibaaDoor
