/- package span: closed, Close; plain: SpanClose. -/
import Derived.Test.YtnaggcadmfmibaaDoorSpnU
import Derived.Test.YtnaggcadmfmibaaDoorSpnX
namespace Go.Proofs.YtnaggcadmfmibaaDoor
open Go.RowKit
set_option linter.unusedVariables false
set_option linter.unusedSimpArgs false

set_option maxRecDepth 100000 in
set_option maxHeartbeats 8000000 in
theorem closed_no (ad : Option Addr) (n cap : Nat) (A : Nat → Option Addr) (L C : Nat → Nat) (g : Nat → Nat → Int) (w : World) (hz : ¬ chk n L g = 0) (h : NetAt ad n A L C g w) :
    Calls Tryd.prog 16 #[.slice ad n cap] w fun e w' => e = .returned (.tuple #[.agg (grA 0 z2), ek (chk n L g)]) ∧ Below w.heap.size w w' := by
  have hb0 : Below w.heap.size w (w.alloc (.cells (grA 0 z2) 51)) := (Below.refl _ w).alloc (Nat.le_refl _) _
  have K1 := hide (check_any ad n cap A L C g _ (h.step hb0))
  rw [ek_no hz] at K1
  rw [ek_no hz]
  generalize chk n L g = k at *
  have HB0 := hide hb0
  have HR0 := hide (A1_row w)
  clear hz h hb0
  go_enter Tryd.func16, Tryd.ntmps16
  go_wp2_with fail
  generalize hW1 : World.alloc w _ = W1
  have hW1' : w.alloc (.cells (grA 0 z2) 51) = W1 := hW1
  rw [hW1'] at K1 HB0 HR0
  clear hW1 hW1'
  refine K1.out.mono ?_
  rintro e X ⟨rfl, rfl⟩
  have HEND : Hid (∀ G : Array Value, G.size = 37 → Sem.run Tryd.prog (loadVar 51 ⟨w.heap.size, 0, none⟩) (X.setCells w.heap.size 0 G.toList) = .ok (.agg G) (X.setCells w.heap.size 0 G.toList) ∧ X.there w.heap.size 0 G.size ∧ Below w.heap.size w (X.setCells w.heap.size 0 G.toList)) := fun G hG => by
    have hr6 := HR0.out
    have hwh := setCells_whole (vs := G) hr6 (by rw [grA_size, hG])
    have hld := run_loadVar_mid (P := Tryd.prog) (X.setCells w.heap.size 0 G.toList) w.heap.size 0 51 G.toList _ (fun j v hv => by
      rw [Nat.zero_add, cell_of_row _ _ _ _ _ (0, 0) hwh]; simpa using hv) Tryd.underlying51 rfl (by rw [Array.length_toList, hG]; exact infoGrid)
    rw [Array.toArray_toList] at hld
    exact ⟨hld, fun j hj => by
      rw [Nat.zero_add, cell_of_row _ _ _ _ _ (0, 0) hr6]
      exact ⟨by rw [Array.getElem?_eq_getElem (by rw [grA_size]; rw [hG] at hj; exact hj)]; rfl, frozen_of_row _ _ _ _ _ hr6⟩, setCells_bel (Nat.le_refl _) _ _ _ HB0.out⟩
  have HE := hide (HEND.out (grA 0 z2) (grA_size _ _))
  clear HEND K1
  go_wp2_with (first
    | (refine wpList_store_mid rfl 51 (.tmp 2) (.tmp 10) rfl w.heap.size 0 (grA 0 z2) rfl rfl HE.out.2.1 (infoGrid2 0 z2) (grA_one 0 z2) ?_))
  refine bodyPost_ret (v := .tuple #[.agg (grA 0 z2), .iface 24 (.int .i64 k)]) ?_ rfl ⟨rfl, HE.out.2.2⟩
  rw [results_cell_tmp rfl]
  simp [asAddr, Result.andThen, HE.out.1]
/-- what Close tells: kc is the check's number, k what is told, N the net where it tells 0 -/
def Clo (n : Nat) (g : Nat → Nat → Int) (kc k : Int) (N : Nat → Nat → Nat) : Prop :=
  (¬ kc = 0 ∧ k = kc) ∨ (kc = 0 ∧ 1 ≤ n ∧ n ≤ 6 ∧ ∃ N', Great n (cpN n g n) N' ∧ Mat n N' ∧ ((noWay n N' n = true ∧ k = 12) ∨ (noWay n N' n = false ∧ k = 0 ∧ N = N')))
theorem chk_sq {n : Nat} {L : Nat → Nat} {g : Nat → Nat → Int} (n1 : 1 ≤ n) (hL : ∀ r, r < n → L r = n) : chk n L g = chk n (fun _ => n) g := by
  have h : ∀ k, chkF n L g k = chkF n (fun _ => n) g k := by
    intro k
    induction k with
    | zero => rfl
    | succ k ih => unfold chkF; rw [hL _ (by omega), ih]
  unfold chk
  rw [h]
theorem closed_any (ad : Option Addr) (n cap : Nat) (A : Nat → Option Addr) (L C : Nat → Nat) (g : Nat → Nat → Int) (w : World) (hf : FT w) (h : NetAt ad n A L C g w) :
    Calls Tryd.prog 16 #[.slice ad n cap] w fun e w' => ∃ (m : Nat) (M : Nat → Nat → Nat) (k : Int), e = .returned (.tuple #[.agg (grA m M), ek k]) ∧ Below w.heap.size w w' ∧ Clo n g (chk n L g) k M ∧ (k = 0 → m = n) := by
  by_cases hz : chk n L g = 0
  · obtain ⟨n1, n6, hL, hg⟩ := chk_ok hz
    obtain ⟨a, rfl, -⟩ := h.rows 0 (by omega)
    have hz' : chk n (fun _ => n) g = 0 := by rw [← hz]; exact (chk_sq n1 hL).symm
    refine (closed_ok a n cap A C g w hf hz' (h.sq hL)).mono ?_
    rintro e w' ⟨N, G, k, rfl, hb, hgr, hm, ⟨hnw, rfl, rfl⟩ | ⟨hnw, rfl, rfl⟩⟩
    · exact ⟨0, z2, 12, rfl, hb, .inr ⟨hz, n1, n6, N, hgr, hm, .inl ⟨hnw, rfl⟩⟩, fun h => by cases h⟩
    · exact ⟨n, N, 0, rfl, hb, .inr ⟨hz, n1, n6, N, hgr, hm, .inr ⟨hnw, rfl, rfl⟩⟩, fun _ => rfl⟩
  · refine (closed_no ad n cap A L C g w hz h).mono ?_
    rintro e w' ⟨rfl, hb⟩
    exact ⟨0, z2, _, rfl, hb, .inl ⟨hz, rfl⟩, fun h => absurd h hz⟩
set_option maxRecDepth 100000 in
set_option maxHeartbeats 8000000 in
theorem close_any (ad : Option Addr) (n cap : Nat) (A : Nat → Option Addr) (L C : Nat → Nat) (g : Nat → Nat → Int) (w : World) (hf : FT w) (h : NetAt ad n A L C g w) :
    Calls Tryd.prog 15 #[.slice ad n cap] w fun e w' => ∃ (M : Nat → Nat → Nat) (k : Int), Below w.heap.size w w' ∧ Clo n g (chk n L g) k M ∧
      ((¬ k = 0 ∧ e = .returned (.tuple #[.slice none 0 0, ek k])) ∨ (k = 0 ∧ ∃ (b c : Nat) (G Cp : Nat → Nat), e = .returned (.tuple #[.slice (some ⟨b, 0, none⟩) n c, ek k]) ∧ NetAt (some ⟨b, 0, none⟩) n (fun i => some ⟨G i, 0, none⟩) (fun _ => n) Cp (fun i c => (M i c : Int)) w')) := by
  have K1 := hide (closed_any ad n cap A L C g w hf h)
  generalize chk n L g = kc at *
  clear h hf
  go_enter Tryd.func15, Tryd.ntmps15
  go_wp2_with fail
  refine K1.out.mono ?_
  rintro e X ⟨m, M, k, rfl, hb, hc, hm⟩
  have HB := hide hb
  have HC := hide hc
  generalize hG : grA m M = G
  have hGs : G.size = 37 := by rw [← hG]; exact grA_size _ _
  have HG := hide hG
  have HG1 : Hid (G.all (·.oneCell') = true) := by unfold Hid; rw [← hG]; exact grA_one _ _
  clear hG hb hc K1
  by_cases hk : k = 0
  · subst hk
    obtain rfl := hm rfl
    rw [ek_0]
    go_wp2_with (first | (refine wpList_store_mid rfl 51 (.tmp 4) (.tmp 9) rfl X.heap.size 0 G rfl rfl (A1_there X G hGs) (by rw [hGs]; exact infoGrid) HG1.out ?_; generalize hW : World.setCells _ _ _ _ = W3))
    have hA := A1_set (n := m) (N := M) (show (X.alloc (.cells (grA 0 z2) 51)).setCells X.heap.size 0 (grA m M).toList = W3 by rw [HG.out]; exact hW)
    have HA := hide hA
    have hnn : 1 ≤ m ∧ m ≤ 6 := by
      rcases HC.out with ⟨h1, h2⟩ | ⟨_, h1, h2, _⟩
      · exact absurd h2.symm h1
      · exact ⟨h1, h2⟩
    clear hW hA
    refine (rows_any X.heap.size m M W3 hnn.1 hnn.2 HA.out.1).mono ?_
    rintro e W4 ⟨b, c, G1, Cp, rfl, hn, hb4⟩
    have HN := hide hn
    have HB4 := hide ((HB.out.trans (HA.out.2.mono HB.out.size)).trans (hb4.mono (Nat.le_trans HB.out.size HA.out.2.size)))
    clear hn hb4 HA
    go_wp2
    go_ret2
    exact ⟨M, 0, HB4.out, HC.out, .inr ⟨rfl, b, c, G1, Cp, by rw [ek_0]; rfl, HN.out⟩⟩
  · rw [ek_no hk]
    go_wp2_with (first | (refine wpList_store_mid rfl 51 (.tmp 4) (.tmp 9) rfl X.heap.size 0 G rfl rfl (A1_there X G hGs) (by rw [hGs]; exact infoGrid) HG1.out ?_; generalize hW : World.setCells _ _ _ _ = W3))
    have hbb : Below w.heap.size w W3 := by
      rw [← hW]
      exact setCells_bel HB.out.size _ _ _ (HB.out.alloc HB.out.size _)
    clear hW
    go_ret2
    exact ⟨M, k, hbb, HC.out, .inl ⟨hk, by rw [ek_no hk]; rfl⟩⟩
set_option maxRecDepth 100000 in
set_option maxHeartbeats 8000000 in
/-- plain.SpanClose -/
theorem pclose_any (ad : Option Addr) (n cap : Nat) (A : Nat → Option Addr) (L C : Nat → Nat) (g : Nat → Nat → Int) (w : World) (hf : FT w) (h : NetAt ad n A L C g w) :
    Calls Tryd.prog 9 #[.slice ad n cap] w fun e w' => ∃ (M : Nat → Nat → Nat) (k : Int), Below w.heap.size w w' ∧ Clo n g (chk n L g) k M ∧
      ((¬ k = 0 ∧ e = .returned (.tuple #[.slice none 0 0, .int .i64 k])) ∨ (k = 0 ∧ ∃ (b c : Nat) (G Cp : Nat → Nat), e = .returned (.tuple #[.slice (some ⟨b, 0, none⟩) n c, .int .i64 k]) ∧ NetAt (some ⟨b, 0, none⟩) n (fun i => some ⟨G i, 0, none⟩) (fun _ => n) Cp (fun i c => (M i c : Int)) w')) := by
  have K1 := hide (close_any ad n cap A L C g w hf h)
  have HF := hide hf
  generalize chk n L g = kc at *
  clear h hf
  go_enter Tryd.func9, Tryd.ntmps9
  go_wp2_with fail
  refine K1.out.mono ?_
  rintro e X ⟨M, k, hb, hc, ⟨hk, rfl⟩ | ⟨rfl, b, c, G, Cp, rfl, hn⟩⟩
  · have KT := hide (tell_ek k X (HF.out.later hb).1)
    rw [ek_no hk] at KT ⊢
    have HB := hide hb
    have HC := hide hc
    clear hb hc K1
    go_wp2_with fail
    refine KT.out.mono ?_
    rintro e W ⟨rfl, hbw⟩
    have HB2 := hide (HB.out.trans (hbw.mono HB.out.size))
    clear hbw KT
    go_wp2
    go_ret2
    exact ⟨M, k, HB2.out, HC.out, .inl ⟨hk, rfl⟩⟩
  · have KT := hide (tell_ek 0 X (HF.out.later hb).1)
    rw [ek_0] at KT ⊢
    have HB := hide hb
    have HC := hide hc
    have HN := hide hn
    clear hb hc hn K1
    go_wp2_with fail
    refine KT.out.mono ?_
    rintro e W ⟨rfl, hbw⟩
    have HB2 := hide (HB.out.trans (hbw.mono HB.out.size))
    have HN2 := hide (HN.out.step hbw)
    clear hbw KT HN
    go_wp2
    go_ret2
    exact ⟨M, 0, HB2.out, HC.out, .inr ⟨rfl, b, c, G, Cp, rfl, HN2.out⟩⟩
end Go.Proofs.YtnaggcadmfmibaaDoor
