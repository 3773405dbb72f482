/- moments.Of, plain.TimesOf. -/
import Derived.Test.YtabgoicholknoaaDoorMomF
import Derived.Test.YtabgoicholknoaaDoorMomD
namespace Go.Proofs.YtabgoicholknoaaDoor
open Go.RowKit Go.Shelf
set_option linter.unusedVariables false
set_option linter.unusedSimpArgs false

/-- those of them that are not empty, kept from Low to High -/
def lyL (zs : List (Int × Int)) : List (Int × Int) := zs.foldl (fun acc x => ly acc (clp x)) []
theorem lyL_next (pre : List (Int × Int)) (x : Int × Int) : lyL (pre ++ [x]) = ly (lyL pre) (clp x) := by unfold lyL; rw [List.foldl_append]; rfl
theorem lyF_len : ∀ (zs acc : List (Int × Int)), (zs.foldl (fun acc x => ly acc (clp x)) acc).length ≤ acc.length + zs.length
  | [], acc => by simp
  | x :: zs, acc => by
    have h1 := lyF_len zs (ly acc (clp x))
    have h2 := ly_len acc (clp x)
    show (zs.foldl (fun acc x => ly acc (clp x)) (ly acc (clp x))).length ≤ _
    rw [List.length_cons]; omega
theorem lyL_len (zs : List (Int × Int)) : (lyL zs).length ≤ zs.length := by have := lyF_len zs []; unfold lyL; simpa using this
theorem values_any (a : Option Addr) (len cap : Nat) (w : World) :
    Calls Tryd.prog 22 #[.slice a len cap] w fun e w' => e = .returned (.func (.func 35) #[] #[.pointer (some ⟨w.heap.size, 0, none⟩)]) ∧ w' = w.alloc (.cells #[.slice a len cap] 28) :=
  (callsIn_wide (n := 6)).1 (values_in Fence.wide 6 trivial rfl a len cap w)
theorem joined_any (sv : Value) (zs : List (Int × Int)) (hlen : zs.length ≤ 1000000) (w : World) (Bs : Nat) (hBs : Bs < w.heap.size) (hc : w.cell? ⟨Bs, 0, none⟩ = some sv) (h : SpsB w.heap.size w sv zs) (gap : Int) :
    Calls Tryd.prog 21 #[.func (.func 35) #[] #[.pointer (some ⟨Bs, 0, none⟩)], .int .i64 gap] w fun e W' => ∃ v, e = .returned v ∧ W'.ownsRow w.heap.size 42 2 v (jnL gap zs).length (clZ (jnL gap zs)) ∧ Below w.heap.size w W' :=
  (callsIn_wide (n := 6)).1 (joined_in Fence.wide 6 trivial rfl (by omega) _ _ gap trivial (enters_of Tryd.func35 (by kernel_rfl) rfl) zs hlen w
    (values_stops Fence.wide 5 trivial rfl (by omega) Bs w.heap.size sv zs (by omega) w hBs (Nat.le_refl _) hc h))
/-- the slice value sv holds the spans zs -/
def SpsW (w : World) (sv : Value) (zs : List (Int × Int)) : Prop := ∃ a cap, sv = .slice a zs.length cap ∧ ∀ j, j < zs.length → ∃ ad, a = some ad ∧ w.cell? (ad.add (j * 2)) = some (.int .i64 (zs.getD j (0, 0)).1) ∧ w.cell? (ad.add (j * 2 + 1)) = some (.int .i64 (zs.getD j (0, 0)).2)
theorem SpsW.below {w w' : World} {sv : Value} {zs : List (Int × Int)} (hB : Below w.heap.size w w') : SpsW w sv zs → SpsW w' sv zs := fun ⟨a, cap, e, hc⟩ => ⟨a, cap, e, fun j hj => by
  obtain ⟨ad, e2, h1, h2⟩ := hc j hj
  exact ⟨ad, e2, (hB.cell (World.block_lt_of_cell? w _ h1)).trans h1, (hB.cell (World.block_lt_of_cell? w _ h2)).trans h2⟩⟩
set_option maxRecDepth 100000 in
set_option maxHeartbeats 4000000 in
/-- Of: the spans that are not empty, kept from Low to High, in the order of their beginnings, and joined -/
theorem of_any (sv : Value) (zs : List (Int × Int)) (hlen : zs.length ≤ 1000000) (w : World) (h : SpsW w sv zs) :
    Calls Tryd.prog 10 #[sv] w fun e W' => ∃ v zs', e = .returned (.agg #[v]) ∧ zs'.Perm (lyL zs) ∧ (∀ i j, i < j → j < zs'.length → (zs'.getD i (0, 0)).1 ≤ (zs'.getD j (0, 0)).1) ∧ W'.ownsRow w.heap.size 42 2 v (jnL 0 zs').length (clZ (jnL 0 zs')) ∧ Below w.heap.size w W' := by
  obtain ⟨a, cap, rfl, hcs⟩ := h
  have hb0 : Below w.heap.size w (w.alloc (.cells #[.slice none 0 0] 30)) := (Below.refl _ w).alloc (Nat.le_refl _) _
  have hr0 : Boxed (w.alloc (.cells #[.slice none 0 0] 30)) w.heap.size 30 (.slice none 0 0) := Boxed.new _ _ _
  have HB := hide hb0
  have HR := hide hr0
  clear hb0 hr0
  go_enter Tryd.func10, Tryd.ntmps10
  go_wp2
  go_loopw [3, 8] (fun v i wr => ∃ n : Nat, n ≤ zs.length ∧ i = .int .i64 n ∧ wr.ownsRow (w.heap.size + 1) 42 2 v (lyL (zs.take n)).length (clZ (lyL (zs.take n))) ∧ Boxed wr w.heap.size 30 (.slice none 0 0) ∧ Below w.heap.size w wr ∧ w.heap.size + 1 ≤ wr.heap.size) (fun _ i _ => zs.length - (intOf i).toNat)
  case atStart => exact ⟨0, by omega, rfl, World.ownsRow_nil _ _ _ _, HR.out, HB.out, by simp⟩
  case round =>
    obtain ⟨n, hn, rfl, hown, hbx, hB, hsz⟩ := hrel
    have hnl := lyL_len (zs.take n)
    rw [List.length_take] at hnl
    by_cases hlt : n < zs.length
    · have hni : (n : Int) < zs.length := by omega
      obtain ⟨ad, rfl, hc0, hc1⟩ := hcs n hlt
      have hx0 := (hB.cell (World.block_lt_of_cell? w _ hc0)).trans hc0
      have hx1 := (hB.cell (World.block_lt_of_cell? w _ hc1)).trans hc1
      have htk := lyL_next (zs.take n) (zs.getD n (0, 0))
      rw [← take_next zs n hlt] at htk
      clear hc0 hc1
      generalize zs.getD n (0, 0) = x at htk hx0 hx1
      have hae : ad.add (n * 2 + 1) = ⟨ad.block, ad.off + n * 2 + 1, none⟩ := by unfold Addr.add; rw [if_neg (by omega)]; rfl
      have haf : (ad.add (n * 2)).add 1 = ⟨(ad.add (n * 2)).block, (ad.add (n * 2)).off + 1, none⟩ := by show (if 1 = 0 then _ else _) = _; rw [if_neg (by omega)]
      have hx2 : wr.cell? ⟨ad.block, ad.off + n * 2 + 1, none⟩ = some (.int .i64 x.2) := by rw [← hae]; exact hx1
      have hx3 : wr.cell? ⟨(ad.add (n * 2)).block, (ad.add (n * 2)).off + 1, none⟩ = some (.int .i64 x.2) := by rw [← haf, Addr.add_add]; exact hx1
      clear hae haf
      have HK := hide (fun (u : Value) (X : World) (hX : X.ownsRow (w.heap.size + 1) 42 2 u _ _) (hs : w.heap.size + 1 ≤ X.heap.size) => lay_any (w.heap.size + 1) u (lyL (zs.take n)) (clp x) X (by omega) hX hs)
      go_wp2_with (first
        | (go_at_call 17; refine (clip_any x _).mono ?_; rintro e w1 ⟨rfl, hb1⟩; have hb2 := ((Below.refl wr.heap.size wr).alloc (Nat.le_refl _) (.cells #[.int .i64 x.1, .int .i64 x.2] 42)).trans (hb1.mono (by simp)); have ho1 := own_below hown hb2; have hs1 := hb2.size)
        | (go_at_call 16; refine (HK.out _ _ ho1 (by omega)).mono ?_; rintro e w2 ⟨v2, rfl, ho2, hb3, _⟩))
      go_roundw
      case rel => exact ⟨n + 1, by omega, by go_num, by rw [htk]; exact ho2, (hb3.block _ (by omega)).trans ((hb2.block _ (by omega)).trans hbx), (hB.trans (hb2.mono (by omega))).trans (hb3.mono (by omega)), by have := hb3.size; omega⟩
      case measure => simp [intOf]; omega
    · obtain rfl : n = zs.length := by omega
      have hni : ¬ (zs.length : Int) < zs.length := by omega
      rw [List.take_length] at hown hnl
      obtain ⟨a1, l1, c1, rfl⟩ := own_form hown
      have HS := hide (sort_any (w.heap.size + 1) _ (lyL zs) wr hown (by omega) hsz)
      have HJ := hide joined_any
      go_wp2_with (first
        | (go_at_call 18; refine HS.out.mono ?_; rintro e w1 ⟨rfl, ⟨zs', hl, hp, hs, hI⟩, hb1⟩; have hs1 := hb1.size)
        | (go_at_call 22; refine (values_any _ _ _ _).mono ?_; rintro e w2 ⟨rfl, rfl⟩; have hA := (Below.refl w1.heap.size w1).alloc (Nat.le_refl _) (.cells #[.slice a1 l1 c1] 28))
        | (go_at_call 21; refine (HJ.out (.slice a1 l1 c1) zs' (by omega) _ w1.heap.size (by simp) (Boxed.new w1 28 (.slice a1 l1 c1)).cell ((hI.below hA).mono hA.size) 0).mono ?_; rintro e w3 ⟨v3, rfl, ho3, hb3⟩; obtain ⟨a3, l3, c3, rfl⟩ := own_form ho3; have hbx3 : Boxed w3 w.heap.size 30 (.slice none 0 0) := (hb3.block _ (by simp; omega)).trans ((hA.block _ (by omega)).trans ((hb1.block _ (by omega)).trans hbx)); have hc3 := hbx3.cell; have hf3 := hbx3.frozen))
      have hbx4 := hbx3.set (.slice a3 l3 c3)
      have hc4 := hbx4.cell
      have hB3 : Below w.heap.size w w3 := ((hB.trans (hb1.mono (by omega))).trans (hA.mono (by omega))).trans (hb3.mono (by simp; omega))
      (try simp only [Exit.inBlock, Exit.then])
      refine bodyPost_ret (v := .agg #[.slice a3 l3 c3]) ?_ rfl ⟨_, zs', rfl, hp, fun i j hij hj => hs i j hij (by omega), own_mono0 (ownsRow_setCell_below ho3 (a := ⟨w.heap.size, 0, none⟩) (by simp; omega) _) (by simp; omega), hB3.setCell (p := ⟨w.heap.size, 0, none⟩) (Nat.le_refl _) _⟩
      simp [results, Tryd.results10, go_sem, hc4]
end Go.Proofs.YtabgoicholknoaaDoor
