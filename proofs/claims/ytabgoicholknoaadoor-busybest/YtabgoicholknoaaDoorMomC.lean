/- slices.Collect; moments.Set.Spans; plain.Times.Spans. -/
import Derived.Test.YtabgoicholknoaaDoorMomB
namespace Go.Proofs.YtabgoicholknoaaDoor
open Go.RowKit Go.Shelf
set_option linter.unusedVariables false
set_option linter.unusedSimpArgs false
attribute [local go_sem] Oper.semAt_some

set_option maxHeartbeats 2000000 in
theorem collect_in (F : Fence) (n : Nat) (hf : F.fn 43) (hf2 : F.fn 30) (hro : F.round = none) (hn : 4 ≤ n) (gf : Nat) (lb : Array Value) (hFg : F.fn gf) (eg : ∀ args w, (callFunc gf args).run Tryd.prog w = .ok (.enter gf args) w)
    (zs : List (Int × Int)) (hlen : zs.length ≤ 1000000) (w : World) (hseq : SeqStopsK F (n - 1 - 1) Tryd.prog gf lb enc2 (Below w.heap.size) (fun ys => ys = zs) (fun pre => pre <+: zs) zs.length w) :
    CallsIn F n Tryd.prog 30 #[.func (.func gf) #[] lb] w fun e W' => ∃ v, e = .returned v ∧ W'.ownsRow w.heap.size 42 2 v zs.length (clZ zs) ∧ Below w.heap.size w W' := by
  have h1 : 1 ≤ n := by omega
  have K := append_in F (n - 1) hf hro (by omega) gf lb hFg eg zs hlen w hseq
  refine callsIn_of_wp Tryd.func30 rfl hf2 ?_ hro
  simp only [Tryd.ntmps30, List.size_toArray, List.length_cons, List.length_nil, Nat.reduceAdd, Nat.reduceSub, Array.replicate_succ, Array.replicate_zero, List.push_toArray, List.append_toArray, List.nil_append, List.cons_append]
  gi_wp2_with (gi_at_call 43; refine K.mono ?_; rintro e w' ⟨v, rfl, ho, hb⟩)
  go_ret
  exact ⟨v, rfl, ho, hb⟩
set_option maxHeartbeats 2000000 in
theorem sspans_in (F : Fence) (n : Nat) (hf : F.fn 43) (hf2 : F.fn 30) (hf3 : F.fn 31) (hf4 : F.fn 44) (hf5 : F.fn 15) (hro : F.round = none) (hn : 6 ≤ n)
    (a : Option Addr) (len cap : Nat) (zs : List (Int × Int)) (hlen : zs.length ≤ 1000000) (w : World) (h : SpsB w.heap.size w (.slice a len cap) zs) :
    CallsIn F n Tryd.prog 15 #[.agg #[.slice a len cap]] w fun e W' => ∃ v, e = .returned v ∧ W'.ownsRow w.heap.size 42 2 v zs.length (clZ zs) ∧ Below w.heap.size w W' := by
  have h1 : 1 ≤ n := by omega
  have hb0 : Below w.heap.size w ((w.alloc (.cells #[.slice a len cap] 30)).alloc (.cells #[.slice a len cap] 30)) := ((Below.refl _ w).alloc (Nat.le_refl _) _).alloc (by simp) _
  have KA := all_in F (n - 1) hf3 hro a len cap (w.alloc (.cells #[.slice a len cap] 30))
  have hst := all_stops F (n - 1 - 1 - 1) hf4 hro (by omega) (w.heap.size + 1) ((w.alloc (.cells #[.slice a len cap] 30)).alloc (.cells #[.slice a len cap] 30)).heap.size (.slice a len cap) zs (by omega) ((w.alloc (.cells #[.slice a len cap] 30)).alloc (.cells #[.slice a len cap] 30)) (by simp) (Nat.le_refl _)
    (by have := (Boxed.new (w.alloc (.cells #[.slice a len cap] 30)) 30 (.slice a len cap)).cell; rw [World.size_alloc] at this; exact this) ((h.below hb0).mono hb0.size)
  have KC := collect_in F (n - 1) hf hf2 hro (by omega) 44 #[.pointer (some ⟨w.heap.size + 1, 0, none⟩)] hf4 (enters_of Tryd.func44 (by kernel_rfl) rfl) zs hlen _ hst
  refine callsIn_of_wp Tryd.func15 rfl hf5 ?_ hro
  simp only [Tryd.ntmps15, List.size_toArray, List.length_cons, List.length_nil, Nat.reduceAdd, Nat.reduceSub, Array.replicate_succ, Array.replicate_zero, List.push_toArray, List.append_toArray, List.nil_append, List.cons_append]
  rw [World.size_alloc] at KA
  gi_wp2_with (first
    | (gi_at_call 31; refine KA.mono ?_; rintro e w' ⟨rfl, rfl⟩)
    | (gi_at_call 30; refine KC.mono ?_; rintro e w' ⟨v, rfl, ho, hb⟩))
  go_ret
  exact ⟨v, rfl, own_mono0 ho hb0.size, hb0.trans (hb.mono hb0.size)⟩
theorem sspans_any (a : Option Addr) (len cap : Nat) (zs : List (Int × Int)) (hlen : zs.length ≤ 1000000) (w : World) (h : SpsB w.heap.size w (.slice a len cap) zs) :
    Calls Tryd.prog 15 #[.agg #[.slice a len cap]] w fun e W' => ∃ v, e = .returned v ∧ W'.ownsRow w.heap.size 42 2 v zs.length (clZ zs) ∧ Below w.heap.size w W' :=
  (callsIn_wide (n := 6)).1 (sspans_in Fence.wide 6 trivial trivial trivial trivial trivial rfl (by omega) a len cap zs hlen w h)
set_option maxHeartbeats 2000000 in
/-- plain.Times.Spans -/
theorem pspans_any (a : Option Addr) (len cap : Nat) (zs : List (Int × Int)) (hlen : zs.length ≤ 1000000) (w : World) (h : SpsB w.heap.size w (.slice a len cap) zs) :
    Calls Tryd.prog 9 #[.agg #[.slice a len cap]] w fun e W' => ∃ v, e = .returned v ∧ W'.ownsRow w.heap.size 42 2 v zs.length (clZ zs) ∧ Below w.heap.size w W' := by
  have hb0 : Below w.heap.size w (w.alloc (.cells #[.slice a len cap] 32)) := (Below.refl _ w).alloc (Nat.le_refl _) _
  have K := hide (sspans_any a len cap zs hlen _ ((h.below hb0).mono hb0.size))
  have HB := hide hb0
  clear h hb0
  go_enter Tryd.func9, Tryd.ntmps9
  go_wp2_with fail
  refine K.out.mono ?_
  rintro e W ⟨v, rfl, ho, hb⟩
  have HO := hide (own_mono0 ho HB.out.size)
  have HB2 := hide (HB.out.trans (hb.mono HB.out.size))
  clear ho hb K HB
  go_wp2
  go_ret
  exact ⟨v, rfl, HO.out, HB2.out⟩
end Go.Proofs.YtabgoicholknoaaDoor
