/- slices.Backward at numbers: its closure is an iterator. -/
import Derived.Test.YtjmjabdokckdlaaDoorPlnE
import Derived.Test.YtjmjabdokckdlaaDoorLinR
import Derived.RangeFuncNested
import Derived.RangeFuncBound
import Derived.RangeFuncCalls
import Derived.RangeFuncLeaves
import Derived.RangeFuncBox
import Derived.Shelf.Abstract
import Derived.WalkKit
import Derived.OwnWalkIn
import Derived.TacticsInMore
import Derived.LoopNIn
import Derived.LoopIn
namespace Go.Proofs.YtjmjabdokckdlaaDoor
open Go.RowKit Go.Shelf
set_option linter.unusedVariables false
set_option linter.unusedSimpArgs false
attribute [local go_sem] Oper.semAt_some

theorem backward_any (u : Value) (w : World) (hu : ∃ a l c, u = .slice a l c) :
    Calls Tryd.prog 61 #[u] w fun e w' => e = .returned (.func (.func 76) #[] #[.pointer (some ⟨w.heap.size, 0, none⟩)]) ∧ w' = w.alloc (.cells #[u] 31) := by
  obtain ⟨a, l, c, rfl⟩ := hu
  go_enter Tryd.func61, Tryd.ntmps61
  go_wp2
  go_ret
  exact ⟨rfl, rfl⟩
/-- all blocks below n but q are as they were -/
structure KpQ (q n : Nat) (A B : World) : Prop where
  z : A.heap.size ≤ B.heap.size
  k : ∀ k, k < n → k ≠ q → B.heap[k]? = A.heap[k]?
theorem KpQ.refl (q n : Nat) (W : World) : KpQ q n W W := ⟨Nat.le_refl _, fun _ _ _ => rfl⟩
theorem KpQ.trans {q n : Nat} {X Y Z : World} (h : KpQ q n X Y) (k : KpQ q n Y Z) : KpQ q n X Z := ⟨Nat.le_trans h.z k.z, fun i h1 h2 => (k.k i h1 h2).trans (h.k i h1 h2)⟩
theorem KpQ.of_put {q n : Nat} (W : World) (l : Nat) (o o' : Obj) (hl : n ≤ l) (h : W.heap[l]? = some o) : KpQ q n W (W.putObj l o') :=
  ⟨by simp [World.putObj], fun k hk _ => World.putObj_heap_other (by omega)⟩
/-- what Backward's closure lies on -/
structure BkX (base b : Nat) (u : Value) (r : List Nat) (W : World) : Prop where
  bx : Boxed W b 31 u
  own : OwnN W base u r
theorem BkX.later {base b : Nat} {u : Value} {r : List Nat} {W W' : World} (h : BkX base b u r W) (hb : Below W.heap.size W W') : BkX base b u r W' := ⟨(hb.block _ h.bx.lt).trans h.bx, own_bel h.own hb⟩
theorem BkX.kept {q n base b : Nat} {u : Value} {r : List Nat} {W W' : World} (h : BkX base b u r W) (k : KpQ q n W W') (hb : b < n) (hq : b ≠ q) (ho : ∀ j, u.ownBlock = some j → j < n ∧ j ≠ q) : BkX base b u r W' :=
  ⟨(k.k b hb hq).trans h.bx, h.own.1, h.own.2.imp id fun ⟨g, cap, cur, h1, h2, h3, h4⟩ => ⟨g, cap, cur, h1, h2, (by have := ho g (by rw [h1]; rfl); exact (k.k g this.1 this.2).trans h3), h4⟩⟩
/-- the places, from the last one on: the first m of them -/
def bkN (n : Nat) : Nat → List Nat
  | 0 => []
  | m + 1 => bkN n m ++ [n - 1 - m]
theorem bkN_len (n : Nat) : ∀ m, (bkN n m).length = m
  | 0 => rfl
  | m + 1 => by rw [bkN, List.length_append, bkN_len n m]; rfl
theorem grownBy_of_below {W W' : World} (h : Below W.heap.size W W') : W.grownBy W' none := ⟨h.os, h.tape, h.output, h.size, fun k hk _ => h.block k hk⟩
set_option maxRecDepth 100000 in
set_option maxHeartbeats 8000000 in
theorem bwd1_in (n : Nat) (hn : 1 ≤ n) (base b : Nat) (u : Value) (r : List Nat) (hr1 : r.length ≤ 1000) (q n₀ l : Nat) (J Jx : List Nat → World → Prop)
    (hY : ∀ pre k W (hk : k < r.length), J pre W → pre.length < r.length → YieldAt Fence.wide (n - 1) Tryd.prog l #[.int .i64 (k : Int), .int .i64 ((r[k] : Nat) : Int)] W fun e W' =>
      (e = .returned (.bool true) ∧ J (pre ++ [k]) W' ∧ KpQ q n₀ W W') ∨ (e = .returned (.bool false) ∧ Jx (pre ++ [k]) W'))
    (W : World) (hx : BkX base b u r W) (hb1 : b < n₀) (hb2 : b ≠ q) (ho : ∀ j, u.ownBlock = some j → j < n₀ ∧ j ≠ q) (h0 : J [] W) :
    CallsIn Fence.wide n Tryd.prog 76 #[.func (.yield l) #[] #[], .pointer (some ⟨b, 0, none⟩)] W fun e W' => (∃ v, e = .returned v) ∧
      ((∃ ys, ys = bkN r.length r.length ∧ J ys W') ∨ (∃ pre, (∃ m, m ≤ r.length ∧ pre = bkN r.length m) ∧ Jx pre W')) := by
  have HY := hide hY
  have HK := hide (fun (A B : World) (h : BkX base b u r A) (k : KpQ q n₀ A B) => h.kept k hb1 hb2 ho)
  have c0 := hx.bx.cell
  obtain ⟨ua, uc, rfl⟩ := (own_len hx.own).2
  have h1' := hn
  clear hY ho
  refine callsIn_of_wp Tryd.func76 rfl trivial ?_ rfl
  simp only [Tryd.ntmps76, List.size_toArray, List.length_cons, List.length_nil, Nat.reduceAdd, Nat.reduceSub, Array.replicate_succ, Array.replicate_zero, List.push_toArray, List.append_toArray, List.nil_append, List.cons_append]
  gi_wp2
  gi_loopw [3] (fun v wr => ∃ m : Nat, m ≤ r.length ∧ v = .int .i64 ((r.length : Int) - 1 - m) ∧ J (bkN r.length m) wr ∧ BkX base b (.slice ua r.length uc) r wr) (fun v _ => (intOf v + 1).toNat)
  case atStart => exact ⟨0, by omega, by go_num, h0, hx⟩
  case round =>
    clear c0 h0 hx
    obtain ⟨m, hm, rfl, hj, hx⟩ := hrel
    have c0 := hx.bx.cell
    by_cases hlt : m < r.length
    · have hk : r.length - 1 - m < r.length := by omega
      obtain ⟨c1, ec1⟩ : ∃ c1, wr.cell? ⟨c1, r.length - 1 - m, none⟩ = some (.int .i64 ((r[r.length - 1 - m] : Nat) : Int)) ∧ ua = some ⟨c1, 0, none⟩ := by
        rcases hx.own.2 with ⟨e, e0⟩ | ⟨g, cap, cur, e, _⟩
        · omega
        · obtain ⟨rfl, rfl⟩ : ua = some ⟨g, 0, none⟩ ∧ uc = cap := by simpa using e
          exact ⟨g, (hx.own.cellAt _ (by omega)).trans (nV_at r _ hk), rfl⟩
      obtain ⟨hc1, rfl⟩ := ec1
      have hnx : bkN r.length (m + 1) = bkN r.length m ++ [r.length - 1 - m] := rfl
      obtain ⟨fn, tmps, assign, body, hy, hRr⟩ := HY.out _ (r.length - 1 - m) wr hk hj (by rw [bkN_len]; exact hlt)
      have ek : ((r.length : Int) - 1 - m) = ((r.length - 1 - m : Nat) : Int) := by omega
      have HX := hide hx
      clear hx hj
      rw [ek]
      generalize hkk : r.length - 1 - m = k at *
      generalize r[k] = rk at *
      have hk0 : (0 : Int) ≤ (k : Int) := by omega
      have hk1 : (k : Int) < (r.length : Int) := by omega
      gi_wp2
      refine hRr.mono ?_
      rintro e W6 (⟨rfl, hJ6, hk6⟩ | ⟨rfl, hJx6⟩)
      · rw [← hnx] at hJ6
        have hx6 := HK.out _ _ HX.out hk6
        gi_wp2
        go_roundw
        case rel => exact ⟨m + 1, by omega, by go_num, hJ6, hx6⟩
        case measure => simp [intOf]
      · rw [← hnx] at hJx6
        gi_wp2
        refine bodyPost_ret (results_none rfl _ _ _) rfl ?_
        exact ⟨⟨_, rfl⟩, .inr ⟨_, ⟨m + 1, by omega, rfl⟩, hJx6⟩⟩
    · obtain rfl : m = r.length := by omega
      have ek : ((r.length : Int) - 1 - r.length) = -1 := by omega
      rw [ek]
      have hk0 : ¬ (0 : Int) ≤ -1 := by omega
      gi_wp2
      go_end0
      exact ⟨⟨_, rfl⟩, .inl hj⟩
theorem bwd_stops (n : Nat) (hn : 1 ≤ n) (base b : Nat) (u : Value) (r : List Nat) (hr1 : r.length ≤ 1000) (q : Nat) (w : World) (hx : BkX base b u r w) (hb2 : b ≠ q) (hqb : q < base) :
    SeqStopsK Fence.wide n Tryd.prog 76 #[.pointer (some ⟨b, 0, none⟩)] (fun k : Fin r.length => #[Value.int .i64 (k.1 : Int), Value.int .i64 ((r[k.1] : Nat) : Int)]) (KpQ q w.heap.size)
      (fun ys => ys.map (·.1) = bkN r.length r.length) (fun _ => True) r.length w := fun l J Jx W hW hJ _ hY h0 => by
  refine (bwd1_in n hn base b u r hr1 q w.heap.size l (fun p W => ∃ q : List (Fin r.length), q.map (·.1) = p ∧ J q W) (fun p W => ∃ q : List (Fin r.length), q.map (·.1) = p ∧ Jx q W) ?_ W (hx.later hW) hx.bx.lt hb2 (fun j hj => by have := hx.own.lt j hj; omega) ⟨[], rfl, h0⟩).mono ?_
  · rintro pre k X hk ⟨p, rfl, hj⟩ hlen
    refine (hY p ⟨k, hk⟩ X hj (by simpa using hlen)).mono ?_
    rintro e X' (⟨h1, h2, h3⟩ | ⟨h1, h2⟩)
    · exact .inl ⟨h1, ⟨_, by simp, h2⟩, h3⟩
    · exact .inr ⟨h1, _, by simp, h2⟩
  · rintro e X ⟨hv, (⟨ys, rfl, p, e2, hj⟩ | ⟨pre, hp, p, rfl, hj⟩)⟩
    · exact ⟨hv, .inl ⟨p, e2, hj⟩⟩
    · exact ⟨hv, .inr ⟨p, trivial, hj⟩⟩
/-- what stands at these places -/
theorem bkN_vals (r : List Nat) : ∀ m, m ≤ r.length → (bkN r.length m).map (fun k => r.getD k 0) = r.reverse.take m
  | 0, _ => rfl
  | m + 1, hm => by
    rw [bkN, List.map_append, bkN_vals r m (by omega)]
    have h : m < r.reverse.length := by rw [List.length_reverse]; omega
    rw [List.take_succ_eq_append_getElem h, List.getElem_reverse]
    simp [List.getD_eq_getElem?_getD]
    rw [List.getElem?_eq_getElem (by omega)]
    rfl
/-- a range over an iterator of two numbers whose variables are no boxes -/
theorem rf_two {n N0 : Nat} {r : List Nat} {P : Program} {g : Operand} {p1 p2 q : Tmp} {assign body : Code} {Q : Exit → Act → World → Prop} {a : Act} {w : World}
    (h1 : 1 ≤ n) {gf : Nat} {lb : Array Value} (hg : a.eval g = .func (.func gf) #[] lb) (eg : ∀ args w, (callFunc gf args).run P w = .ok (.enter gf args) w)
    {Kp : World → World → Prop} {S Sp : List (Fin r.length) → Prop} (hseq : SeqStopsK Fence.wide (n - 1) P gf lb (fun k : Fin r.length => #[Value.int .i64 (k.1 : Int), Value.int .i64 ((r[k.1] : Nat) : Int)]) Kp S Sp N0 w)
    (hKt : ∀ {A B C : World}, Kp A B → Kp B C → Kp A C) (hKb : ∀ (W : World) (l : Nat) (o o' : Obj), w.heap.size ≤ l → W.heap[l]? = some o → o.isCells = false → o.isWalk = false → Kp W (W.putObj l o')) (hKr : ∀ W, Kp W W)
    (I : List (Fin r.length) → World → Prop) (hI : OwnFrom w.heap.size I) (h0 : I [] w)
    (hassign : ∀ (l : Nat) (pre : List (Fin r.length)) (k : Fin r.length) (W : World) (K : Act → World → Prop), I pre W → K { tmps := ((a.tmps.setIfInBounds p1 (.int .i64 (k.1 : Int))).setIfInBounds p2 (.int .i64 ((r[k.1] : Nat) : Int))).setIfInBounds q (.int .i64 ((r[k.1] : Nat) : Int)), defers := [] } W →
      assign.wpIn (Fence.wide.inRound l) (n - 1 - 1) P (Exit.then K (fun _ _ _ => False)) { tmps := (a.tmps.setIfInBounds p1 (.int .i64 (k.1 : Int))).setIfInBounds p2 (.int .i64 ((r[k.1] : Nat) : Int)), defers := [] } W)
    (hbody : ∀ (l : Nat) (pre : List (Fin r.length)) (k : Fin r.length) (W : World), I pre W → pre.length < N0 → body.wpIn (Fence.wide.inRound l) (n - 1 - 1) P (ownPostG w.heap.size Kp I (fun _ _ _ => False) (pre ++ [k]) W) { tmps := ((a.tmps.setIfInBounds p1 (.int .i64 (k.1 : Int))).setIfInBounds p2 (.int .i64 ((r[k.1] : Nat) : Int))).setIfInBounds q (.int .i64 ((r[k.1] : Nat) : Int)), defers := [] } W)
    (hdone : ∀ (D : Nat) (xs : List (Fin r.length)) (W : World), w.heap.size ≤ D → S xs → I xs W → W.heap[D]? = some (.deferred (some [])) → Q .normal { a with defers := { target := .collected D, args := #[] } :: a.defers } W) :
    (Code.rangeFunc g #[p1, p2] assign body).wpIn Fence.wide n P Q a w :=
  wpIn_rangeFunc_ownH rfl h1 hg trivial eg hseq hKt hKb (Below.refl _ _) (fun _ => rfl) I (fun _ _ _ => False) hI (fun _ => fun _ _ _ _ h _ _ => h) h0
    (fun k a' W => a' = { tmps := ((a.tmps.setIfInBounds p1 (.int .i64 (k.1 : Int))).setIfInBounds p2 (.int .i64 ((r[k.1] : Nat) : Int))).setIfInBounds q (.int .i64 ((r[k.1] : Nat) : Int)), defers := [] }) (fun _ _ _ _ _ _ hs _ _ => hs)
    (fun l pre k W K hi hK => by
      have h := hassign l pre k W K hi (hK _ _ (KeepsFrom.refl _ _) (hKr W) hi rfl)
      have e : (#[p1, p2].zip #[Value.int .i64 (k.1 : Int), Value.int .i64 ((r[k.1] : Nat) : Int)]).foldl (fun (t : Array Value) (x : Tmp × Value) => t.setIfInBounds x.1 x.2) a.tmps = (a.tmps.setIfInBounds p1 (.int .i64 (k.1 : Int))).setIfInBounds p2 (.int .i64 ((r[k.1] : Nat) : Int)) := by simp
      rw [← e] at h
      exact h)
    (fun l pre k a' W hl hr hi e hlen => by subst e; exact hbody l pre k W hi hlen) hdone (fun D c pre W hD hp hx => hx.elim)
end Go.Proofs.YtjmjabdokckdlaaDoor
