/- plain.SpanSolve; lists of spans held against each other. -/
import Derived.Test.YtnaggcadmfmibaaDoorSqI
import Derived.Test.YtnaggcadmfmibaaDoorSpoA
import Derived.Laws.AppendOwnNone
namespace Go.Proofs.YtnaggcadmfmibaaDoor
open Go.RowKit
set_option linter.unusedVariables false
set_option linter.unusedSimpArgs false

theorem SolV.step {v : Value} {n : Nat} {e : Int} {s t : Nat → Nat} {X X' : World} (h : SolV v n e s t X) (hb : Below X.heap.size X X') : SolV v n e s t X' :=
  h.imp id fun ⟨h1, g, cap, h2, h3⟩ => ⟨h1, g, cap, h2, h3.step hb⟩
set_option maxHeartbeats 4000000 in
theorem psolve_any (ad : Option Addr) (n cap : Nat) (A : Nat → Option Addr) (L C : Nat → Nat) (g : Nat → Nat → Int) (w : World) (hf : FT w) (h : NetAt ad n A L C g w) :
    Calls Tryd.prog 5 #[.slice ad n cap] w fun e w' => ∃ (v : Value) (k : Int) (s t : Nat → Nat), e = .returned (.tuple #[v, .int .i64 k]) ∧ Below w.heap.size w w' ∧ SolR n g (chk n L g) k s t ∧ SolV v n k s t w' := by
  have K1 := hide (solve_any ad n cap A L C g w hf h)
  have HF := hide hf
  generalize chk n L g = kc at *
  clear h hf
  go_enter Tryd.func5, Tryd.ntmps5
  go_wp2_with fail
  refine K1.out.mono ?_
  rintro e X ⟨v, k, s, t, rfl, hb, hr, hv⟩
  have KT := hide (tell_ek k X (HF.out.later hb).1)
  have HB := hide hb
  have HR := hide hr
  have HV := hide hv
  clear hb hr hv K1
  generalize hek : ek k = ev at *
  go_wp2_with fail
  refine KT.out.mono ?_
  rintro e W ⟨rfl, hbw⟩
  have HB2 := hide (HB.out.trans (hbw.mono HB.out.size))
  have HV2 := hide (HV.out.step hbw)
  clear hbw KT HV
  go_wp2
  go_ret2
  exact ⟨v, k, s, t, rfl, HB2.out, HR.out, HV2.out⟩
set_option maxHeartbeats 4000000 in
theorem lspan_any (a1 a2 : Option Addr) (n c1 c2 : Nat) (s t : Nat → Int) (w : World) (hn : n ≤ 1000) (h1 : Sp a1 n s t w) (h2 : Sp a2 n s t w) :
    Calls Tryd.prog 7 #[.slice a1 n c1, .slice a2 n c2] w fun e w' => e = .returned (.bool true) ∧ Below w.heap.size w w' := by
  have H1 := hide h1
  have H2 := hide h2
  clear h1 h2
  go_enter Tryd.func7, Tryd.ntmps7
  go_wp2_with fail
  go_loopw [5] (fun i wr => ∃ r : Nat, r ≤ n ∧ i = .int .i64 r ∧ Below w.heap.size w wr) (fun i _ => n - (intOf i).toNat)
  case atStart => exact ⟨0, by omega, rfl, Below.refl _ _⟩
  case round =>
    obtain ⟨r, hr, rfl, hb⟩ := hrel
    by_cases hlt : r < n
    · have hri : (r : Int) < n := by omega
      obtain ⟨b1, rfl, hc1, hd1⟩ := (H1.out.step hb) r hlt
      obtain ⟨b2, rfl, hc2, hd2⟩ := (H2.out.step hb) r hlt
      rw [add_one] at hd1 hd2
      have HB := hide hb
      clear hb
      go_wp2_with fail
      go_region
      have hb9 := HB.out.drew
      clear HB hc1 hc2 hd1 hd2
      go_wp2
      go_roundw
      case rel => exact ⟨r + 1, by omega, by go_num, hb9⟩
      case measure => simp [intOf]; omega
    · have hri : ¬ (r : Int) < n := by omega
      go_wp2
      go_ret
      exact ⟨rfl, hb⟩
/-- append of a list of the caller's: nil, or one that lies somewhere -/
theorem wpList_append_opt {P : Program} (w : World) {ops : Array Oper} {rest : List Oper} {o : Oper} {a : Act} {Q : Exit → Act → World → Prop} (hgd : o.guard = none) (s x : Operand) (t : TypeId)
    (ho : o.op = .call { callee := .builtin .append, args := #[s, x], argTypes := #[t, t] })
    (base : Nat) (e : TypeId) (i : TypeInfo) (z : Value) (size bytes : Nat) (ht : P.underlying t = some (.slice e)) (hi : P.info? e = some i) (hz : i.zero = some z)
    (hsize : i.size = size) (hby : i.bytes = bytes) (hzs : z.cells.size = size) (hsz : 0 < size)
    (v : Value) (n : Nat) (xs : List Value) (hs : a.eval s = v) (hown : w.ownsRow base e size v n xs)
    (al : Option Addr) (m c : Nat) (news : List Value) (hx : a.eval x = .slice al m c) (hl : news.length = m * size) (hal : (al = none ∧ m = 0 ∧ c = 0) ∨ ∃ ad, al = some ad ∧ ∀ j u, news[j]? = some u → w.cell? (ad.add j) = some u) (h1 : ∀ u ∈ news, u.oneCell' = true)
    (h63 : n + m ≤ maxLen) (hbytes : (n + m) * bytes ≤ 140737488355328) (hbase : base ≤ w.heap.size)
    (h : ∀ v' w', w'.ownsRow base e size v' (n + m) (xs ++ news) → w.grownBy w' v.ownBlock → wpList P ops Q rest (a.put o.dst v') w') :
    wpList P ops Q (o :: rest) a w := by
  rcases hal with ⟨rfl, rfl, rfl⟩ | ⟨ad, rfl, hnews⟩
  · have hnl : news = [] := List.eq_nil_of_length_eq_zero (by rw [hl]; omega)
    subst hnl
    exact wpList_append_own_none hgd s x t ho base e i size ht hi v n xs hs hown hx (h v w (by simpa using hown) (World.grownBy.refl _ _))
  · exact wpList_append_own_at w hgd s x t ho base e i z size bytes ht hi hz hsize hby hzs hsz v n xs hs hown ad m c news hx hl hnews h1 h63 hbytes hbase (fun v' w' h2 h3 _ _ => h v' w' h2 h3)
end Go.Proofs.YtnaggcadmfmibaaDoor
