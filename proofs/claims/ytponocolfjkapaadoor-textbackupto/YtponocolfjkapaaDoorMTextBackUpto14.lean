/- The reference's Escape, JoinList. -/
import Derived.Test.YtponocolfjkapaaDoorMTextBackUpto1
import Derived.Test.YtponocolfjkapaaDoorMTextBackUpto2
import Derived.Test.YtponocolfjkapaaDoorMTextBackUpto5
namespace Go.Proofs.YtponocolfjkapaaDoor
open Go.RowKit
set_option linter.unusedVariables false
set_option linter.unusedSimpArgs false

theorem goes_eq (b : UInt8) : (decide ((128 : Int) ≤ (b.toNat : Int)) && decide ((b.toNat : Int) ≤ 191)) = Tl.goes b := by
  unfold Tl.goes
  congr 1 <;> rw [decide_eq_decide] <;> omega
set_option maxHeartbeats 4000000 in
theorem goesOn_any (b : UInt8) (w : World) : Calls Tryd.prog 61 #[.int .u8 b.toNat] w fun e w' => e = .returned (.bool (Tl.goes b)) ∧ w' = w := by
  rw [← goes_eq]
  generalize (b.toNat : Int) = x
  cases h1 : decide ((128 : Int) ≤ x) <;> cases h2 : decide (x ≤ 191)
  all_goals
    go_enter Tryd.func61, Tryd.ntmps61
    go_wp2
    go_ret
    exact ⟨rfl, rfl⟩
set_option maxHeartbeats 4000000 in
theorem rgoesOn_any (b : UInt8) (w : World) : Calls Tryd.prog 40 #[.int .u8 b.toNat] w fun e w' => e = .returned (.bool (Tl.goes b)) ∧ w' = w := by
  rw [← goes_eq]
  generalize (b.toNat : Int) = x
  cases h1 : decide ((128 : Int) ≤ x) <;> cases h2 : decide (x ≤ 191)
  all_goals
    go_enter Tryd.func40, Tryd.ntmps40
    go_wp2
    go_ret
    exact ⟨rfl, rfl⟩
set_option maxRecDepth 100000 in
set_option maxHeartbeats 4000000 in
theorem cut_any (s : ByteArray) (room : Nat) (w : World) (h1 : s.size ≤ 1000000000) (h2 : 74 ≤ room) (h3 : room ≤ 75) :
    Calls Tryd.prog 49 #[.string s, .int .i64 room] w fun e w' => e = .returned (.int .i64 (Tl.cutN (Tl.tx s) room)) ∧ Below w.heap.size w w' := by
  by_cases hle : s.size ≤ room
  · have hi : (s.size : Int) ≤ room := by omega
    have HE : Hid (Tl.cutN (Tl.tx s) room = s.size) := by
      show _ = _
      unfold Tl.cutN
      rw [Tl.tx_len, if_pos hle]
    go_enter Tryd.func49, Tryd.ntmps49
    go_wp2
    go_ret
    rw [HE.out]
    exact ⟨rfl, Below.refl _ _⟩
  · have hi : (room : Int) < s.size := by omega
    have HE : Hid (Tl.cutN (Tl.tx s) room = Tl.cutR (Tl.tx s) room 4) := by
      show _ = _
      unfold Tl.cutN
      rw [Tl.tx_len, if_neg hle]
    go_enter Tryd.func49, Tryd.ntmps49
    go_wp2_with fail
    go_loopw [5] (fun i wr => ∃ k : Nat, k ≤ 4 ∧ i = .int .i64 ((room : Int) + k - 4) ∧ Tl.cutN (Tl.tx s) room = Tl.cutR (Tl.tx s) room k ∧ Below w.heap.size w wr) (fun i _ => (intOf i).toNat)
    case atStart => exact ⟨4, by omega, by congr 1; omega, HE.out, Below.refl _ _⟩
    case round =>
      obtain ⟨k, hk, rfl, hc, hB⟩ := hrel
      have HC := hide hc
      clear hc
      match k, hk with
      | 0, _ =>
        have e1 : ¬ (room : Int) - 3 ≤ (room : Int) + (0 : Nat) - 4 := by omega
        go_wp2
        go_ret
        exact ⟨by rw [HC.out]; rfl, hB⟩
      | k + 1, hk =>
        have e1 : (room : Int) - 3 ≤ (room : Int) + ((k + 1 : Nat) : Int) - 4 := by omega
        have hidx : room + (k + 1) - 4 < s.size := by omega
        have hcut : Hid (Tl.cutR (Tl.tx s) room (k + 1) = if Tl.goes s[room + (k + 1) - 4] = true then Tl.cutR (Tl.tx s) room k else room + k - 3) := by
          show _ = _
          have e : (Tl.tx s).getD (room + k - 3) 0 = s[room + (k + 1) - 4] := by
            rw [List.getD_eq_getElem?_getD, show room + k - 3 = room + (k + 1) - 4 by omega, List.getElem?_eq_getElem (by rw [Tl.tx_len]; exact hidx)]; rfl
          rw [Tl.cutR, e]
        go_wp2_with fail
        refine (goesOn_any _ _).mono ?_
        rintro e W1 ⟨rfl, rfl⟩
        cases hg : Tl.goes s[room + (k + 1) - 4]
        · have hc := hcut.out
          rw [hg, if_neg (by simp)] at hc
          have e2 : Hid ((room : Int) + ((k : Int) + 1) - 4 = ((Tl.cutN (Tl.tx s) room : Nat) : Int)) := by
            show _ = _
            rw [HC.out, hc]; omega
          clear hg hc hcut HC HE hidx
          go_wp2
          go_ret
          exact ⟨by rw [← e2.out]; rfl, hB⟩
        · have hc := hcut.out
          rw [hg, if_pos rfl] at hc
          have Hc := hide (HC.out.trans hc)
          clear hg hc hcut HC HE hidx
          go_wp2
          go_roundw
          case rel => exact ⟨k, by omega, by congr 1; omega, Hc.out, hB⟩
          case measure => simp [intOf]; omega
set_option maxRecDepth 100000 in
set_option maxHeartbeats 4000000 in
theorem fold_any (s : ByteArray) (o : List UInt8) (w : World) (h1 : s.size ≤ 100000000) (ho : Tl.Fld 75 (Tl.tx s) o) (hol : o.length ≤ 1000000000) :
    Calls Tryd.prog 34 #[.string s] w fun e w' => e = .returned (.string (Tl.str o)) ∧ Below w.heap.size w w' := by
  have HO := hide ho
  clear ho
  go_enter Tryd.func34, Tryd.ntmps34
  go_wp2_with fail
  go_loopw [0, 3, 4] (fun v0 v3 i wr => ∃ (r : ByteArray) (T p : List UInt8) (room : Nat), v0 = .string r ∧ BR wr w.heap.size v3 T ∧ i = .int .i64 room ∧ 74 ≤ room ∧ room ≤ 75 ∧ Tl.Fld room (Tl.tx r) p ∧ T ++ p = o ∧ r.size ≤ s.size ∧ Below w.heap.size w wr) (fun v0 _ _ _ => match v0 with | .string r => r.size | _ => 0)
  case atStart => exact ⟨s, [], o, 75, rfl, BR.nil _ _, rfl, by omega, by omega, HO.out, rfl, Nat.le_refl _, Below.refl _ _⟩
  case round =>
    obtain ⟨r, T, p, room, rfl, hown, rfl, g1, g2, hf, hT, hr, hB⟩ := hrel
    go_wp2_with fail
    refine (cut_any r room _ (by omega) g1 g2).mono ?_
    rintro e W1 ⟨rfl, hb1⟩
    have hn := Tl.cutN_le (Tl.tx r) room
    rw [Tl.tx_len] at hn
    have hp := Tl.cutN_pos (Tl.tx r) room g1
    have hrn := Tl.cutN_room (Tl.tx r) room
    have hsl : Hid (Tl.tx (r.extract 0 (Tl.cutN (Tl.tx r) room)) = (Tl.tx r).take (Tl.cutN (Tl.tx r) room)) := by
      show _ = _
      rw [Tl.tx_extract, List.drop_zero, Nat.sub_zero]
    have hsr : Hid (Tl.tx (r.extract (Tl.cutN (Tl.tx r) room) r.size) = (Tl.tx r).drop (Tl.cutN (Tl.tx r) room)) := by
      show _ = _
      rw [Tl.tx_extract, List.take_of_length_le (by rw [List.length_drop, Tl.tx_len]; omega)]
    have hTl : T.length ≤ 1000000000 := by have := congrArg List.length hT; rw [List.length_append] at this; omega
    have hsz1 : (r.extract 0 (Tl.cutN (Tl.tx r) room)).size = Tl.cutN (Tl.tx r) room := by rw [ByteArray.size_extract]; omega
    have hsz2 : (r.extract (Tl.cutN (Tl.tx r) room) r.size).size = r.size - Tl.cutN (Tl.tx r) room := by rw [ByteArray.size_extract]; omega
    have hown1 := hown.later hb1
    have hB1 := hB.trans (hb1.mono hB.size)
    obtain ⟨a1, l1, c1, rfl⟩ := ownr_form' hown1
    have HF := hide hf
    have HT := hide hT
    have hi0 : (0 : Int) ≤ ((Tl.cutN (Tl.tx r) room : Nat) : Int) := by omega
    have hi1 : ((Tl.cutN (Tl.tx r) room : Nat) : Int) ≤ r.size := by omega
    have hi2 : ((Tl.cutN (Tl.tx r) room : Nat) : Int).toNat = Tl.cutN (Tl.tx r) room := by omega
    clear hf hT hown hB hb1
    generalize hnn : Tl.cutN (Tl.tx r) room = n at *
    go_wp2_with (at_builtin; refine wpList_append_brs rfl (.tmp 9) (.tmp 12) rfl w.heap.size _ T rfl hown1 (r.extract 0 n) rfl (by rw [hsz1]; omega) hB1.size ?_)
    intro v1 w1 hw1 _ hb1
    replace hB1 := hB1.trans hb1
    rw [hsl.out] at hw1
    obtain ⟨a2, l2, c2, rfl⟩ := ownr_form' hw1
    have hl2 : (T ++ (Tl.tx r).take n).length ≤ 1100000000 := by rw [List.length_append, List.length_take, Tl.tx_len]; omega
    clear hb1 hown1
    go_wp2_with (at_builtin; refine wpList_append_brs rfl (.tmp 14) (.const (.string ⟨#[13, 10]⟩)) rfl w.heap.size _ _ rfl hw1 ⟨#[13, 10]⟩ rfl (by have : (⟨#[13, 10]⟩ : ByteArray).size = 2 := rfl; omega) hB1.size ?_)
    intro v2 w2 hw2 _ hb2
    replace hB1 := hB1.trans hb2
    obtain ⟨a3, l3, c3, rfl⟩ := ownr_form' hw2
    rw [show Tl.tx ⟨#[13, 10]⟩ = [13, 10] from rfl] at hw2
    have hl3 : (T ++ (Tl.tx r).take n ++ [13, 10]).length ≤ 1100000002 := by rw [List.length_append]; simp only [List.length_cons, List.length_nil]; omega
    clear hb2 hw1 hl2
    generalize hU : T ++ ((Tl.tx r).take n ++ [13, 10]) = U at hw2
    rw [List.append_assoc, hU] at hl3
    cases hE : ((r.extract n r.size).toList == [])
    · have hnil : (Tl.tx r).drop n ≠ [] := by
        rw [← hsr.out]
        rw [ByteArray.toList_eq] at hE
        intro e
        unfold Tl.tx at e
        rw [e] at hE
        exact absurd hE (by decide)
      have hf := HF.out
      obtain ⟨p', hf', hp'⟩ := hf.cons (by rw [hnn]; exact hnil)
      rw [hnn] at hf' hp'
      have HF' := hide hf'
      rw [← hsr.out] at HF'
      have HT' : Hid (U ++ [32] ++ p' = o) := by
        show _ = _
        rw [← HT.out, hp', ← hU]
        simp only [List.append_assoc]
      have hrs : Hid ((r.extract n r.size).size < r.size ∧ (r.extract n r.size).size ≤ s.size) := by
        show _ ∧ _
        rcases hp with h | h
        · exact absurd h hnil
        · omega
      clear hf hf' hp' hp HF HT hnil hsr hsl hsz1 hsz2 hnn hU
      generalize hR : r.extract n r.size = R at *
      go_wp2_with (at_builtin; refine wpList_append_br rfl (.tmp 23) (.tmp 24) rfl w.heap.size _ _ [32] rfl (hw2.alloc _) ⟨w2.heap.size, 0, none⟩ 1 1 rfl rfl (one_new w2 _ 32 _ rfl .nilIface) (by simp only [List.length_cons, List.length_nil]; omega) (by have := hB1.size; simp; omega) ?_)
      intro v3 w3 hw3 _ hb3
      have hB3 := (hB1.alloc hB1.size _).trans hb3
      obtain ⟨a4, l4, c4, rfl⟩ := ownr_form' hw3
      have HW := hide hw3
      clear hb3 hw2 hw3 hB1
      go_wp2
      go_roundw
      case rel => exact ⟨R, _, p', 74, rfl, HW.out, rfl, by omega, by omega, HF'.out, HT'.out, hrs.out.2, hB3⟩
      case measure => exact hrs.out.1
    · have hnil : (Tl.tx r).drop n = [] := by
        rw [← hsr.out]
        rw [ByteArray.toList_eq] at hE
        exact eq_of_beq hE
      have hp' := HF.out.nil (by rw [hnn]; exact hnil)
      rw [hnn] at hp'
      have HT' : Hid (U = o) := by
        show _ = _
        rw [← HT.out, hp', hU]
      have hcv := hw2.conv
      rw [HT'.out] at hcv
      clear hw2 hp HF HT hp' hnil hsr hsl hU
      go_wp2
      go_ret
      exact ⟨rfl, hB1⟩
end Go.Proofs.YtponocolfjkapaaDoor
namespace Go.Proofs.YtponocolfjkapaaDoor
open Go.RowKit
set_option linter.unusedVariables false
set_option linter.unusedSimpArgs false

/-- the blocks of a stretch are as they were -/
def Agree (s e : Nat) (W W' : World) : Prop := ∀ b, s ≤ b → b < e → W'.heap[b]? = W.heap[b]?
theorem Agree.mono {s e s' e' : Nat} {W W' : World} (h : Agree s e W W') (hs : s ≤ s') (he : e' ≤ e) : Agree s' e' W W' := fun b h1 h2 => h b (by omega) (by omega)
theorem Agree.trans {s e : Nat} {A B C : World} (h : Agree s e A B) (h' : Agree s e B C) : Agree s e A C := fun b h1 h2 => (h' b h1 h2).trans (h b h1 h2)
theorem Agree.below {n s e : Nat} {W W' : World} (h : Below n W W') (he : e ≤ n) : Agree s e W W' := fun b _ h2 => h.block b (by omega)
/-- what hangs on the blocks of a stretch alone -/
structure Fpt (Q : World → Prop) (s e : Nat) (W : World) : Prop where
  le : e ≤ W.heap.size
  ok : ∀ W', Agree s e W W' → W.heap.size ≤ W'.heap.size → Q W'
theorem Fpt.now {Q : World → Prop} {s e : Nat} {W : World} (h : Fpt Q s e W) : Q W := h.ok W (fun _ _ _ => rfl) (Nat.le_refl _)
theorem Fpt.later {Q : World → Prop} {s e : Nat} {W W' : World} (h : Fpt Q s e W) (ha : Agree s e W W') (hz : W.heap.size ≤ W'.heap.size) : Fpt Q s e W' :=
  ⟨Nat.le_trans h.le hz, fun W'' h' hz' => h.ok W'' (ha.trans h') (Nat.le_trans hz hz')⟩
theorem Fpt.widen {Q : World → Prop} {s e s' e' : Nat} {W : World} (h : Fpt Q s e W) (hs : s' ≤ s) (he : e ≤ e') (hz : e' ≤ W.heap.size) : Fpt Q s' e' W :=
  ⟨hz, fun W' h' hz' => h.ok W' (h'.mono hs he) hz'⟩
theorem Fpt.imp {Q R : World → Prop} {s e : Nat} {W : World} (h : Fpt Q s e W) (f : ∀ W', Q W' → R W') : Fpt R s e W := ⟨h.le, fun W' h' hz' => f W' (h.ok W' h' hz')⟩
/-- a row of one's own lies in its block alone -/
theorem ownsRow_agree {w w' : World} {base e z n : Nat} {v : Value} {ty : TypeId} {xs : List Value} (h : w.ownsRow base ty z v n xs) (hg : ∀ g, v.ownBlock = some g → w'.heap[g]? = w.heap[g]?) : w'.ownsRow base ty z v n xs :=
  ⟨h.1, h.2.imp id fun ⟨g, cap, cur, h1, h2, h3, h4⟩ => ⟨g, cap, cur, h1, h2, (hg g (by rw [h1]; rfl)).trans h3, h4⟩⟩
section
variable {P : Program} (w : World)
/-- append onto a row of one's own: the row's block is the same or a new one -/
theorem run_append_own2 (base : Nat) (t ty e : TypeId) (i : TypeInfo) (z : Value) (size bytes : Nat) (ht : P.underlying t = some (.slice e)) (hi : P.info? e = some i) (hz : i.zero = some z)
    (hsize : i.size = size) (hby : i.bytes = bytes) (hzs : z.cells.size = size) (hsz : 0 < size)
    (v : Value) (n : Nat) (xs : List Value) (hown : w.ownsRow base e size v n xs)
    (a : Addr) (m c : Nat) (news : List Value) (hl : news.length = m * size) (hnews : ∀ j u, news[j]? = some u → w.cell? (a.add j) = some u) (h1 : ∀ u ∈ news, u.oneCell' = true)
    (h63 : n + m ≤ maxLen) (hbytes : (n + m) * bytes ≤ 140737488355328) (hbase : base ≤ w.heap.size) :
    ∃ v' w', (Builtin.append_ #[t, t] ty #[v, .slice (some a) m c]).run P w = .ok v' w' ∧ w'.ownsRow base e size v' (n + m) (xs ++ news) ∧ w.grownBy w' v.ownBlock ∧
      (v'.ownBlock = v.ownBlock ∨ ∃ k, v'.ownBlock = some k ∧ w.heap.size ≤ k) := by
  obtain ⟨v', w', hr, h2, h3, h4⟩ := run_append_own (P := P) w base t ty e i z size bytes ht hi hz hsize hby hzs hsz v n xs hown a m c news hl hnews h1 h63 hbytes hbase
  refine ⟨v', w', hr, h2, h3, ?_⟩
  by_cases hm : m = 0 ∧ v = .slice none 0 0
  · obtain ⟨rfl, rfl⟩ := hm
    rw [h4.2 ⟨rfl, rfl⟩]
    exact .inl rfl
  -- the same run from a row that lies higher up: the answer is the same
  rcases hown.2 with ⟨rfl, rfl⟩ | ⟨g, cap, cur, rfl, hbg, hg, hnc, hcm, hcs, htake⟩
  · have hx : xs = [] := List.eq_nil_of_length_eq_zero (by simpa using hown.1)
    subst hx
    obtain ⟨v2, w2, hr2, g2, _, g4⟩ := run_append_own (P := P) w w.heap.size t ty e i z size bytes ht hi hz hsize hby hzs hsz (.slice none 0 0) 0 [] (World.ownsRow_nil _ _ _ _) a m c news hl hnews h1 h63 hbytes (Nat.le_refl _)
    rw [hr] at hr2
    cases hr2
    rcases g2.2 with ⟨rfl, _⟩ | ⟨k, _, _, rfl, hk, _⟩
    · exact .inl rfl
    · exact .inr ⟨k, rfl, hk⟩
  · by_cases hroom : n + m ≤ cap
    · subst hsize
      have hfit : n * i.size + news.length ≤ cur.size := by rw [hl, hcs, ← Nat.add_mul]; exact Nat.mul_le_mul_right _ hroom
      have hr2 := run_append_room (P := P) w t ty e i ht hi g n cap cur hg a m c news hl hnews h1 hroom hfit
      rw [hr] at hr2
      cases hr2
      exact .inl rfl
    · subst hsize
      subst hby
      have hsmall : n + m ≤ 9223372036854775807 := by simp only [maxLen] at h63; omega
      have holds : ∀ j u, xs[j]? = some u → w.cell? ((⟨g, 0, none⟩ : Addr).add j) = some u := hown.cells (g := g) rfl
      have hr2 := run_append_grow (P := P) w t ty e i z ht hi hz ⟨g, 0, none⟩ n cap xs hown.1 holds a m c news hl hnews (by omega) (by omega) (growslice_fits (by omega) hbytes)
      rw [hr] at hr2
      cases hr2
      exact .inr ⟨w.heap.size, rfl, Nat.le_refl _⟩
theorem wpList_append_own2 {ops : Array Oper} {rest : List Oper} {o : Oper} {a : Act} {Q : Exit → Act → World → Prop} (hgd : o.guard = none) (s x : Operand) (t : TypeId)
    (ho : o.op = .call { callee := .builtin .append, args := #[s, x], argTypes := #[t, t] })
    (base : Nat) (e : TypeId) (i : TypeInfo) (z : Value) (size bytes : Nat) (ht : P.underlying t = some (.slice e)) (hi : P.info? e = some i) (hz : i.zero = some z)
    (hsize : i.size = size) (hby : i.bytes = bytes) (hzs : z.cells.size = size) (hsz : 0 < size)
    (v : Value) (n : Nat) (xs : List Value) (hs : a.eval s = v) (hown : w.ownsRow base e size v n xs)
    (ad : Addr) (m c : Nat) (news : List Value) (hx : a.eval x = .slice (some ad) m c) (hl : news.length = m * size) (hnews : ∀ j u, news[j]? = some u → w.cell? (ad.add j) = some u) (h1 : ∀ u ∈ news, u.oneCell' = true)
    (h63 : n + m ≤ maxLen) (hbytes : (n + m) * bytes ≤ 140737488355328) (hbase : base ≤ w.heap.size)
    (h : ∀ v' w', w'.ownsRow base e size v' (n + m) (xs ++ news) → w.grownBy w' v.ownBlock → (v'.ownBlock = v.ownBlock ∨ ∃ k, v'.ownBlock = some k ∧ w.heap.size ≤ k) → wpList P ops Q rest (a.put o.dst v') w') : wpList P ops Q (o :: rest) a w := by
  refine wpList_plain hgd fun K hK => ?_
  obtain ⟨v', w', hr, h2, h3, h4⟩ := run_append_own2 (P := P) w base t o.type e i z size bytes ht hi hz hsize hby hzs hsz v n xs hown ad m c news hl hnews h1 h63 hbytes hbase
  unfold Oper.wp execOp
  simp only [ho, resolve, invoke, builtin, Sem.run_bind, Sem.run_pure, Result.andThen_ok, List.map_toArray, List.map_cons, List.map_nil, hs, hx, hr]
  exact hK _ _ (h v' w' h2 h3 h4)
end
/-- a row of one's own; what hangs on each element lies in a stretch that is not the row's -/
structure GRow {α : Type} (ty : TypeId) (z : Nat) (enc : α → List Value → World → Prop) (base : Nat) (v : Value) (L : List α) (W : World) : Prop where
  ex : ∃ vs : List (List Value), vs.length = L.length ∧ (∀ x ∈ vs, x.length = z) ∧ W.ownsRow base ty z v L.length vs.flatten ∧
    ∀ i (h : i < L.length) (h' : i < vs.length), ∃ s e, base ≤ s ∧ Fpt (enc L[i] vs[i]) s e W ∧ ∀ g, v.ownBlock = some g → ¬ (s ≤ g ∧ g < e)
section
variable {α : Type} {ty : TypeId} {z : Nat} {enc : α → List Value → World → Prop} {base : Nat} {v : Value} {L : List α} {W : World}
theorem GRow.nil : GRow ty z enc base (.slice none 0 0) [] W :=
  ⟨[], rfl, fun _ h => absurd h (by simp), World.ownsRow_nil _ _ _ _, fun i h => absurd h (Nat.not_lt_zero _)⟩
theorem GRow.form (h : GRow ty z enc base v L W) : ∃ a l c, v = .slice a l c := by
  obtain ⟨vs, _, _, h, _⟩ := h.ex
  exact ownr_form' h
theorem GRow.lt (h : GRow ty z enc base v L W) : ∀ g, v.ownBlock = some g → base ≤ g ∧ g < W.heap.size := by
  obtain ⟨vs, _, _, h, _⟩ := h.ex
  exact h.lt
/-- whatever leaves the blocks from the base on as they were keeps it -/
theorem GRow.keep (h : GRow ty z enc base v L W) {W' : World} (ha : Agree base W.heap.size W W') (hz : W.heap.size ≤ W'.heap.size) : GRow ty z enc base v L W' := by
  obtain ⟨vs, h1, h2, h3, h4⟩ := h.ex
  refine ⟨vs, h1, h2, ownsRow_agree (e := 0) h3 (fun g hg => ha g (h3.lt g hg).1 (h3.lt g hg).2), fun i hi hi' => ?_⟩
  obtain ⟨s, e, hb, hf, hg⟩ := h4 i hi hi'
  exact ⟨s, e, hb, hf.later (ha.mono hb hf.le) hz, hg⟩
theorem GRow.later (h : GRow ty z enc base v L W) {W' : World} (hb : Below W.heap.size W W') : GRow ty z enc base v L W' := h.keep (.below hb (Nat.le_refl _)) hb.size
/-- one element more -/
theorem GRow.push (h : GRow ty z enc base v L W) {W' : World} {v' : Value} {x : α} {cs : List Value} (hx : ∀ vs : List (List Value), W.ownsRow base ty z v L.length vs.flatten → W'.ownsRow base ty z v' (L.length + 1) (vs.flatten ++ cs)) (hcs : cs.length = z)
    (hg : W.grownBy W' v.ownBlock) (hn : v'.ownBlock = v.ownBlock ∨ ∃ k, v'.ownBlock = some k ∧ W.heap.size ≤ k) {s e : Nat} (hs : base ≤ s) (hf : Fpt (enc x cs) s e W) (hne : ∀ g, v.ownBlock = some g → ¬ (s ≤ g ∧ g < e)) : GRow ty z enc base v' (L ++ [x]) W' := by
  obtain ⟨vs, h1, h2, h3, h4⟩ := h.ex
  have hag : ∀ s e, e ≤ W.heap.size → (∀ g, v.ownBlock = some g → ¬ (s ≤ g ∧ g < e)) → Agree s e W W' := fun s e he hn b hb1 hb2 => hg.block b (by omega) fun eq => hn b eq.symm ⟨hb1, hb2⟩
  have hnew : ∀ s e, e ≤ W.heap.size → (∀ g, v.ownBlock = some g → ¬ (s ≤ g ∧ g < e)) → ∀ g, v'.ownBlock = some g → ¬ (s ≤ g ∧ g < e) := fun s e he hn0 g hgg => by
    rcases hn with h | ⟨k, hk, hk2⟩
    · exact hn0 g (h ▸ hgg)
    · rw [hk] at hgg
      cases hgg
      omega
  refine ⟨vs ++ [cs], by simp [h1], fun y hy => ?_, ?_, fun i hi hi' => ?_⟩
  · rw [List.mem_append, List.mem_singleton] at hy
    rcases hy with hy | rfl
    · exact h2 y hy
    · exact hcs
  · rw [List.flatten_append, List.length_append, List.length_singleton]
    simpa using hx vs h3
  · rw [List.length_append, List.length_singleton] at hi
    by_cases c : i < L.length
    · obtain ⟨s, e, hb, hf, hgg⟩ := h4 i c (by omega)
      refine ⟨s, e, hb, ?_, hnew s e hf.le hgg⟩
      rw [List.getElem_append_left c, List.getElem_append_left (by omega)]
      exact hf.later (hag s e hf.le hgg) hg.size
    · obtain rfl : i = L.length := by omega
      refine ⟨s, e, hs, ?_, hnew s e hf.le hne⟩
      rw [List.getElem_append_right (Nat.le_refl _), List.getElem_append_right (by omega)]
      simp only [Nat.sub_self, h1, List.getElem_cons_zero]
      exact hf.later (hag s e hf.le hne) hg.size
theorem flat_at : ∀ {vs : List (List Value)} {z : Nat}, (∀ x ∈ vs, x.length = z) → ∀ i (h : i < vs.length) j (hj : j < vs[i].length), vs.flatten[i * z + j]? = some vs[i][j]
  | x :: vs, z, hz, 0, h, j, hj => by
    rw [Nat.zero_mul, Nat.zero_add, List.flatten_cons]
    have hj' : j < x.length := hj
    rw [List.getElem?_append_left hj', List.getElem?_eq_getElem hj']; rfl
  | x :: vs, z, hz, i + 1, h, j, hj => by
    have hx := hz x List.mem_cons_self
    rw [List.flatten_cons, Nat.add_mul, Nat.one_mul, List.getElem?_append_right (by omega), hx, show i * z + z + j - z = i * z + j by omega]
    exact flat_at (fun y hy => hz y (List.mem_cons_of_mem _ hy)) i (by simpa using h) j hj
/-- its elements -/
theorem GRow.at (h : GRow ty z enc base v L W) (i : Nat) (hi : i < L.length) : ∃ g c cs, v = .slice (some ⟨g, 0, none⟩) L.length c ∧ base ≤ g ∧ cs.length = z ∧ enc L[i] cs W ∧ ∀ j (hj : j < cs.length), W.cell? ⟨g, i * z + j, none⟩ = some cs[j] := by
  obtain ⟨vs, h1, h2, h3, h4⟩ := h.ex
  obtain ⟨s, e, hb, hf, _⟩ := h4 i hi (by omega)
  have h3' := h3
  rcases h3.2 with ⟨rfl, h0⟩ | ⟨g, cap, cur, rfl, hbg, _⟩
  · omega
  · refine ⟨g, cap, vs[i]'(by omega), rfl, hbg, h2 _ (List.getElem_mem _), hf.now, fun j hj => ?_⟩
    have := h3'.cells (g := g) rfl (i * z + j) _ (flat_at h2 i (by omega) j hj)
    rwa [Addr.add_lit, Nat.zero_add] at this
/-- what slice it is -/
theorem GRow.slice (h : GRow ty z enc base v L W) : ∃ a c, v = .slice a L.length c := by
  obtain ⟨vs, h1, h2, h3, h4⟩ := h.ex
  rcases h3.2 with ⟨rfl, h0⟩ | ⟨g, cap, cur, rfl, _⟩
  · exact ⟨none, 0, by rw [h0]⟩
  · exact ⟨_, cap, rfl⟩
/-- it hangs on the blocks from its base on -/
theorem GRow.fpt (h : GRow ty z enc base v L W) : Fpt (GRow ty z enc base v L) base W.heap.size W := ⟨Nat.le_refl _, fun W' h' hz => h.keep h' hz⟩
end
end Go.Proofs.YtponocolfjkapaaDoor
namespace Go.Proofs.YtponocolfjkapaaDoor
open Go.RowKit
set_option linter.unusedVariables false
set_option linter.unusedSimpArgs false

theorem one_ext (s : ByteArray) (k : Nat) (h : k < s.size) : s.extract k (k + 1) = Tl.str [s[k]] := by
  apply Tl.tx_inj
  rw [Tl.tx_extract, Tl.tx_str]
  have : (Tl.tx s).drop k = s[k] :: (Tl.tx s).drop (k + 1) := by rw [← Tl.tx_getElem s k h, ← List.drop_eq_getElem_cons]
  rw [this, show k + 1 - k = 1 by omega]; rfl
theorem nil_app (S : ByteArray) : (⟨#[]⟩ : ByteArray) ++ S = S := Tl.tx_inj (by rw [Tl.tx_app]; rfl)
end Go.Proofs.YtponocolfjkapaaDoor
