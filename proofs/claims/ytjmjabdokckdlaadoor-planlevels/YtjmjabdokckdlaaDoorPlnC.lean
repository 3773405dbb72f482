/- plan: order. -/
import Derived.Test.YtjmjabdokckdlaaDoorPlnB
import Derived.Maps.AppendAt
namespace Go.Proofs.YtjmjabdokckdlaaDoor
open Go.RowKit
set_option linter.unusedVariables false
set_option linter.unusedSimpArgs false

theorem int_info : (Tryd.prog.info? 3).map (fun i => (i.zero, i.size, i.bytes)) = some (some (.int .i64 0), 1, 8) := by kernel_rfl
theorem bool_info : (Tryd.prog.info? 4).map (fun i => (i.zero, i.size, i.bytes)) = some (some (.bool false), 1, 1) := by kernel_rfl
theorem span_info : (Tryd.prog.info? 37).map (fun i => (i.zero, i.size, i.bytes)) = some (some (.agg #[.int .i64 0, .int .i64 0]), 2, 16) := by kernel_rfl
/-- numbers as cells -/
def nV (r : List Nat) : List Value := r.map fun (i : Nat) => .int .i64 (i : Int)
theorem nV_len (r : List Nat) : (nV r).length = r.length := List.length_map ..
theorem nV_snoc (r : List Nat) (i : Nat) : nV (r ++ [i]) = nV r ++ [.int .i64 (i : Int)] := by unfold nV; rw [List.map_append]; rfl
theorem nV_at (r : List Nat) (j : Nat) (h : j < r.length) : (nV r)[j]? = some (.int .i64 ((r[j] : Nat) : Int)) := by unfold nV; rw [List.getElem?_map, List.getElem?_eq_getElem h]; rfl
/-- a row of one's own -/
abbrev OwnN (X : World) (base : Nat) (v : Value) (r : List Nat) : Prop := X.ownsRow base 3 1 v r.length (nV r)
theorem own_nil (X : World) (base : Nat) : OwnN X base (.slice none 0 0) [] := ⟨rfl, .inl ⟨rfl, rfl⟩⟩
theorem own_bel {w w' : World} {base z n : Nat} {v : Value} {ty : TypeId} {xs : List Value} (h : w.ownsRow base ty z v n xs) (hb : Below w.heap.size w w') : w'.ownsRow base ty z v n xs :=
  ⟨h.1, h.2.imp id fun ⟨g, cap, cur, h1, h2, h3, h4⟩ => ⟨g, cap, cur, h1, h2, (hb.block g (Array.getElem?_eq_some_iff.1 h3).1).trans h3, h4⟩⟩
theorem own_set {w : World} {base z n : Nat} {v : Value} {ty : TypeId} {xs : List Value} (h : w.ownsRow base ty z v n xs) (p : Addr) (hp : p.block < base) (u : Value) : (w.setCell p u).ownsRow base ty z v n xs :=
  ⟨h.1, h.2.imp id fun ⟨g, cap, cur, h1, h2, h3, h4⟩ => ⟨g, cap, cur, h1, h2, (Below.heap_setCell w p u g (by omega)).trans h3, h4⟩⟩
def lenV : Value → Nat
  | .slice _ l _ => l
  | _ => 0
theorem own_len {X : World} {base : Nat} {v : Value} {r : List Nat} (h : OwnN X base v r) : lenV v = r.length ∧ ∃ a c, v = .slice a r.length c := by
  rcases h.2 with ⟨rfl, e⟩ | ⟨g, cap, cur, rfl, _⟩
  · exact ⟨e.symm, none, 0, by rw [e]⟩
  · exact ⟨rfl, _, _, rfl⟩
/-- a row of marks of one's own -/
def BoR (q n : Nat) (st : Nat → Bool) (X : World) : Prop := ∃ cur, X.heap[q]? = some (.cells cur 4 (0, 0)) ∧ ∀ t, t < n → cur[t]? = some (.bool (st t))
theorem BoR.at {q n : Nat} {st : Nat → Bool} {X : World} (h : BoR q n st X) : BoAt q n st X := by
  obtain ⟨cur, h1, h2⟩ := h
  exact fun t ht => (cell_of_row _ _ _ _ _ (0, 0) h1).trans (h2 t ht)
theorem BoR.froz {q n : Nat} {st : Nat → Bool} {X : World} (h : BoR q n st X) (t : Nat) : X.frozen? ⟨q, t, none⟩ = false := by
  obtain ⟨cur, h1, _⟩ := h
  exact frozen_of_row _ _ _ _ _ h1
theorem BoR.lt {q n : Nat} {st : Nat → Bool} {X : World} (h : BoR q n st X) : q < X.heap.size := by
  obtain ⟨cur, h1, _⟩ := h
  exact (Array.getElem?_eq_some_iff.1 h1).1
theorem BoR.step {q n : Nat} {st : Nat → Bool} {X X' : World} (h : BoR q n st X) (hb : Below X.heap.size X X') : BoR q n st X' := by
  have hl := h.lt
  obtain ⟨cur, h1, h2⟩ := h
  exact ⟨cur, (hb.block _ hl).trans h1, h2⟩
theorem BoR.grown {q n : Nat} {st : Nat → Bool} {X X' : World} {row : Option Nat} (h : BoR q n st X) (hg : X.grownBy X' row) (hne : ∀ j, row = some j → j ≠ q) : BoR q n st X' := by
  have hl := h.lt
  obtain ⟨cur, h1, h2⟩ := h
  exact ⟨cur, (hg.block _ hl (fun e => hne q e.symm rfl)).trans h1, h2⟩
theorem BoR.set {q n : Nat} {st st' : Nat → Bool} {X : World} (h : BoR q n st X) (t : Nat) (ht : t < n) (b : Bool) (hs : ∀ u, u < n → st' u = if u = t then b else st u) : BoR q n st' (X.setCell ⟨q, t, none⟩ (.bool b)) := by
  obtain ⟨cur, h1, h2⟩ := h
  refine ⟨_, heap_setCell_same X q t _ _ _ h1, fun u hu => ?_⟩
  have hlt : t < cur.size := (Array.getElem?_eq_some_iff.1 (h2 t ht)).1
  rw [Array.getElem?_setIfInBounds, hs u hu]
  by_cases e : t = u
  · rw [if_pos e, if_pos hlt, if_pos e.symm]
  · rw [if_neg e, if_neg (fun e' => e e'.symm)]
    exact h2 u hu
theorem BoR.congr {q n : Nat} {st st' : Nat → Bool} {X : World} (h : BoR q n st X) (hs : ∀ u, u < n → st' u = st u) : BoR q n st' X := by
  obtain ⟨cur, h1, h2⟩ := h
  exact ⟨cur, h1, fun u hu => by rw [hs u hu]; exact h2 u hu⟩
theorem made_bo {g n cap B : Nat} {X : World} (h : X.ownsRow B 4 1 (.slice (some ⟨g, 0, none⟩) n cap) n (madeCells (Value.cells (.bool false)) (n * 1)).toList) : BoR g n (fun _ => false) X := by
  rcases h.2 with ⟨h0, _⟩ | ⟨g', cap', cur, hv, _, hg, _, _, _, ht⟩
  · cases h0
  · simp only [Value.slice.injEq, Option.some.injEq, Addr.mk.injEq, and_true, true_and] at hv
    obtain ⟨rfl, rfl⟩ := hv
    refine ⟨cur, hg, fun a ha => ?_⟩
    have h2 : (cur.toList.take (n * 1))[a]? = some (.bool false) := by
      rw [ht, Array.getElem?_toList]
      unfold madeCells
      rw [Array.getElem?_map, Array.getElem?_range, if_pos (by omega)]
      have e : a % 1 = 0 := by omega
      simp [Value.cells, Nat.mod_one]
    rw [List.getElem?_take, if_pos (by omega), Array.getElem?_toList] at h2
    exact h2
/-- marks of those that stand in a row -/
def inR (r : List Nat) : Nat → Bool := fun t => decide (t ∈ r)
theorem pas1_yes {P : List Tk} {r : List Nat} {i : Nat} (h1 : inR r i = false) (h2 : hav (inR r) (tk P i).links = true) : pas1 P r i = r ++ [i] := by
  unfold pas1; rw [if_pos ⟨of_decide_eq_false h1, h2⟩]
theorem pas1_in {P : List Tk} {r : List Nat} {i : Nat} (h1 : inR r i = true) : pas1 P r i = r := by
  unfold pas1; rw [if_neg (fun h => h.1 (of_decide_eq_true h1))]
theorem pas1_no {P : List Tk} {r : List Nat} {i : Nat} (h2 : hav (inR r) (tk P i).links = false) : pas1 P r i = r := by
  unfold pas1; rw [if_neg (fun h => by have := h.2; unfold inR at h2; rw [h2] at this; cases this)]
/-- what the walk of order keeps -/
structure OrS (w : World) (n : Nat) (v : Value) (r : List Nat) (X : World) : Prop where
  own : OwnN X (w.heap.size + 1) v r
  bo : BoR w.heap.size n (inR r) X
  b : Below w.heap.size w X
theorem OrS.step {w : World} {n : Nat} {v : Value} {r : List Nat} {X X' : World} (h : OrS w n v r X) (hb : Below X.heap.size X X') : OrS w n v r X' := ⟨own_bel h.own hb, h.bo.step hb, h.b.trans (hb.mono h.b.size)⟩
/-- a mark is set -/
structure OrT (w : World) (n : Nat) (v : Value) (s : List Nat) (m : Nat) (X : World) : Prop where
  own : OwnN X (w.heap.size + 1) v s
  bo : BoR w.heap.size n (inR (s ++ [m])) X
  b : Below w.heap.size w X
theorem orS_put {w : World} {n : Nat} {v : Value} {s : List Nat} {X : World} (h : OrS w n v s X) (m : Nat) (hm : m < n) : OrT w n v s m (X.setCell ⟨w.heap.size, m, none⟩ (.bool true)) :=
  ⟨own_set h.own _ (by show w.heap.size < _; omega) _, h.bo.set m hm true (fun u _ => by
    unfold inR
    by_cases e : u = m
    · rw [if_pos e]; exact decide_eq_true (by simp [e])
    · rw [if_neg e, decide_eq_decide]
      simp [e]), h.b.setCell (Nat.le_refl _) _⟩
theorem orS_put2 {w : World} {n : Nat} {v v' : Value} {s : List Nat} {m : Nat} {X X1 : World} {o : Obj} (h : OrT w n v s m X) (ho : X1.ownsRow (w.heap.size + 1) 3 1 v' (s.length + 1) (nV s ++ [.int .i64 (m : Int)])) (hg : (X.alloc o).grownBy X1 v.ownBlock) : OrS w n v' (s ++ [m]) X1 := by
  have hz := h.b.size
  have hlt : ∀ j, v.ownBlock = some j → w.heap.size + 1 ≤ j := fun j hj => (h.own.lt j hj).1
  have hbo : BoR w.heap.size n (inR (s ++ [m])) (X.alloc o) := h.bo.step ((Below.refl _ X).alloc (Nat.le_refl _) o)
  refine ⟨?_, hbo.grown hg (fun j hj => by have := hlt j hj; omega), (h.b.alloc hz o).grown hg (by simp; omega) (fun j hj => by have := hlt j hj; omega)⟩
  unfold OwnN
  rw [nV_snoc, List.length_append]
  exact ho
set_option maxRecDepth 100000 in
set_option maxHeartbeats 4000000 in
theorem order_any {P : List Tk} (hG : Good P) (v : Value) (w : World) (hv : TsAt w v P) :
    Calls Tryd.prog 48 #[v] w fun e w' => ∃ u, e = .returned u ∧ OwnN w' (w.heap.size + 1) u (ord P) ∧ Topo P (ord P) ∧ Below w.heap.size w w' := by
  obtain ⟨ad, cap, rfl, hall⟩ := hv
  have HALL := hide hall
  have h60 := hG.n60
  have HG := hide hG
  clear hall hG
  obtain ⟨i1, hi1, hz10, hz11, hz12⟩ := info_parts bool_info
  obtain ⟨i0, hi, hz0, hz1, hz2⟩ := info_parts int_info
  go_enter Tryd.func48, Tryd.ntmps48
  go_wp2_with (refine wpList_make_full _ rfl (.tmp 9) (.tmp 9) 77 rfl w.heap.size 4 i1 (.bool false) 1 Tryd.underlying77 hi1 hz10 hz11 .i64 .i64 _ _ P.length rfl rfl rfl rfl (by rw [hz12]; omega) (by unfold maxLen; omega) (Nat.le_refl _) ?_; intro W1 hown hgrow)
  have hO : OrS w P.length (.slice none 0 0) [] W1 := ⟨own_nil _ _, (made_bo hown).congr fun _ _ => rfl, Below.grown (Below.refl _ w) hgrow (Nat.le_refl _) (fun k hk => by cases hk)⟩
  have HO := hide hO
  clear hown hgrow hO
  go_wp2_with fail
  go_loopw [3] (fun rv wr => ∃ r : List Nat, OrS w P.length rv r wr ∧ Topo P r ∧ ∀ z, Ends P r z → Ends P [] z) (fun rv _ => P.length + 1 - lenV rv)
  case atStart => exact ⟨[], HO.out, .nil, fun _ h => h⟩
  case round =>
    clear HO
    obtain ⟨r, hO, hT, hE⟩ := hrel
    obtain ⟨ra, rc, rfl⟩ := (own_len hO.own).2
    have HO := hide hO
    have HT := hide hT
    have HE := hide hE
    clear hO hT hE
    go_wp2_with fail
    go_loopw [3, 15] (fun rv j wr => ∃ m : Nat, m ≤ P.length ∧ j = .int .i64 m ∧ OrS w P.length rv (pasN P r m) wr) (fun _ j _ => P.length - (intOf j).toNat)
    case atStart => exact ⟨0, by omega, rfl, HO.out⟩
    case round =>
      clear HO
      obtain ⟨m, hm, rfl, hO⟩ := hrel
      obtain ⟨sa, sc, rfl⟩ := (own_len hO.own).2
      have hTm := HT.out.pasN m hm
      have hsl := hTm.le
      have hnext : pasN P r (m + 1) = pas1 P (pasN P r m) m := rfl
      have hrl := pasN_len P r m
      generalize hps : pasN P r m = s at *
      by_cases hlt : m < P.length
      · have hmi : (m : Int) < (P.length : Int) := by omega
        obtain ⟨g, o, lv, uv, rfl, y0, y1, y2, y3, hls, hus⟩ := HALL.out m hlt
        have hls' := hls
        obtain ⟨la, lc, rfl, _⟩ := hls'
        obtain ⟨ua, uc, rfl, _⟩ := hus
        have hB := hO.b
        have hy0 := (hB.cell (World.block_lt_of_cell? w _ y0)).trans y0
        have hy1 := (hB.cell (World.block_lt_of_cell? w _ y1)).trans y1
        have hy2 := (hB.cell (World.block_lt_of_cell? w _ y2)).trans y2
        have hy3 := (hB.cell (World.block_lt_of_cell? w _ y3)).trans y3
        have hst := hO.bo.at m hlt
        have hfz := hO.bo.froz m
        have hq := hO.bo.lt
        have hlk := HG.out.link m hlt
        have hcn := HG.out.cnt m hlt
        have HO := hide hO
        have HL := hide hls
        have KH := hide (fun (W : World) (hb : Below wr.heap.size wr W) => haveAll_any w.heap.size P.length (inR s) P.length (tk P m).links _ W (hls.below (hB.trans (hb.mono hB.size))) (fun x hx => ⟨(hlk x hx).1, (hlk x hx).2.1⟩) (hO.bo.at.below hb) hcn.1)
        have hN := (Below.refl _ wr).alloc (Nat.le_refl _) (.cells #[.int .i64 (tk P m).len, .int .i64 (tk P m).nb, .slice la (tk P m).links.length lc, .slice ua (tk P m).uses.length uc] 45)
        have HN := hide hN
        clear y0 y1 y2 y3 hls hB hO hN hlk hcn hTm
        cases hin : inR s m with
        | true =>
          rw [hin] at hst
          rw [pas1_in hin] at hnext
          generalize (tk P m).len = tl at *
          generalize (tk P m).nb = tn at *
          go_wp2_with fail
          go_roundw
          case rel => exact ⟨m + 1, by omega, by go_num, by rw [hnext]; exact HO.out.step HN.out⟩
          case measure => simp [intOf]; omega
        | false =>
          rw [hin] at hst
          cases hhv : hav (inR s) (tk P m).links with
          | false =>
            rw [pas1_no hhv] at hnext
            rw [hhv] at KH
            generalize (tk P m).len = tl at *
            generalize (tk P m).nb = tn at *
            go_wp2_with (go_at_call 67; refine (KH.out _ HN.out).mono ?_; rintro e X ⟨rfl, hx⟩)
            go_roundw
            case rel => exact ⟨m + 1, by omega, by go_num, by rw [hnext]; exact (HO.out.step HN.out).step hx⟩
            case measure => simp [intOf]; omega
          | true =>
            rw [pas1_yes hin hhv] at hnext
            rw [hhv] at KH
            generalize (tk P m).len = tl at *
            generalize (tk P m).nb = tn at *
            go_wp2_with (first
              | (go_at_call 67; refine (KH.out _ HN.out).mono ?_; rintro e X ⟨rfl, hx⟩; have hOx := (HO.out.step HN.out).step hx; have hstx := hOx.bo.at m hlt; have hfzx := hOx.bo.froz m; have hqx := hOx.bo.lt; rw [hin] at hstx; have hOA := orS_put hOx m hlt; have hXz := hOx.b.size; have HOX := hide hOA; clear hOx hOA; have hcA := cell_one_new (X.setCell ⟨w.heap.size, m, none⟩ (.bool true)) (.int .i64 (m : Int)) 3; rw [show (X.setCell ⟨w.heap.size, m, none⟩ (.bool true)).heap.size = X.heap.size by simp] at hcA; have HCA := hide hcA; clear hcA)
              | (at_builtin; refine wpList_append_own _ rfl _ _ 31 rfl (w.heap.size + 1) 3 i0 (.int .i64 0) 1 8 Tryd.underlying31 hi hz0 hz1 hz2 rfl (by decide) _ _ _ rfl (HOX.out.own.alloc _) ⟨X.heap.size, 0, none⟩ 1 1 [.int .i64 m] rfl rfl HCA.out (ints_oneCell .i64 [(m : Int)]) (by unfold maxLen; omega) (by omega) (by simp; omega) ?_; intro v' w1 hown1 hgrow1 hnil1))
            go_roundw
            case rel => exact ⟨m + 1, by omega, by go_num, by rw [hnext]; exact orS_put2 HOX.out hown1 hgrow1⟩
            case measure => simp [intOf]; omega
      · obtain rfl : m = P.length := by omega
        have HO := hide hO
        have hps' : pas P r = s := hps
        clear hO
        by_cases he : s.length = r.length
        · have hei : (s.length : Int) = (r.length : Int) := by omega
          have ho : ord P = s := ord_eq (HE.out s (by have := Ends.fin (P := P) r (by rw [hps']; exact he); rw [hps'] at this; exact this))
          go_wp2_with fail
          go_ret
          exact ⟨_, rfl, by rw [ho]; exact HO.out.own, by rw [ho]; exact hTm, HO.out.b⟩
        · have hei : ¬ (s.length : Int) = (r.length : Int) := by omega
          go_wp2_with fail
          exact ⟨⟨s, HO.out, hTm, fun z hz => HE.out z (.step r z (by rw [hps']; exact he) (by rw [hps']; exact hz))⟩, by show P.length + 1 - s.length < P.length + 1 - r.length; omega⟩
end Go.Proofs.YtjmjabdokckdlaaDoor
