/- the reference of plans: Late. (Written by gen/rpe.py.) -/
import Derived.Test.YtjmjabdokckdlaaDoorRpD
import Derived.Test.YtjmjabdokckdlaaDoorPlnP
namespace Go.Proofs.YtjmjabdokckdlaaDoor
open Go.RowKit Go.Shelf
set_option linter.unusedVariables false
set_option linter.unusedSimpArgs false

def sumS (s : Sp) : Nat → Int
  | 0 => 0
  | m + 1 => sumS s m + (s m).1
def sumW (q : Nat) (w : World) : Nat → Int
  | 0 => 0
  | m + 1 => sumW q w m + intOf ((w.cell? ⟨q, m * 2, none⟩).getD (.int .i64 0))
theorem sumW_eq {q n : Nat} {s : Sp} {w : World} (h : SpAt q n s w) : ∀ m, m ≤ n → sumW q w m = sumS s m
  | 0, _ => rfl
  | m + 1, hm => by rw [sumW, sumS, sumW_eq h m (by omega), (h m (by omega)).1]; rfl
theorem sumS_le {s u : Sp} : ∀ m, (∀ j, j < m → (s j).1 ≤ (u j).1) → sumS s m ≤ sumS u m
  | 0, _ => Int.le_refl _
  | m + 1, h => by
    have := sumS_le m (fun j hj => h j (by omega))
    have := h m (by omega)
    rw [sumS, sumS]; omega
theorem sumS_lt {s u : Sp} : ∀ m, (∀ j, j < m → (s j).1 ≤ (u j).1) → (∃ j, j < m ∧ (s j).1 < (u j).1) → sumS s m < sumS u m
  | 0, _, ⟨j, hj, _⟩ => absurd hj (Nat.not_lt_zero _)
  | m + 1, h, ⟨j, hj, hl⟩ => by
    have h1 := sumS_le m (fun j hj => h j (by omega))
    have h2 := h m (by omega)
    rw [sumS, sumS]
    by_cases e : j = m
    · subst e; omega
    · have := sumS_lt m (fun j hj => h j (by omega)) ⟨j, by omega, hl⟩; omega
/-- what stands while tasks that are too late are made sooner -/
structure Lti (P : List Tk) (b : Int) (L s : Sp) : Prop where
  sh : ∀ j, j < P.length → (s j).2 = (s j).1 + (tk P j).len
  lo : ∀ j, j < P.length → (L j).1 ≤ (s j).1
  hi : ∀ j, j < P.length → (s j).1 ≤ b - (tk P j).len
theorem Lti.start (P : List Tk) (b : Int) (r : List Nat) : Lti P b (latS P b r) (latI P b) :=
  ⟨fun j _ => rfl, fun j _ => (latS_shape P b r j).2, fun j _ => Int.le_refl _⟩
/-- a link that does not hold makes one sooner -/
theorem Lti.step {P : List Tk} (hF : Fit P) {b : Int} {s : Sp} (h : Lti P b (latS P b (ord P)) s) (i : Nat) (hi : i < P.length) (x : Lk) (hx : x ∈ (tk P i).links) (hn : ¬ (s x.t.toNat).1 + gp P i x ≤ (s i).1) : Lti P b (latS P b (ord P)) (upS s x.t.toNat (plc P x.t.toNat ((s i).1 - gp P i x))) := by
  have hl := latS_links hF.g b hF.t i (hF.t.full hF.l i hi) x hx
  have h1 := h.lo i hi
  refine ⟨fun j hj => ?_, fun j hj => ?_, fun j hj => ?_⟩
  · unfold upS
    split
    · rename_i e; rw [e]; rfl
    · exact h.sh j hj
  · unfold upS
    split
    · rename_i e; rw [e]; unfold plc; dsimp only; omega
    · exact h.lo j hj
  · unfold upS
    split
    · rename_i e
      have := h.hi j hj
      subst e; unfold plc; dsimp only; omega
    · exact h.hi j hj
/-- within a pass: the first m tasks are looked at, and the first k links of the next -/
structure Pass (P : List Tk) (b : Int) (s0 : Sp) (m k : Nat) (s : Sp) (a : Bool) : Prop where
  l : Lti P b (latS P b (ord P)) s
  le : ∀ j, j < P.length → (s j).1 ≤ (s0 j).1
  yes : a = true → sumS s P.length < sumS s0 P.length
  no : a = false → (∀ j, j < P.length → s j = s0 j) ∧ (∀ i, i < m → ∀ x ∈ (tk P i).links, (s0 x.t.toNat).1 + gp P i x ≤ (s0 i).1) ∧ ∀ x ∈ (tk P m).links.take k, (s0 x.t.toNat).1 + gp P m x ≤ (s0 m).1
theorem Pass.start {P : List Tk} {b : Int} {s : Sp} (h : Lti P b (latS P b (ord P)) s) : Pass P b s 0 0 s false :=
  ⟨h, fun j _ => Int.le_refl _, (fun h => by cases h), fun _ => ⟨fun j _ => rfl, fun i hi => absurd hi (Nat.not_lt_zero _), fun x hx => by simp at hx⟩⟩
theorem Pass.next {P : List Tk} {b : Int} {s0 s : Sp} {m : Nat} {a : Bool} (h : Pass P b s0 m (tk P m).links.length s a) : Pass P b s0 (m + 1) 0 s a :=
  ⟨h.l, h.le, h.yes, fun ha => by
    obtain ⟨h1, h2, h3⟩ := h.no ha
    rw [List.take_length] at h3
    exact ⟨h1, fun i hi => (by
      by_cases e : i = m
      · subst e; exact h3
      · exact h2 i (by omega)), fun x hx => by simp at hx⟩⟩
theorem Pass.hold {P : List Tk} (hG : Good P) {b : Int} {s0 s : Sp} {m k : Nat} {a : Bool} (h : Pass P b s0 m k s a) (hm : m < P.length) (hk : k < (tk P m).links.length) (hh : (s (lk (tk P m).links k).t.toNat).1 + gp P m (lk (tk P m).links k) ≤ (s m).1) : Pass P b s0 m (k + 1) s a :=
  ⟨h.l, h.le, h.yes, fun ha => by
    obtain ⟨h1, h2, h3⟩ := h.no ha
    refine ⟨h1, h2, fun x hx => ?_⟩
    rw [List.take_succ_eq_append_getElem hk] at hx
    rcases List.mem_append.1 hx with g | g
    · exact h3 x g
    · rw [List.mem_singleton.1 g, ← lk_at _ k hk]
      have ht := hG.link m hm _ (lk_mem _ k hk)
      rw [h1 m hm, h1 _ (by omega)] at hh
      exact hh⟩
theorem Pass.push {P : List Tk} (hF : Fit P) {b : Int} {s0 s : Sp} {m k : Nat} {a : Bool} (h : Pass P b s0 m k s a) (hm : m < P.length) (hk : k < (tk P m).links.length) (hh : ¬ (s (lk (tk P m).links k).t.toNat).1 + gp P m (lk (tk P m).links k) ≤ (s m).1) : Pass P b s0 m (k + 1) (upS s (lk (tk P m).links k).t.toNat (plc P (lk (tk P m).links k).t.toNat ((s m).1 - gp P m (lk (tk P m).links k)))) true := by
  have hx := lk_mem _ k hk
  have ht := hF.g.link m hm _ hx
  have hle : ∀ j, j < P.length → (upS s (lk (tk P m).links k).t.toNat (plc P (lk (tk P m).links k).t.toNat ((s m).1 - gp P m (lk (tk P m).links k))) j).1 ≤ (s j).1 := fun j hj => by
    unfold upS
    split
    · rename_i e; rw [e]; unfold plc; dsimp only; omega
    · exact Int.le_refl _
  refine ⟨h.l.step hF m hm _ hx hh, fun j hj => Int.le_trans (hle j hj) (h.le j hj), fun _ => ?_, fun h => by cases h⟩
  refine Int.lt_of_lt_of_le (sumS_lt P.length hle ⟨(lk (tk P m).links k).t.toNat, by omega, ?_⟩) (sumS_le _ h.le)
  rw [upS_same]; unfold plc; dsimp only; omega
/-- where a pass brings nothing, all are as late as they can be -/
theorem Pass.done {P : List Tk} (hF : Fit P) {b : Int} {s0 s : Sp} (h : Pass P b s0 P.length 0 s false) : ∀ j, j < P.length → s j = latS P b (ord P) j := by
  obtain ⟨h1, h2, _⟩ := h.no rfl
  have hm := latS_most hF.g b hF.t (fun j => (s j).1) (fun i hi => ⟨h.l.hi i hi, fun x hx => (by
    have ht := hF.g.link i hi x hx
    have := h2 i hi x hx
    try dsimp only
    rw [h1 i hi, h1 _ (by omega)]
    exact this)⟩)
  intro j hj
  have e1 := hm j hj
  have e2 := h.l.lo j hj
  have e3 := h.l.sh j hj
  have e4 := (latS_shape P b (ord P) j).1
  exact Prod.ext (by omega) (by rw [e3, e4]; omega)
/-- all as late as could be, as cells -/
def zS (P : List Tk) (b : Int) : Nat → List Value
  | 0 => []
  | m + 1 => zS P b m ++ [.int .i64 (b - (tk P m).len), .int .i64 b]
theorem zS_len (P : List Tk) (b : Int) : ∀ m, (zS P b m).length = m * 2
  | 0 => rfl
  | m + 1 => by rw [zS, List.length_append, zS_len P b m]; simp; omega
theorem zS_at (P : List Tk) (b : Int) : ∀ m t, t < m → (zS P b m)[t * 2]? = some (.int .i64 (b - (tk P t).len)) ∧ (zS P b m)[t * 2 + 1]? = some (.int .i64 b)
  | m + 1, t, ht => by
    have hl := zS_len P b m
    rw [zS]
    by_cases e : t = m
    · subst e
      rw [List.getElem?_append_right (by omega), List.getElem?_append_right (by omega), hl]
      simp
    · rw [List.getElem?_append_left (by omega), List.getElem?_append_left (by omega)]
      exact zS_at P b m t (by omega)
theorem own_sp {P : List Tk} {b : Int} {X : World} {base n : Nat} {v : Value} (h : X.ownsRow base 37 2 v n (zS P b n)) (hn : 0 < n) : ∃ q cap, v = .slice (some ⟨q, 0, none⟩) n cap ∧ base ≤ q ∧ SpR q n (latI P b) X := by
  rcases h.2 with ⟨_, e⟩ | ⟨g, cap, cur, rfl, hb, hg, _, _, _, ht⟩
  · omega
  · refine ⟨g, cap, rfl, hb, cur, hg, fun t htn => ?_⟩
    have hz := zS_at P b n t htn
    have hc : ∀ a, a < n * 2 → cur[a]? = (zS P b n)[a]? := fun a ha => by
      rw [← ht, List.getElem?_take, if_pos (by omega), Array.getElem?_toList]
    rw [hc _ (by omega), hc _ (by omega), hz.1, hz.2]
    unfold latI plc
    exact ⟨rfl, by dsimp only; congr 2; omega⟩
theorem own_zero {X : World} {base sz : Nat} {ty : TypeId} {v : Value} {xs : List Value} (h : X.ownsRow base ty sz v 0 xs) : ∃ a c, v = .slice a 0 c := by
  rcases h.2 with ⟨rfl, _⟩ | ⟨g, cap, cur, rfl, _⟩
  · exact ⟨_, _, rfl⟩
  · exact ⟨_, _, rfl⟩
theorem cell_two_new (w : World) (x y : Value) (t : TypeId) : ∀ j u, [x, y][j]? = some u → (w.alloc (.cells #[x, y] t)).cell? ((⟨w.heap.size, 0, none⟩ : Addr).add j) = some u := fun j u hu => by
  rcases j with _ | _ | j
  · simp at hu; subst hu; simp [Addr.add]
  · simp at hu; subst hu; simp [Addr.add]
  · simp at hu
/-- what stands about a link -/
structure LrS (w : World) (q n : Nat) (s : Sp) (z1 : Nat) (t : Nat) (k g : Int) (X : World) : Prop where
  l0 : X.cell? ⟨z1, 0, none⟩ = some (.int .i64 (t : Int))
  l1 : X.cell? ⟨z1, 1, none⟩ = some (.int .i64 k)
  l2 : X.cell? ⟨z1, 2, none⟩ = some (.int .i64 g)
  sp : SpR q n s X
  b : Below w.heap.size w X
theorem LrS.step {w : World} {q n : Nat} {s : Sp} {z1 t : Nat} {k g : Int} {X X' : World} (h : LrS w q n s z1 t k g X) (hb : Below X.heap.size X X') : LrS w q n s z1 t k g X' :=
  have e {p : Addr} {v : Value} (e : X.cell? p = some v) : X'.cell? p = some v := (hb.cell (World.block_lt_of_cell? X _ e)).trans e
  ⟨e h.l0, e h.l1, e h.l2, h.sp.step hb, h.b.trans (hb.mono h.b.size)⟩
/-- spans in a slice -/
def SsAt (W : World) (v : Value) (n : Nat) (s : Sp) : Prop := ∃ ad c, v = .slice ad n c ∧ ∀ t, t < n → ∃ q, ad = some ⟨q, 0, none⟩ ∧ W.cell? ⟨q, t * 2, none⟩ = some (.int .i64 (s t).1) ∧ W.cell? ⟨q, t * 2 + 1, none⟩ = some (.int .i64 (s t).2)
theorem SsAt.below {W W' : World} {v : Value} {n : Nat} {s : Sp} (h : SsAt W v n s) (hb : Below W.heap.size W W') : SsAt W' v n s := by
  obtain ⟨ad, c, rfl, h⟩ := h
  exact ⟨ad, c, rfl, fun t ht => let ⟨q, e, h1, h2⟩ := h t ht; ⟨q, e, (hb.cell (World.block_lt_of_cell? W _ h1)).trans h1, (hb.cell (World.block_lt_of_cell? W _ h2)).trans h2⟩⟩
theorem SpR.ss {q n c : Nat} {s : Sp} {W : World} (h : SpR q n s W) : SsAt W (.slice (some ⟨q, 0, none⟩) n c) n s := ⟨_, c, rfl, fun t ht => ⟨q, rfl, h.at t ht⟩⟩
theorem ss_nil (W : World) (s : Sp) : SsAt W (.slice none 0 0) 0 s := ⟨none, 0, rfl, fun t ht => absurd ht (Nat.not_lt_zero _)⟩
set_option maxRecDepth 100000 in
set_option maxHeartbeats 16000000 in
theorem rlate_yes (P : List Tk) (b : Int) (v : Value) (w : World) (hv : TsAt w v P) (hk : chkP P = 0) (hb1 : ¬ b < eN P) (hb2 : ¬ 1099511627776 < b) :
    Calls Tryd.prog 14 #[v, .int .i64 b] w fun e w' => ∃ u, e = .returned (.tuple #[u, .int .i64 0]) ∧ SsAt w' u P.length (lS P b) ∧ Below w.heap.size w w' := by
  have KE := hide (rend_any P v w hv)
  have HV := hide hv
  obtain ⟨ad, cap, rfl, hall⟩ := hv
  have HALL := hide hall
  have en : eNv P = eN P := by unfold eNv; rw [if_pos hk]
  have hge := (endS_ge (eS P) P.length).1
  have hb0 : 0 ≤ b := by have : eN P = endS P.length (eS P) := rfl; omega
  have hG := (chk_good hk).1
  have h60 := hG.n60
  have HG := hide hG
  rw [hk, en] at KE
  have hlS : lS P b = latS P b (ord P) := rfl
  have HLS := hide hlS
  obtain ⟨i0, hi0, hz0, hz01, hz2⟩ := info_parts span_info
  clear hall hG en hge hlS
  generalize eN P = N at *
  go_enter Tryd.func14, Tryd.ntmps14
  go_wp2_with (go_at_call 11; refine KE.out.mono ?_; rintro e W1 ⟨rfl, hf, b1⟩; have HB1 := hide b1; have HF : Hid (Fit P) := (by first | exact hf rfl | exact hf trivial | exact hf); clear hf b1)
  go_loopw [8, 9] (fun rv j wr => ∃ m : Nat, m ≤ P.length ∧ j = .int .i64 m ∧ wr.ownsRow W1.heap.size 37 2 rv m (zS P b m) ∧ Below W1.heap.size W1 wr) (fun _ j _ => P.length - (intOf j).toNat)
  case atStart => exact ⟨0, by omega, rfl, World.ownsRow_nil _ _ _ _, Below.refl _ _⟩
  case round =>
    obtain ⟨m, hm, rfl, hown, hB1⟩ := hrel
    have hB : Below w.heap.size w wr := HB1.out.trans (hB1.mono HB1.out.size)
    have hbz := hB1.size
    by_cases hlt : m < P.length
    · have hmi : (m : Int) < (P.length : Int) := by omega
      obtain ⟨g, o, lv, uv, rfl, y0, y1, y2, y3, hls, hus⟩ := HALL.out m hlt
      have x0 := (hB.cell (World.block_lt_of_cell? w _ y0)).trans y0
      have hlen := HG.out.len m hlt
      have hnx : zS P b (m + 1) = zS P b m ++ [.int .i64 (b - (tk P m).len), .int .i64 b] := rfl
      have hwl := HB1.out.size
      have HB := hide hB
      have hzl := zS_len P b m
      clear y0 y1 y2 y3 hls hus hB
      generalize zS P b m = zs at *
      generalize (tk P m).len = tl at *
      have hcn := cell_two_new wr (.int .i64 (b - tl)) (.int .i64 b) 37
      have hwr := wrap64_id (x := b - tl) (by omega) (by omega)
      go_wp2_with (at_builtin; refine wpList_append_own _ rfl _ _ 23 rfl W1.heap.size 37 i0 (.agg #[.int .i64 0, .int .i64 0]) 2 16 Tryd.underlying23 hi0 hz0 hz01 hz2 rfl (by decide) _ _ _ rfl (hown.alloc (.cells #[.int .i64 (b - tl), .int .i64 b] 37)) ⟨wr.heap.size, 0, none⟩ 1 1 [.int .i64 (b - tl), .int .i64 b] rfl rfl hcn (fun u hu => by simp at hu; rcases hu with rfl | rfl <;> rfl) (by unfold maxLen; omega) (by omega) (by simp; omega) ?_; intro v' w1 hown1 hgrow1 hnil1)
      have hr1 := hown.alloc (.cells #[.int .i64 (b - tl), .int .i64 b] 37)
      have hbn : Below W1.heap.size W1 w1 := (hB1.alloc hbz _).grown hgrow1 (by simp; omega) (fun j hj => (hr1.lt j hj).1)
      go_roundw
      case rel => exact ⟨m + 1, by omega, by go_num, by rw [hnx]; exact hown1, hbn⟩
      case measure => simp [intOf]; omega
    · obtain rfl : m = P.length := by omega
      have HOW := hide hown
      have HB := hide hB
      clear hB
      by_cases hn : P.length = 0
      · obtain rfl : P = [] := List.eq_nil_of_length_eq_zero hn
        obtain ⟨ra, rc, rfl⟩ := own_zero hown
        clear hown HOW
        simp only [List.length_nil] at *
        go_wp2_with fail
        go_loopw [10] (fun av wx => ∃ a : Bool, av = .bool a ∧ Below w.heap.size w wx) (fun av _ => boV av)
        case atStart => exact ⟨true, rfl, HB.out⟩
        case round =>
          clear HB
          obtain ⟨a, rfl, hB⟩ := hrel
          have HB := hide hB
          clear hB
          cases a with
          | true =>
            go_wp2_with fail
            go_loopw [10, 11] (fun av j wx => av = .bool false ∧ j = .int .i64 0 ∧ Below w.heap.size w wx) (fun _ _ _ => 0)
            case atStart => exact ⟨rfl, rfl, HB.out⟩
            case round =>
              clear HB
              obtain ⟨rfl, rfl, hB⟩ := hrel
              have HB := hide hB
              clear hB
              go_wp2_with fail
              exact ⟨⟨false, rfl, HB.out⟩, by show (0 : Nat) < 1; omega⟩
          | false =>
            go_wp2_with fail
            go_ret2
            exact ⟨_, rfl, ⟨ra, rc, rfl, fun t ht => absurd ht (Nat.not_lt_zero _)⟩, HB.out⟩
      · obtain ⟨q, cq, rfl, hqb, hsp⟩ := own_sp hown (by omega)
        have hL0 := Lti.start P b (ord P)
        have hqw : w.heap.size ≤ q := Nat.le_trans HB1.out.size hqb
        have HS := hide (And.intro hsp hL0)
        have hlo : ∀ j, j < P.length → b - 121000000 ≤ (latS P b (ord P) j).1 := fun j hj => (by
          have h1 := latF_bd HG.out (b - 1000000) (ord P).reverse (latI P b) (fun i hi => HF.out.t.lt i (List.mem_reverse.1 hi)) (fun j => (by have := latI_lb HG.out b j; exact this.1)) j
          have h2 := HF.out.t.le
          rw [List.length_reverse] at h1
          unfold latS
          omega)
        have HLO := hide hlo
        clear hown hsp hL0 hlo HOW
        go_wp2_with fail
        go_loopw [10] (fun av wr => ∃ (s : Sp) (a : Bool), av = .bool a ∧ Lti P b (latS P b (ord P)) s ∧ SpR q P.length s wr ∧ Below w.heap.size w wr ∧ (a = false → ∀ j, j < P.length → s j = latS P b (ord P) j)) (fun av wr => 2 * (sumW q wr P.length - sumS (latS P b (ord P)) P.length).toNat + boV av)
        case atStart => exact ⟨_, true, rfl, HS.out.2, HS.out.1, HB.out, fun h => by cases h⟩
        case round =>
          clear HS HB
          obtain ⟨s0, a, rfl, hl0, hs0, hB, hfin⟩ := hrel
          cases a with
          | false =>
            have hsf := hs0.congr (s' := latS P b (ord P)) (fun u hu => (hfin rfl u hu).symm)
            have HSF := hide hsf
            have HB := hide hB
            clear hsf hs0 hB hl0 hfin
            go_wp2_with fail
            go_ret2
            exact ⟨_, rfl, by rw [HLS.out]; exact HSF.out.ss, HB.out⟩
          | true =>
            clear hfin
            have hm0 := sumW_eq hs0.at P.length (Nat.le_refl _)
            have HM0 := hide hm0
            have HL0 := hide hl0
            have HS0 := hide hs0
            have HB := hide hB
            clear hl0 hs0 hB hm0
            go_wp2_with fail
            go_loopw [10, 11] (fun av j wr => ∃ (m : Nat) (s : Sp) (a : Bool), m ≤ P.length ∧ j = .int .i64 m ∧ av = .bool a ∧ Pass P b s0 m 0 s a ∧ SpR q P.length s wr ∧ Below w.heap.size w wr) (fun _ j _ => P.length - (intOf j).toNat)
            case atStart => exact ⟨0, s0, false, by omega, rfl, rfl, Pass.start HL0.out, HS0.out, HB.out⟩
            case round =>
              clear HS0 HB
              obtain ⟨m, s, a, hm, rfl, rfl, hp, hs, hB⟩ := hrel
              by_cases hlt : m < P.length
              · have hmi : (m : Int) < (P.length : Int) := by omega
                obtain ⟨g, o, lv, uv, rfl, y0, y1, y2, y3, hls, hus⟩ := HALL.out m hlt
                obtain ⟨la, lc, rfl, hlx⟩ := hls
                have x2 := (hB.cell (World.block_lt_of_cell? w _ y2)).trans y2
                have hcn := (HG.out.cnt m hlt).1
                have HLX := hide hlx
                have HP := hide hp
                have HS := hide hs
                have HB := hide hB
                clear y0 y1 y2 y3 hus hlx hp hs hB
                go_wp2_with fail
                go_loopw [10, 62] (fun av j wr => ∃ (k : Nat) (s : Sp) (a : Bool), k ≤ (tk P m).links.length ∧ j = .int .i64 k ∧ av = .bool a ∧ Pass P b s0 m k s a ∧ SpR q P.length s wr ∧ Below w.heap.size w wr) (fun _ j _ => (tk P m).links.length - (intOf j).toNat)
                case atStart => exact ⟨0, s, a, by omega, rfl, rfl, HP.out, HS.out, HB.out⟩
                case round =>
                  clear HP HS HB x2
                  obtain ⟨k, s, a, hk, rfl, rfl, hp, hs, hB⟩ := hrel
                  by_cases hkl : k < (tk P m).links.length
                  · have hki : (k : Int) < ((tk P m).links.length : Int) := by omega
                    obtain ⟨g1, o1, rfl, z0, z1, z2⟩ := HLX.out k hkl
                    have x0 := (hB.cell (World.block_lt_of_cell? w _ z0)).trans z0
                    have x1 := (hB.cell (World.block_lt_of_cell? w _ z1)).trans z1
                    have x2 := (hB.cell (World.block_lt_of_cell? w _ z2)).trans z2
                    have hxm := lk_mem _ k hkl
                    have hx := HG.out.link m hlt _ hxm
                    have hgpb := HG.out.gp m hlt _ hxm
                    have hhold := hp.hold HG.out hlt hkl
                    have hpush := hp.push HF.out hlt hkl
                    have hgp : gp P m (lk (tk P m).links k) = (lk (tk P m).links k).gap (tk P m).len (tk P (lk (tk P m).links k).t.toNat).len := rfl
                    generalize lk (tk P m).links k = x at *
                    obtain ⟨xt, xk, xg⟩ := x
                    dsimp only at hx x0 x1 x2 hhold hpush hgp
                    obtain ⟨t, rfl⟩ : ∃ t : Nat, xt = (t : Int) := ⟨xt.toNat, by omega⟩
                    rw [Int.toNat_natCast] at hhold hpush hgp
                    have htn : t < P.length := by omega
                    have hti : (t : Int) < (P.length : Int) := by omega
                    have hlm := HG.out.len m hlt
                    have hlt2 := HG.out.len t htn
                    have bm := HLO.out m hlt
                    have bt := HLO.out t htn
                    have cm := hp.l.lo m hlt
                    have ct := hp.l.lo t htn
                    have dm := hp.l.hi m hlt
                    have dt := hp.l.hi t htn
                    have em := hp.l.sh m hlt
                    have et := hp.l.sh t htn
                    have hBn := hB.alloc hB.size (.cells #[.int .i64 (t : Int), .int .i64 xk, .int .i64 xg] 47)
                    have hNn := (Below.refl _ wr).alloc (Nat.le_refl _) (.cells #[.int .i64 (t : Int), .int .i64 xk, .int .i64 xg] 47)
                    have hS : LrS w q P.length s wr.heap.size t xk xg ((wr.alloc (.cells #[.int .i64 (t : Int), .int .i64 xk, .int .i64 xg] 47)).drew) :=
                      LrS.step (X := wr.alloc (.cells #[.int .i64 (t : Int), .int .i64 xk, .int .i64 xg] 47)) ⟨by simp, by simp, by simp, hs.step hNn, hBn⟩ (Below.drew (Below.refl _ _))
                    have hqz : q < wr.heap.size := hs.lt
                    have hpl : ∀ y, plc P t y = (y, y + (tk P t).len) := fun y => rfl
                    have HH := hide (And.intro hhold hpush)
                    have HPL := hide hpl
                    clear z0 z1 z2 hp hs hB hBn hNn hhold hpush hpl hxm
                    go_wp2_with fail
                    clear x0 x1 x2
                    generalize wr.alloc (.cells #[.int .i64 (t : Int), .int .i64 xk, .int .i64 xg] 47) = W5 at *
                    generalize hzz : wr.heap.size = zz at *
                    generalize ha : (s m).1 = a1 at *
                    generalize hc : (s t).1 = c1 at *
                    generalize (tk P m).len = lm at *
                    generalize hlt' : (tk P t).len = lt at *
                    have KH := hide (fun W => rholds_any (t : Int) xk xg a1 c1 lm lt W ⟨hx.2.2.1, hx.2.2.2.1⟩ ⟨hx.2.2.2.2.1, hx.2.2.2.2.2.1⟩ (by omega) (by omega) hlm hlt2)
                    rw [← hgp] at KH
                    generalize hgg : gp P m ⟨(t : Int), xk, xg⟩ = gg at *
                    refine wp_region_noPanic ?_
                    refine wp_region_linGM (S := fun X => LrS w q P.length s zz t xk xg X) (R := fun _ => True) [] (by kernel_rfl) (by kernel_rfl) [(0, none, 0), (1, none, 1), (2, none, 1), (3, none, 1), (4, none, 0), (5, none, 1), (6, none, 1), (7, none, 0), (8, none, 1), (9, none, 0), (10, none, 2)] (by kernel_rfl) (by kernel_rfl) (fun _ _ _ _ _ h => h) (by exact trivial) (by exact hS) (fun ops' Q' hops hQ' => ?_)
                    refine wpLinG_read (o := { dst := some 66, op := Go.Op.load 47 (Go.Operand.tmp 13), type := 47, pos := "plan.go:148", after := #[], guard := none }) (v := ?vx0) (by rw [hops]; rfl) (by first | exact trivial | rfl) hS ?ex0 ?hx0
                    case ex0 => intro w' hw'; obtain ⟨l0, l1, l2, hsp, _⟩ := hw'; have s0 := (hsp.at m hlt).1; have s1 := (hsp.at m hlt).2; have t0 := (hsp.at t htn).1; have t1 := (hsp.at t htn).2; rw [ha] at s0; rw [em] at s1; rw [hc] at t0; rw [et] at t1; go_simp; (try rfl)
                    (try simp only [Act.put, List.setIfInBounds_toArray, List.set_cons_zero, List.set_cons_succ])
                    refine wpLinG_pure (o := { dst := some 67, op := Go.Op.move (Go.Operand.tmp 8), type := 23, pos := "plan.go:148", after := #[], guard := none }) (v := ?vx1) (by rw [hops]; rfl) (by first | exact trivial | rfl) ?ex1 ?hx1
                    case ex1 => intro w'; go_simp; (try rfl)
                    (try simp only [Act.put, List.setIfInBounds_toArray, List.set_cons_zero, List.set_cons_succ])
                    refine wpLinG_pure (o := { dst := some 68, op := Go.Op.move (Go.Operand.tmp 11), type := 3, pos := "plan.go:148", after := #[], guard := none }) (v := ?vx2) (by rw [hops]; rfl) (by first | exact trivial | rfl) ?ex2 ?hx2
                    case ex2 => intro w'; go_simp; (try rfl)
                    (try simp only [Act.put, List.setIfInBounds_toArray, List.set_cons_zero, List.set_cons_succ])
                    refine wpLinG_pure (o := { dst := some 69, op := Go.Op.indexAddr 23 (Go.Operand.tmp 67) (Go.Operand.tmp 68), type := 0, pos := "plan.go:148", after := #[{ on := 1, ground := Go.Ground.data }, { on := 2, ground := Go.Ground.data }], guard := none }) (v := ?vx3) (by rw [hops]; rfl) (by first | exact trivial | rfl) ?ex3 ?hx3
                    case ex3 => intro w'; go_simp; (try rfl)
                    (try simp only [Act.put, List.setIfInBounds_toArray, List.set_cons_zero, List.set_cons_succ])
                    refine wpLinG_read (o := { dst := some 70, op := Go.Op.load 37 (Go.Operand.tmp 69), type := 37, pos := "plan.go:148", after := #[{ on := 3, ground := Go.Ground.data }], guard := none }) (v := ?vx4) (by rw [hops]; rfl) (by first | exact trivial | rfl) hS ?ex4 ?hx4
                    case ex4 => intro w' hw'; obtain ⟨l0, l1, l2, hsp, _⟩ := hw'; have s0 := (hsp.at m hlt).1; have s1 := (hsp.at m hlt).2; have t0 := (hsp.at t htn).1; have t1 := (hsp.at t htn).2; rw [ha] at s0; rw [em] at s1; rw [hc] at t0; rw [et] at t1; go_simp; (try rfl)
                    (try simp only [Act.put, List.setIfInBounds_toArray, List.set_cons_zero, List.set_cons_succ])
                    refine wpLinG_pure (o := { dst := some 71, op := Go.Op.move (Go.Operand.tmp 8), type := 23, pos := "plan.go:148", after := #[], guard := none }) (v := ?vx5) (by rw [hops]; rfl) (by first | exact trivial | rfl) ?ex5 ?hx5
                    case ex5 => intro w'; go_simp; (try rfl)
                    (try simp only [Act.put, List.setIfInBounds_toArray, List.set_cons_zero, List.set_cons_succ])
                    refine wpLinG_pure (o := { dst := some 72, op := Go.Op.fieldAddr 47 (Go.Operand.tmp 13) 0, type := 0, pos := "plan.go:148", after := #[], guard := none }) (v := ?vx6) (by rw [hops]; rfl) (by first | exact trivial | rfl) ?ex6 ?hx6
                    case ex6 => intro w'; go_simp; (try rfl)
                    (try simp only [Act.put, List.setIfInBounds_toArray, List.set_cons_zero, List.set_cons_succ])
                    refine wpLinG_read (o := { dst := some 73, op := Go.Op.load 3 (Go.Operand.tmp 72), type := 3, pos := "plan.go:148", after := #[{ on := 6, ground := Go.Ground.data }], guard := none }) (v := ?vx7) (by rw [hops]; rfl) (by first | exact trivial | rfl) hS ?ex7 ?hx7
                    case ex7 => intro w' hw'; obtain ⟨l0, l1, l2, hsp, _⟩ := hw'; have s0 := (hsp.at m hlt).1; have s1 := (hsp.at m hlt).2; have t0 := (hsp.at t htn).1; have t1 := (hsp.at t htn).2; rw [ha] at s0; rw [em] at s1; rw [hc] at t0; rw [et] at t1; go_simp; (try rfl)
                    (try simp only [Act.put, List.setIfInBounds_toArray, List.set_cons_zero, List.set_cons_succ])
                    refine wpLinG_pure (o := { dst := some 74, op := Go.Op.indexAddr 23 (Go.Operand.tmp 71) (Go.Operand.tmp 73), type := 0, pos := "plan.go:148", after := #[{ on := 5, ground := Go.Ground.data }, { on := 7, ground := Go.Ground.data }], guard := none }) (v := ?vx8) (by rw [hops]; rfl) (by first | exact trivial | rfl) ?ex8 ?hx8
                    case ex8 => intro w'; go_simp; (try rfl)
                    (try simp only [Act.put, List.setIfInBounds_toArray, List.set_cons_zero, List.set_cons_succ])
                    refine wpLinG_read (o := { dst := some 75, op := Go.Op.load 37 (Go.Operand.tmp 74), type := 37, pos := "plan.go:148", after := #[{ on := 8, ground := Go.Ground.data }], guard := none }) (v := ?vx9) (by rw [hops]; rfl) (by first | exact trivial | rfl) hS ?ex9 ?hx9
                    case ex9 => intro w' hw'; obtain ⟨l0, l1, l2, hsp, _⟩ := hw'; have s0 := (hsp.at m hlt).1; have s1 := (hsp.at m hlt).2; have t0 := (hsp.at t htn).1; have t1 := (hsp.at t htn).2; rw [ha] at s0; rw [em] at s1; rw [hc] at t0; rw [et] at t1; go_simp; (try rfl)
                    (try simp only [Act.put, List.setIfInBounds_toArray, List.set_cons_zero, List.set_cons_succ])
                    refine wpLinG_do (o := { dst := some 76, op := Go.Op.call { callee := Go.Callee.value (Go.Operand.func 33), args := #[Go.Operand.tmp 66, Go.Operand.tmp 70, Go.Operand.tmp 75], argTypes := #[47, 37, 37] }, type := 4, pos := "plan.go:148", after := #[{ on := 0, ground := Go.Ground.data }, { on := 4, ground := Go.Ground.data }, { on := 9, ground := Go.Ground.data }], guard := none }) (by rw [hops]; rfl) (by first | exact trivial | rfl) (fun K hK => ?_)
                    go_simp
                    refine (KH.out _).mono ?_
                    rintro e X ⟨rfl, hb⟩
                    replace hS := hS.step hb
                    clear hb
                    refine hK _ _ trivial hS ?_
                    clear hK K
                    (try simp only [Act.put, List.setIfInBounds_toArray, List.set_cons_zero, List.set_cons_succ])
                    subst hQ'
                    refine NoPanic.normal ?_
                    clear hops
                    by_cases hh : c1 + gg ≤ a1
                    · have d1 : decide (c1 + gg ≤ a1) = true := decide_eq_true hh
                      have hpn := HH.out.1 hh
                      have HS2 := hide (And.intro hS.sp hS.b)
                      clear hS
                      go_wp2_with fail
                      go_roundw
                      case rel => exact ⟨k + 1, s, a, by omega, by go_num, rfl, hpn, HS2.out.1, HS2.out.2⟩
                      case measure => simp [intOf]; omega
                    · have d1 : decide (c1 + gg ≤ a1) = false := decide_eq_false hh
                      have hpn := HH.out.2 (by first | exact hh | omega)
                      rw [HPL.out] at hpn
                      have HPN := hide hpn
                      clear hpn HH
                      unfold Lk.gap at hgp
                      dsimp only at hgp
                      have l0 := hS.l0
                      have l1 := hS.l1
                      have l2 := hS.l2
                      have s0 := (hS.sp.at m hlt).1
                      have s1 := (hS.sp.at m hlt).2
                      have t0 := (hS.sp.at t htn).1
                      have t1 := (hS.sp.at t htn).2
                      rw [ha] at s0; rw [em] at s1; rw [hc] at t0; rw [et] at t1
                      have e1 := wrap64_id (x := c1 + lt + xg) (by omega) (by omega)
                      have e2 := wrap64_id (x := c1 + xg) (by omega) (by omega)
                      have f1 := i64_id (x := c1 + lt + xg) (by omega) (by omega)
                      have f2 := i64_id (x := c1 + xg) (by omega) (by omega)
                      have hzX : zz < X.heap.size := World.block_lt_of_cell? X _ l0
                      have hqX : q < X.heap.size := World.block_lt_of_cell? X _ s0
                      have hzq : zz ≠ q := by omega
                      have hk4 : xk = 1 ∨ xk = 2 ∨ xk = 3 ∨ xk = 4 := by omega
                      rcases hk4 with rfl | rfl | rfl | rfl
                      · rw [if_pos (by decide), if_neg (by decide)] at hgp
                        have e3 := wrap64_id (x := c1 + lt + xg - a1) (by omega) (by omega)
                        have f3 := i64_id (x := c1 + lt + xg - a1) (by omega) (by omega)
                        have HNN := hide (show c1 + lt + xg - a1 = c1 + gg - a1 by omega)
                        clear hgp
                        go_wp2_with fail
                        go_quiet (fail)
                        go_wp2_with fail
                        generalize hne : c1 + lt + xg - a1 = nn at *
                        have hS0 := hS.step (bdr (Below.refl X.heap.size X) nq)
                        clear l0 l1 l2 s0 s1 t0 t1 hS e1 e2 e3 f1 f2 f3 hne
                        generalize X.drewN nq = Y at *
                        have hS := hS0.step (Below.drew (Below.refl _ _))
                        have hR := hS.l0
                        have hnn : nn = c1 + gg - a1 := HNN.out
                        have f4 := i64_id (x := c1 - nn) (by omega) (by omega)
                        have f5 := i64_id (x := c1 + lt - nn) (by omega) (by omega)
                        clear hnn
                        refine wp_region_noPanic ?_
                        refine wp_region_linGM (S := fun X => LrS w q P.length s zz t 1 xg X) (R := fun X => X.cell? ⟨zz, 0, none⟩ = some (.int .i64 (t : Int))) [24, 27] (by kernel_rfl) (by kernel_rfl) [(0, none, 1), (1, none, 1), (2, none, 4), (3, none, 1), (4, none, 1), (5, none, 4), (6, none, 1), (7, none, 1), (8, none, 4), (9, none, 1), (10, none, 1), (11, none, 0), (12, none, 1), (13, none, 1), (14, none, 1), (15, none, 1), (16, none, 4), (17, none, 1), (18, none, 1), (19, none, 0), (20, none, 1), (21, none, 1), (22, none, 1), (23, none, 1), (24, none, 3), (25, none, 1), (26, none, 1), (27, none, 3)] (by kernel_rfl) (by kernel_rfl) (fun _ _ _ _ _ h => h) (by exact hR) (by exact hS) (fun ops' Q' hops hQ' => ?_)
                        refine wpLinG_pure (o := { dst := some 145, op := Go.Op.move (Go.Operand.tmp 8), type := 23, pos := "plan.go:162", after := #[], guard := none }) (v := ?vy00) (by rw [hops]; rfl) (by first | exact trivial | rfl) ?ey00 ?hy00
                        case ey00 => intro w'; go_simp; (try rfl)
                        (try simp only [Act.put, List.setIfInBounds_toArray, List.set_cons_zero, List.set_cons_succ])
                        refine wpLinG_pure (o := { dst := some 146, op := Go.Op.fieldAddr 47 (Go.Operand.tmp 13) 0, type := 0, pos := "plan.go:162", after := #[], guard := none }) (v := ?vy01) (by rw [hops]; rfl) (by first | exact trivial | rfl) ?ey01 ?hy01
                        case ey01 => intro w'; go_simp; (try rfl)
                        (try simp only [Act.put, List.setIfInBounds_toArray, List.set_cons_zero, List.set_cons_succ])
                        refine wpLinG_look (o := { dst := some 147, op := Go.Op.load 3 (Go.Operand.tmp 146), type := 3, pos := "plan.go:162", after := #[{ on := 1, ground := Go.Ground.data }], guard := none }) (v := ?vy02) (by rw [hops]; rfl) (by first | exact trivial | rfl) hR ?ey02 ?hy02
                        case ey02 => intro w' hw'; have l0 := hw'; go_simp; (try rfl)
                        (try simp only [Act.put, List.setIfInBounds_toArray, List.set_cons_zero, List.set_cons_succ])
                        refine wpLinG_pure (o := { dst := some 148, op := Go.Op.move (Go.Operand.tmp 8), type := 23, pos := "plan.go:162", after := #[{ on := 24, ground := Go.Ground.gcOnly Go.Departure.lateStores }], guard := none }) (v := ?vy03) (by rw [hops]; rfl) (by first | exact trivial | rfl) ?ey03 ?hy03
                        case ey03 => intro w'; go_simp; (try rfl)
                        (try simp only [Act.put, List.setIfInBounds_toArray, List.set_cons_zero, List.set_cons_succ])
                        refine wpLinG_pure (o := { dst := some 149, op := Go.Op.fieldAddr 47 (Go.Operand.tmp 13) 0, type := 0, pos := "plan.go:162", after := #[{ on := 24, ground := Go.Ground.gcOnly Go.Departure.lateStores }], guard := none }) (v := ?vy04) (by rw [hops]; rfl) (by first | exact trivial | rfl) ?ey04 ?hy04
                        case ey04 => intro w'; go_simp; (try rfl)
                        (try simp only [Act.put, List.setIfInBounds_toArray, List.set_cons_zero, List.set_cons_succ])
                        refine wpLinG_look (o := { dst := some 150, op := Go.Op.load 3 (Go.Operand.tmp 149), type := 3, pos := "plan.go:162", after := #[{ on := 4, ground := Go.Ground.data }, { on := 24, ground := Go.Ground.gcOnly Go.Departure.lateStores }], guard := none }) (v := ?vy05) (by rw [hops]; rfl) (by first | exact trivial | rfl) hR ?ey05 ?hy05
                        case ey05 => intro w' hw'; have l0 := hw'; go_simp; (try rfl)
                        (try simp only [Act.put, List.setIfInBounds_toArray, List.set_cons_zero, List.set_cons_succ])
                        refine wpLinG_pure (o := { dst := some 151, op := Go.Op.move (Go.Operand.tmp 8), type := 23, pos := "plan.go:162", after := #[], guard := none }) (v := ?vy06) (by rw [hops]; rfl) (by first | exact trivial | rfl) ?ey06 ?hy06
                        case ey06 => intro w'; go_simp; (try rfl)
                        (try simp only [Act.put, List.setIfInBounds_toArray, List.set_cons_zero, List.set_cons_succ])
                        refine wpLinG_pure (o := { dst := some 152, op := Go.Op.fieldAddr 47 (Go.Operand.tmp 13) 0, type := 0, pos := "plan.go:162", after := #[], guard := none }) (v := ?vy07) (by rw [hops]; rfl) (by first | exact trivial | rfl) ?ey07 ?hy07
                        case ey07 => intro w'; go_simp; (try rfl)
                        (try simp only [Act.put, List.setIfInBounds_toArray, List.set_cons_zero, List.set_cons_succ])
                        refine wpLinG_look (o := { dst := some 153, op := Go.Op.load 3 (Go.Operand.tmp 152), type := 3, pos := "plan.go:162", after := #[{ on := 7, ground := Go.Ground.data }], guard := none }) (v := ?vy08) (by rw [hops]; rfl) (by first | exact trivial | rfl) hR ?ey08 ?hy08
                        case ey08 => intro w' hw'; have l0 := hw'; go_simp; (try rfl)
                        (try simp only [Act.put, List.setIfInBounds_toArray, List.set_cons_zero, List.set_cons_succ])
                        refine wpLinG_pure (o := { dst := some 154, op := Go.Op.indexAddr 23 (Go.Operand.tmp 151) (Go.Operand.tmp 153), type := 0, pos := "plan.go:162", after := #[{ on := 6, ground := Go.Ground.data }, { on := 8, ground := Go.Ground.data }], guard := none }) (v := ?vy09) (by rw [hops]; rfl) (by first | exact trivial | rfl) ?ey09 ?hy09
                        case ey09 => intro w'; go_simp; (try rfl)
                        (try simp only [Act.put, List.setIfInBounds_toArray, List.set_cons_zero, List.set_cons_succ])
                        refine wpLinG_pure (o := { dst := some 155, op := Go.Op.fieldAddr 37 (Go.Operand.tmp 154) 0, type := 0, pos := "plan.go:162", after := #[{ on := 9, ground := Go.Ground.data }], guard := none }) (v := ?vy010) (by rw [hops]; rfl) (by first | exact trivial | rfl) ?ey010 ?hy010
                        case ey010 => intro w'; go_simp; (try rfl)
                        (try simp only [Act.put, List.setIfInBounds_toArray, List.set_cons_zero, List.set_cons_succ])
                        refine wpLinG_read (o := { dst := some 156, op := Go.Op.load 3 (Go.Operand.tmp 155), type := 3, pos := "plan.go:162", after := #[{ on := 10, ground := Go.Ground.data }], guard := none }) (v := ?vy011) (by rw [hops]; rfl) (by first | exact trivial | rfl) hS ?ey011 ?hy011
                        case ey011 => intro w' hw'; obtain ⟨l0, l1, l2, hsp, _⟩ := hw'; have t0 := (hsp.at t htn).1; have t1 := (hsp.at t htn).2; rw [hc] at t0; rw [et] at t1; go_simp; (try rfl)
                        (try simp only [Act.put, List.setIfInBounds_toArray, List.set_cons_zero, List.set_cons_succ])
                        refine wpLinG_pure (o := { dst := some 157, op := Go.Op.move (Go.Operand.tmp 14), type := 3, pos := "plan.go:162", after := #[], guard := none }) (v := ?vy012) (by rw [hops]; rfl) (by first | exact trivial | rfl) ?ey012 ?hy012
                        case ey012 => intro w'; go_simp; (try rfl)
                        (try simp only [Act.put, List.setIfInBounds_toArray, List.set_cons_zero, List.set_cons_succ])
                        refine wpLinG_pure (o := { dst := some 158, op := Go.Op.binOp Go.BinOp.sub 3 (Go.Operand.tmp 156) (Go.Operand.tmp 157) 3, type := 3, pos := "plan.go:162", after := #[{ on := 11, ground := Go.Ground.data }, { on := 12, ground := Go.Ground.data }], guard := none }) (v := ?vy013) (by rw [hops]; rfl) (by first | exact trivial | rfl) ?ey013 ?hy013
                        case ey013 => intro w'; go_simp; (try rfl)
                        (try simp only [Act.put, List.setIfInBounds_toArray, List.set_cons_zero, List.set_cons_succ])
                        refine wpLinG_pure (o := { dst := some 159, op := Go.Op.move (Go.Operand.tmp 8), type := 23, pos := "plan.go:162", after := #[], guard := none }) (v := ?vy014) (by rw [hops]; rfl) (by first | exact trivial | rfl) ?ey014 ?hy014
                        case ey014 => intro w'; go_simp; (try rfl)
                        (try simp only [Act.put, List.setIfInBounds_toArray, List.set_cons_zero, List.set_cons_succ])
                        refine wpLinG_pure (o := { dst := some 160, op := Go.Op.fieldAddr 47 (Go.Operand.tmp 13) 0, type := 0, pos := "plan.go:162", after := #[], guard := none }) (v := ?vy015) (by rw [hops]; rfl) (by first | exact trivial | rfl) ?ey015 ?hy015
                        case ey015 => intro w'; go_simp; (try rfl)
                        (try simp only [Act.put, List.setIfInBounds_toArray, List.set_cons_zero, List.set_cons_succ])
                        refine wpLinG_look (o := { dst := some 161, op := Go.Op.load 3 (Go.Operand.tmp 160), type := 3, pos := "plan.go:162", after := #[{ on := 15, ground := Go.Ground.data }], guard := none }) (v := ?vy016) (by rw [hops]; rfl) (by first | exact trivial | rfl) hR ?ey016 ?hy016
                        case ey016 => intro w' hw'; have l0 := hw'; go_simp; (try rfl)
                        (try simp only [Act.put, List.setIfInBounds_toArray, List.set_cons_zero, List.set_cons_succ])
                        refine wpLinG_pure (o := { dst := some 162, op := Go.Op.indexAddr 23 (Go.Operand.tmp 159) (Go.Operand.tmp 161), type := 0, pos := "plan.go:162", after := #[{ on := 14, ground := Go.Ground.data }, { on := 16, ground := Go.Ground.data }], guard := none }) (v := ?vy017) (by rw [hops]; rfl) (by first | exact trivial | rfl) ?ey017 ?hy017
                        case ey017 => intro w'; go_simp; (try rfl)
                        (try simp only [Act.put, List.setIfInBounds_toArray, List.set_cons_zero, List.set_cons_succ])
                        refine wpLinG_pure (o := { dst := some 163, op := Go.Op.fieldAddr 37 (Go.Operand.tmp 162) 1, type := 0, pos := "plan.go:162", after := #[{ on := 17, ground := Go.Ground.data }], guard := none }) (v := ?vy018) (by rw [hops]; rfl) (by first | exact trivial | rfl) ?ey018 ?hy018
                        case ey018 => intro w'; go_simp; (try rfl)
                        (try simp only [Act.put, List.setIfInBounds_toArray, List.set_cons_zero, List.set_cons_succ])
                        refine wpLinG_read (o := { dst := some 164, op := Go.Op.load 3 (Go.Operand.tmp 163), type := 3, pos := "plan.go:162", after := #[{ on := 18, ground := Go.Ground.data }], guard := none }) (v := ?vy019) (by rw [hops]; rfl) (by first | exact trivial | rfl) hS ?ey019 ?hy019
                        case ey019 => intro w' hw'; obtain ⟨l0, l1, l2, hsp, _⟩ := hw'; have t0 := (hsp.at t htn).1; have t1 := (hsp.at t htn).2; rw [hc] at t0; rw [et] at t1; go_simp; (try rfl)
                        (try simp only [Act.put, List.setIfInBounds_toArray, List.set_cons_zero, List.set_cons_succ])
                        refine wpLinG_pure (o := { dst := some 165, op := Go.Op.move (Go.Operand.tmp 14), type := 3, pos := "plan.go:162", after := #[], guard := none }) (v := ?vy020) (by rw [hops]; rfl) (by first | exact trivial | rfl) ?ey020 ?hy020
                        case ey020 => intro w'; go_simp; (try rfl)
                        (try simp only [Act.put, List.setIfInBounds_toArray, List.set_cons_zero, List.set_cons_succ])
                        refine wpLinG_pure (o := { dst := some 166, op := Go.Op.binOp Go.BinOp.sub 3 (Go.Operand.tmp 164) (Go.Operand.tmp 165) 3, type := 3, pos := "plan.go:162", after := #[{ on := 19, ground := Go.Ground.data }, { on := 20, ground := Go.Ground.data }], guard := none }) (v := ?vy021) (by rw [hops]; rfl) (by first | exact trivial | rfl) ?ey021 ?hy021
                        case ey021 => intro w'; go_simp; (try rfl)
                        (try simp only [Act.put, List.setIfInBounds_toArray, List.set_cons_zero, List.set_cons_succ])
                        refine wpLinG_pure (o := { dst := some 167, op := Go.Op.indexAddr 23 (Go.Operand.tmp 145) (Go.Operand.tmp 147), type := 0, pos := "plan.go:162", after := #[{ on := 0, ground := Go.Ground.data }, { on := 2, ground := Go.Ground.data }, { on := 0, ground := Go.Ground.phase }, { on := 1, ground := Go.Ground.phase }, { on := 2, ground := Go.Ground.phase }, { on := 3, ground := Go.Ground.textOnly Go.Departure.lateStores }, { on := 4, ground := Go.Ground.textOnly Go.Departure.lateStores }, { on := 5, ground := Go.Ground.textOnly Go.Departure.lateStores }, { on := 6, ground := Go.Ground.phase }, { on := 7, ground := Go.Ground.phase }, { on := 8, ground := Go.Ground.phase }, { on := 9, ground := Go.Ground.phase }, { on := 10, ground := Go.Ground.phase }, { on := 11, ground := Go.Ground.phase }, { on := 12, ground := Go.Ground.phase }, { on := 13, ground := Go.Ground.phase }, { on := 14, ground := Go.Ground.textOnly Go.Departure.lateStores }, { on := 15, ground := Go.Ground.textOnly Go.Departure.lateStores }, { on := 16, ground := Go.Ground.textOnly Go.Departure.lateStores }, { on := 17, ground := Go.Ground.textOnly Go.Departure.lateStoresUnsure }, { on := 18, ground := Go.Ground.textOnly Go.Departure.lateStoresUnsure }, { on := 19, ground := Go.Ground.phase }, { on := 20, ground := Go.Ground.textOnly Go.Departure.lateStores }, { on := 21, ground := Go.Ground.textOnly Go.Departure.lateStoresUnsure }], guard := none }) (v := ?vy022) (by rw [hops]; rfl) (by first | exact trivial | rfl) ?ey022 ?hy022
                        case ey022 => intro w'; go_simp; (try rfl)
                        (try simp only [Act.put, List.setIfInBounds_toArray, List.set_cons_zero, List.set_cons_succ])
                        refine wpLinG_pure (o := { dst := some 168, op := Go.Op.fieldAddr 37 (Go.Operand.tmp 167) 0, type := 0, pos := "plan.go:162", after := #[{ on := 22, ground := Go.Ground.data }, { on := 0, ground := Go.Ground.phase }, { on := 1, ground := Go.Ground.phase }, { on := 2, ground := Go.Ground.phase }, { on := 3, ground := Go.Ground.textOnly Go.Departure.lateStores }, { on := 4, ground := Go.Ground.textOnly Go.Departure.lateStores }, { on := 5, ground := Go.Ground.textOnly Go.Departure.lateStores }, { on := 6, ground := Go.Ground.phase }, { on := 7, ground := Go.Ground.phase }, { on := 8, ground := Go.Ground.phase }, { on := 9, ground := Go.Ground.phase }, { on := 10, ground := Go.Ground.phase }, { on := 11, ground := Go.Ground.phase }, { on := 12, ground := Go.Ground.phase }, { on := 13, ground := Go.Ground.phase }, { on := 14, ground := Go.Ground.textOnly Go.Departure.lateStores }, { on := 15, ground := Go.Ground.textOnly Go.Departure.lateStores }, { on := 16, ground := Go.Ground.textOnly Go.Departure.lateStores }, { on := 17, ground := Go.Ground.textOnly Go.Departure.lateStoresUnsure }, { on := 18, ground := Go.Ground.textOnly Go.Departure.lateStoresUnsure }, { on := 19, ground := Go.Ground.phase }, { on := 20, ground := Go.Ground.textOnly Go.Departure.lateStores }, { on := 21, ground := Go.Ground.textOnly Go.Departure.lateStoresUnsure }], guard := none }) (v := ?vy023) (by rw [hops]; rfl) (by first | exact trivial | rfl) ?ey023 ?hy023
                        case ey023 => intro w'; go_simp; (try rfl)
                        (try simp only [Act.put, List.setIfInBounds_toArray, List.set_cons_zero, List.set_cons_succ])
                        refine wpLinG_store (o := { dst := none, op := Go.Op.store 3 (Go.Operand.tmp 168) (Go.Operand.tmp 158), type := 0, pos := "plan.go:162", after := #[{ on := 23, ground := Go.Ground.data }, { on := 13, ground := Go.Ground.data }, { on := 0, ground := Go.Ground.phase }, { on := 1, ground := Go.Ground.phase }, { on := 2, ground := Go.Ground.phase }, { on := 3, ground := Go.Ground.textOnly Go.Departure.lateStores }, { on := 4, ground := Go.Ground.textOnly Go.Departure.lateStores }, { on := 5, ground := Go.Ground.textOnly Go.Departure.lateStores }, { on := 6, ground := Go.Ground.phase }, { on := 7, ground := Go.Ground.phase }, { on := 8, ground := Go.Ground.phase }, { on := 9, ground := Go.Ground.phase }, { on := 10, ground := Go.Ground.phase }, { on := 11, ground := Go.Ground.phase }, { on := 12, ground := Go.Ground.phase }, { on := 13, ground := Go.Ground.phase }, { on := 14, ground := Go.Ground.textOnly Go.Departure.lateStores }, { on := 15, ground := Go.Ground.textOnly Go.Departure.lateStores }, { on := 16, ground := Go.Ground.textOnly Go.Departure.lateStores }, { on := 17, ground := Go.Ground.textOnly Go.Departure.lateStoresUnsure }, { on := 18, ground := Go.Ground.textOnly Go.Departure.lateStoresUnsure }, { on := 19, ground := Go.Ground.phase }, { on := 20, ground := Go.Ground.textOnly Go.Departure.lateStores }, { on := 21, ground := Go.Ground.textOnly Go.Departure.lateStoresUnsure }], guard := none }) (by rw [hops]; rfl) (by first | exact trivial | rfl) (fun K hK => ?_)
                        go_simp
                        have hcx := (hS0.sp.at t htn).1
                        have hfx := hS0.sp.froz (t * 2)
                        go_simp
                        refine hK _ _ ((cell_other (p := ⟨q, t * 2, none⟩) hzq).trans hR) ?_
                        clear hK K
                        (try simp only [Act.put, List.setIfInBounds_toArray, List.set_cons_zero, List.set_cons_succ])
                        refine wpLinG_pure (o := { dst := some 169, op := Go.Op.indexAddr 23 (Go.Operand.tmp 148) (Go.Operand.tmp 150), type := 0, pos := "plan.go:162", after := #[{ on := 3, ground := Go.Ground.data }, { on := 5, ground := Go.Ground.data }, { on := 0, ground := Go.Ground.phase }, { on := 1, ground := Go.Ground.phase }, { on := 2, ground := Go.Ground.phase }, { on := 3, ground := Go.Ground.phase }, { on := 4, ground := Go.Ground.phase }, { on := 5, ground := Go.Ground.phase }, { on := 6, ground := Go.Ground.phase }, { on := 7, ground := Go.Ground.phase }, { on := 8, ground := Go.Ground.phase }, { on := 9, ground := Go.Ground.phase }, { on := 10, ground := Go.Ground.phase }, { on := 11, ground := Go.Ground.phase }, { on := 12, ground := Go.Ground.phase }, { on := 13, ground := Go.Ground.phase }, { on := 14, ground := Go.Ground.phase }, { on := 15, ground := Go.Ground.phase }, { on := 16, ground := Go.Ground.phase }, { on := 17, ground := Go.Ground.phase }, { on := 18, ground := Go.Ground.phase }, { on := 19, ground := Go.Ground.phase }, { on := 20, ground := Go.Ground.phase }, { on := 21, ground := Go.Ground.phase }, { on := 22, ground := Go.Ground.phase }, { on := 23, ground := Go.Ground.phase }, { on := 24, ground := Go.Ground.phase }], guard := none }) (v := ?vy025) (by rw [hops]; rfl) (by first | exact trivial | rfl) ?ey025 ?hy025
                        case ey025 => intro w'; go_simp; (try rfl)
                        (try simp only [Act.put, List.setIfInBounds_toArray, List.set_cons_zero, List.set_cons_succ])
                        refine wpLinG_pure (o := { dst := some 170, op := Go.Op.fieldAddr 37 (Go.Operand.tmp 169) 1, type := 0, pos := "plan.go:162", after := #[{ on := 25, ground := Go.Ground.data }, { on := 0, ground := Go.Ground.phase }, { on := 1, ground := Go.Ground.phase }, { on := 2, ground := Go.Ground.phase }, { on := 3, ground := Go.Ground.phase }, { on := 4, ground := Go.Ground.phase }, { on := 5, ground := Go.Ground.phase }, { on := 6, ground := Go.Ground.phase }, { on := 7, ground := Go.Ground.phase }, { on := 8, ground := Go.Ground.phase }, { on := 9, ground := Go.Ground.phase }, { on := 10, ground := Go.Ground.phase }, { on := 11, ground := Go.Ground.phase }, { on := 12, ground := Go.Ground.phase }, { on := 13, ground := Go.Ground.phase }, { on := 14, ground := Go.Ground.phase }, { on := 15, ground := Go.Ground.phase }, { on := 16, ground := Go.Ground.phase }, { on := 17, ground := Go.Ground.phase }, { on := 18, ground := Go.Ground.phase }, { on := 19, ground := Go.Ground.phase }, { on := 20, ground := Go.Ground.phase }, { on := 21, ground := Go.Ground.phase }, { on := 22, ground := Go.Ground.phase }, { on := 23, ground := Go.Ground.phase }, { on := 24, ground := Go.Ground.phase }], guard := none }) (v := ?vy026) (by rw [hops]; rfl) (by first | exact trivial | rfl) ?ey026 ?hy026
                        case ey026 => intro w'; go_simp; (try rfl)
                        (try simp only [Act.put, List.setIfInBounds_toArray, List.set_cons_zero, List.set_cons_succ])
                        refine wpLinG_store (o := { dst := none, op := Go.Op.store 3 (Go.Operand.tmp 170) (Go.Operand.tmp 166), type := 0, pos := "plan.go:162", after := #[{ on := 26, ground := Go.Ground.data }, { on := 21, ground := Go.Ground.data }, { on := 24, ground := Go.Ground.chain }, { on := 0, ground := Go.Ground.phase }, { on := 1, ground := Go.Ground.phase }, { on := 2, ground := Go.Ground.phase }, { on := 3, ground := Go.Ground.phase }, { on := 4, ground := Go.Ground.phase }, { on := 5, ground := Go.Ground.phase }, { on := 6, ground := Go.Ground.phase }, { on := 7, ground := Go.Ground.phase }, { on := 8, ground := Go.Ground.phase }, { on := 9, ground := Go.Ground.phase }, { on := 10, ground := Go.Ground.phase }, { on := 11, ground := Go.Ground.phase }, { on := 12, ground := Go.Ground.phase }, { on := 13, ground := Go.Ground.phase }, { on := 14, ground := Go.Ground.phase }, { on := 15, ground := Go.Ground.phase }, { on := 16, ground := Go.Ground.phase }, { on := 17, ground := Go.Ground.phase }, { on := 18, ground := Go.Ground.phase }, { on := 19, ground := Go.Ground.phase }, { on := 20, ground := Go.Ground.phase }, { on := 21, ground := Go.Ground.phase }, { on := 22, ground := Go.Ground.phase }, { on := 23, ground := Go.Ground.phase }, { on := 24, ground := Go.Ground.phase }], guard := none }) (by rw [hops]; rfl) (by first | exact trivial | rfl) (fun K hK => ?_)
                        go_simp
                        have hcy := (hS0.sp.at t htn).2
                        have hfy := hS0.sp.froz (t * 2 + 1)
                        go_simp
                        refine hK _ _ ((cell_other (p := ⟨q, t * 2 + 1, none⟩) hzq).trans ((cell_other (p := ⟨q, t * 2, none⟩) hzq).trans hR)) ?_
                        clear hK K
                        (try simp only [Act.put, List.setIfInBounds_toArray, List.set_cons_zero, List.set_cons_succ])
                        subst hQ'
                        refine NoPanic.normal ?_
                        clear hops
                        have hnn : nn = c1 + gg - a1 := HNN.out
                        have hset := (hS0.sp.set t htn (c1 - nn) (c1 + lt - nn)).step (Below.drew (Below.refl _ _))
                        have hbs := Below.drew ((hS0.b.setCell (p := ⟨q, t * 2, none⟩) hqw (.int .i64 (c1 - nn))).setCell (p := ⟨q, t * 2 + 1, none⟩) hqw (.int .i64 (c1 + lt - nn)))
                        have hpn := HPN.out
                        rw [show a1 - gg = c1 - nn by omega, show c1 - nn + lt = c1 + lt - nn by omega] at hpn
                        clear hS hR hS0 hnn
                        go_wp2_with fail
                        go_roundw
                        case rel => exact ⟨k + 1, _, true, by omega, by go_num, rfl, hpn, hset, hbs⟩
                        case measure => simp [intOf]; omega
                      · rw [if_neg (by decide), if_neg (by decide)] at hgp
                        have e3 := wrap64_id (x := c1 + xg - a1) (by omega) (by omega)
                        have f3 := i64_id (x := c1 + xg - a1) (by omega) (by omega)
                        have HNN := hide (show c1 + xg - a1 = c1 + gg - a1 by omega)
                        clear hgp
                        go_wp2_with fail
                        go_quiet (fail)
                        go_wp2_with fail
                        generalize hne : c1 + xg - a1 = nn at *
                        have hS0 := hS.step (bdr (Below.refl X.heap.size X) nq)
                        clear l0 l1 l2 s0 s1 t0 t1 hS e1 e2 e3 f1 f2 f3 hne
                        generalize X.drewN nq = Y at *
                        have hS := hS0.step (Below.drew (Below.refl _ _))
                        have hR := hS.l0
                        have hnn : nn = c1 + gg - a1 := HNN.out
                        have f4 := i64_id (x := c1 - nn) (by omega) (by omega)
                        have f5 := i64_id (x := c1 + lt - nn) (by omega) (by omega)
                        clear hnn
                        refine wp_region_noPanic ?_
                        refine wp_region_linGM (S := fun X => LrS w q P.length s zz t 2 xg X) (R := fun X => X.cell? ⟨zz, 0, none⟩ = some (.int .i64 (t : Int))) [24, 27] (by kernel_rfl) (by kernel_rfl) [(0, none, 1), (1, none, 1), (2, none, 4), (3, none, 1), (4, none, 1), (5, none, 4), (6, none, 1), (7, none, 1), (8, none, 4), (9, none, 1), (10, none, 1), (11, none, 0), (12, none, 1), (13, none, 1), (14, none, 1), (15, none, 1), (16, none, 4), (17, none, 1), (18, none, 1), (19, none, 0), (20, none, 1), (21, none, 1), (22, none, 1), (23, none, 1), (24, none, 3), (25, none, 1), (26, none, 1), (27, none, 3)] (by kernel_rfl) (by kernel_rfl) (fun _ _ _ _ _ h => h) (by exact hR) (by exact hS) (fun ops' Q' hops hQ' => ?_)
                        refine wpLinG_pure (o := { dst := some 145, op := Go.Op.move (Go.Operand.tmp 8), type := 23, pos := "plan.go:162", after := #[], guard := none }) (v := ?vy10) (by rw [hops]; rfl) (by first | exact trivial | rfl) ?ey10 ?hy10
                        case ey10 => intro w'; go_simp; (try rfl)
                        (try simp only [Act.put, List.setIfInBounds_toArray, List.set_cons_zero, List.set_cons_succ])
                        refine wpLinG_pure (o := { dst := some 146, op := Go.Op.fieldAddr 47 (Go.Operand.tmp 13) 0, type := 0, pos := "plan.go:162", after := #[], guard := none }) (v := ?vy11) (by rw [hops]; rfl) (by first | exact trivial | rfl) ?ey11 ?hy11
                        case ey11 => intro w'; go_simp; (try rfl)
                        (try simp only [Act.put, List.setIfInBounds_toArray, List.set_cons_zero, List.set_cons_succ])
                        refine wpLinG_look (o := { dst := some 147, op := Go.Op.load 3 (Go.Operand.tmp 146), type := 3, pos := "plan.go:162", after := #[{ on := 1, ground := Go.Ground.data }], guard := none }) (v := ?vy12) (by rw [hops]; rfl) (by first | exact trivial | rfl) hR ?ey12 ?hy12
                        case ey12 => intro w' hw'; have l0 := hw'; go_simp; (try rfl)
                        (try simp only [Act.put, List.setIfInBounds_toArray, List.set_cons_zero, List.set_cons_succ])
                        refine wpLinG_pure (o := { dst := some 148, op := Go.Op.move (Go.Operand.tmp 8), type := 23, pos := "plan.go:162", after := #[{ on := 24, ground := Go.Ground.gcOnly Go.Departure.lateStores }], guard := none }) (v := ?vy13) (by rw [hops]; rfl) (by first | exact trivial | rfl) ?ey13 ?hy13
                        case ey13 => intro w'; go_simp; (try rfl)
                        (try simp only [Act.put, List.setIfInBounds_toArray, List.set_cons_zero, List.set_cons_succ])
                        refine wpLinG_pure (o := { dst := some 149, op := Go.Op.fieldAddr 47 (Go.Operand.tmp 13) 0, type := 0, pos := "plan.go:162", after := #[{ on := 24, ground := Go.Ground.gcOnly Go.Departure.lateStores }], guard := none }) (v := ?vy14) (by rw [hops]; rfl) (by first | exact trivial | rfl) ?ey14 ?hy14
                        case ey14 => intro w'; go_simp; (try rfl)
                        (try simp only [Act.put, List.setIfInBounds_toArray, List.set_cons_zero, List.set_cons_succ])
                        refine wpLinG_look (o := { dst := some 150, op := Go.Op.load 3 (Go.Operand.tmp 149), type := 3, pos := "plan.go:162", after := #[{ on := 4, ground := Go.Ground.data }, { on := 24, ground := Go.Ground.gcOnly Go.Departure.lateStores }], guard := none }) (v := ?vy15) (by rw [hops]; rfl) (by first | exact trivial | rfl) hR ?ey15 ?hy15
                        case ey15 => intro w' hw'; have l0 := hw'; go_simp; (try rfl)
                        (try simp only [Act.put, List.setIfInBounds_toArray, List.set_cons_zero, List.set_cons_succ])
                        refine wpLinG_pure (o := { dst := some 151, op := Go.Op.move (Go.Operand.tmp 8), type := 23, pos := "plan.go:162", after := #[], guard := none }) (v := ?vy16) (by rw [hops]; rfl) (by first | exact trivial | rfl) ?ey16 ?hy16
                        case ey16 => intro w'; go_simp; (try rfl)
                        (try simp only [Act.put, List.setIfInBounds_toArray, List.set_cons_zero, List.set_cons_succ])
                        refine wpLinG_pure (o := { dst := some 152, op := Go.Op.fieldAddr 47 (Go.Operand.tmp 13) 0, type := 0, pos := "plan.go:162", after := #[], guard := none }) (v := ?vy17) (by rw [hops]; rfl) (by first | exact trivial | rfl) ?ey17 ?hy17
                        case ey17 => intro w'; go_simp; (try rfl)
                        (try simp only [Act.put, List.setIfInBounds_toArray, List.set_cons_zero, List.set_cons_succ])
                        refine wpLinG_look (o := { dst := some 153, op := Go.Op.load 3 (Go.Operand.tmp 152), type := 3, pos := "plan.go:162", after := #[{ on := 7, ground := Go.Ground.data }], guard := none }) (v := ?vy18) (by rw [hops]; rfl) (by first | exact trivial | rfl) hR ?ey18 ?hy18
                        case ey18 => intro w' hw'; have l0 := hw'; go_simp; (try rfl)
                        (try simp only [Act.put, List.setIfInBounds_toArray, List.set_cons_zero, List.set_cons_succ])
                        refine wpLinG_pure (o := { dst := some 154, op := Go.Op.indexAddr 23 (Go.Operand.tmp 151) (Go.Operand.tmp 153), type := 0, pos := "plan.go:162", after := #[{ on := 6, ground := Go.Ground.data }, { on := 8, ground := Go.Ground.data }], guard := none }) (v := ?vy19) (by rw [hops]; rfl) (by first | exact trivial | rfl) ?ey19 ?hy19
                        case ey19 => intro w'; go_simp; (try rfl)
                        (try simp only [Act.put, List.setIfInBounds_toArray, List.set_cons_zero, List.set_cons_succ])
                        refine wpLinG_pure (o := { dst := some 155, op := Go.Op.fieldAddr 37 (Go.Operand.tmp 154) 0, type := 0, pos := "plan.go:162", after := #[{ on := 9, ground := Go.Ground.data }], guard := none }) (v := ?vy110) (by rw [hops]; rfl) (by first | exact trivial | rfl) ?ey110 ?hy110
                        case ey110 => intro w'; go_simp; (try rfl)
                        (try simp only [Act.put, List.setIfInBounds_toArray, List.set_cons_zero, List.set_cons_succ])
                        refine wpLinG_read (o := { dst := some 156, op := Go.Op.load 3 (Go.Operand.tmp 155), type := 3, pos := "plan.go:162", after := #[{ on := 10, ground := Go.Ground.data }], guard := none }) (v := ?vy111) (by rw [hops]; rfl) (by first | exact trivial | rfl) hS ?ey111 ?hy111
                        case ey111 => intro w' hw'; obtain ⟨l0, l1, l2, hsp, _⟩ := hw'; have t0 := (hsp.at t htn).1; have t1 := (hsp.at t htn).2; rw [hc] at t0; rw [et] at t1; go_simp; (try rfl)
                        (try simp only [Act.put, List.setIfInBounds_toArray, List.set_cons_zero, List.set_cons_succ])
                        refine wpLinG_pure (o := { dst := some 157, op := Go.Op.move (Go.Operand.tmp 14), type := 3, pos := "plan.go:162", after := #[], guard := none }) (v := ?vy112) (by rw [hops]; rfl) (by first | exact trivial | rfl) ?ey112 ?hy112
                        case ey112 => intro w'; go_simp; (try rfl)
                        (try simp only [Act.put, List.setIfInBounds_toArray, List.set_cons_zero, List.set_cons_succ])
                        refine wpLinG_pure (o := { dst := some 158, op := Go.Op.binOp Go.BinOp.sub 3 (Go.Operand.tmp 156) (Go.Operand.tmp 157) 3, type := 3, pos := "plan.go:162", after := #[{ on := 11, ground := Go.Ground.data }, { on := 12, ground := Go.Ground.data }], guard := none }) (v := ?vy113) (by rw [hops]; rfl) (by first | exact trivial | rfl) ?ey113 ?hy113
                        case ey113 => intro w'; go_simp; (try rfl)
                        (try simp only [Act.put, List.setIfInBounds_toArray, List.set_cons_zero, List.set_cons_succ])
                        refine wpLinG_pure (o := { dst := some 159, op := Go.Op.move (Go.Operand.tmp 8), type := 23, pos := "plan.go:162", after := #[], guard := none }) (v := ?vy114) (by rw [hops]; rfl) (by first | exact trivial | rfl) ?ey114 ?hy114
                        case ey114 => intro w'; go_simp; (try rfl)
                        (try simp only [Act.put, List.setIfInBounds_toArray, List.set_cons_zero, List.set_cons_succ])
                        refine wpLinG_pure (o := { dst := some 160, op := Go.Op.fieldAddr 47 (Go.Operand.tmp 13) 0, type := 0, pos := "plan.go:162", after := #[], guard := none }) (v := ?vy115) (by rw [hops]; rfl) (by first | exact trivial | rfl) ?ey115 ?hy115
                        case ey115 => intro w'; go_simp; (try rfl)
                        (try simp only [Act.put, List.setIfInBounds_toArray, List.set_cons_zero, List.set_cons_succ])
                        refine wpLinG_look (o := { dst := some 161, op := Go.Op.load 3 (Go.Operand.tmp 160), type := 3, pos := "plan.go:162", after := #[{ on := 15, ground := Go.Ground.data }], guard := none }) (v := ?vy116) (by rw [hops]; rfl) (by first | exact trivial | rfl) hR ?ey116 ?hy116
                        case ey116 => intro w' hw'; have l0 := hw'; go_simp; (try rfl)
                        (try simp only [Act.put, List.setIfInBounds_toArray, List.set_cons_zero, List.set_cons_succ])
                        refine wpLinG_pure (o := { dst := some 162, op := Go.Op.indexAddr 23 (Go.Operand.tmp 159) (Go.Operand.tmp 161), type := 0, pos := "plan.go:162", after := #[{ on := 14, ground := Go.Ground.data }, { on := 16, ground := Go.Ground.data }], guard := none }) (v := ?vy117) (by rw [hops]; rfl) (by first | exact trivial | rfl) ?ey117 ?hy117
                        case ey117 => intro w'; go_simp; (try rfl)
                        (try simp only [Act.put, List.setIfInBounds_toArray, List.set_cons_zero, List.set_cons_succ])
                        refine wpLinG_pure (o := { dst := some 163, op := Go.Op.fieldAddr 37 (Go.Operand.tmp 162) 1, type := 0, pos := "plan.go:162", after := #[{ on := 17, ground := Go.Ground.data }], guard := none }) (v := ?vy118) (by rw [hops]; rfl) (by first | exact trivial | rfl) ?ey118 ?hy118
                        case ey118 => intro w'; go_simp; (try rfl)
                        (try simp only [Act.put, List.setIfInBounds_toArray, List.set_cons_zero, List.set_cons_succ])
                        refine wpLinG_read (o := { dst := some 164, op := Go.Op.load 3 (Go.Operand.tmp 163), type := 3, pos := "plan.go:162", after := #[{ on := 18, ground := Go.Ground.data }], guard := none }) (v := ?vy119) (by rw [hops]; rfl) (by first | exact trivial | rfl) hS ?ey119 ?hy119
                        case ey119 => intro w' hw'; obtain ⟨l0, l1, l2, hsp, _⟩ := hw'; have t0 := (hsp.at t htn).1; have t1 := (hsp.at t htn).2; rw [hc] at t0; rw [et] at t1; go_simp; (try rfl)
                        (try simp only [Act.put, List.setIfInBounds_toArray, List.set_cons_zero, List.set_cons_succ])
                        refine wpLinG_pure (o := { dst := some 165, op := Go.Op.move (Go.Operand.tmp 14), type := 3, pos := "plan.go:162", after := #[], guard := none }) (v := ?vy120) (by rw [hops]; rfl) (by first | exact trivial | rfl) ?ey120 ?hy120
                        case ey120 => intro w'; go_simp; (try rfl)
                        (try simp only [Act.put, List.setIfInBounds_toArray, List.set_cons_zero, List.set_cons_succ])
                        refine wpLinG_pure (o := { dst := some 166, op := Go.Op.binOp Go.BinOp.sub 3 (Go.Operand.tmp 164) (Go.Operand.tmp 165) 3, type := 3, pos := "plan.go:162", after := #[{ on := 19, ground := Go.Ground.data }, { on := 20, ground := Go.Ground.data }], guard := none }) (v := ?vy121) (by rw [hops]; rfl) (by first | exact trivial | rfl) ?ey121 ?hy121
                        case ey121 => intro w'; go_simp; (try rfl)
                        (try simp only [Act.put, List.setIfInBounds_toArray, List.set_cons_zero, List.set_cons_succ])
                        refine wpLinG_pure (o := { dst := some 167, op := Go.Op.indexAddr 23 (Go.Operand.tmp 145) (Go.Operand.tmp 147), type := 0, pos := "plan.go:162", after := #[{ on := 0, ground := Go.Ground.data }, { on := 2, ground := Go.Ground.data }, { on := 0, ground := Go.Ground.phase }, { on := 1, ground := Go.Ground.phase }, { on := 2, ground := Go.Ground.phase }, { on := 3, ground := Go.Ground.textOnly Go.Departure.lateStores }, { on := 4, ground := Go.Ground.textOnly Go.Departure.lateStores }, { on := 5, ground := Go.Ground.textOnly Go.Departure.lateStores }, { on := 6, ground := Go.Ground.phase }, { on := 7, ground := Go.Ground.phase }, { on := 8, ground := Go.Ground.phase }, { on := 9, ground := Go.Ground.phase }, { on := 10, ground := Go.Ground.phase }, { on := 11, ground := Go.Ground.phase }, { on := 12, ground := Go.Ground.phase }, { on := 13, ground := Go.Ground.phase }, { on := 14, ground := Go.Ground.textOnly Go.Departure.lateStores }, { on := 15, ground := Go.Ground.textOnly Go.Departure.lateStores }, { on := 16, ground := Go.Ground.textOnly Go.Departure.lateStores }, { on := 17, ground := Go.Ground.textOnly Go.Departure.lateStoresUnsure }, { on := 18, ground := Go.Ground.textOnly Go.Departure.lateStoresUnsure }, { on := 19, ground := Go.Ground.phase }, { on := 20, ground := Go.Ground.textOnly Go.Departure.lateStores }, { on := 21, ground := Go.Ground.textOnly Go.Departure.lateStoresUnsure }], guard := none }) (v := ?vy122) (by rw [hops]; rfl) (by first | exact trivial | rfl) ?ey122 ?hy122
                        case ey122 => intro w'; go_simp; (try rfl)
                        (try simp only [Act.put, List.setIfInBounds_toArray, List.set_cons_zero, List.set_cons_succ])
                        refine wpLinG_pure (o := { dst := some 168, op := Go.Op.fieldAddr 37 (Go.Operand.tmp 167) 0, type := 0, pos := "plan.go:162", after := #[{ on := 22, ground := Go.Ground.data }, { on := 0, ground := Go.Ground.phase }, { on := 1, ground := Go.Ground.phase }, { on := 2, ground := Go.Ground.phase }, { on := 3, ground := Go.Ground.textOnly Go.Departure.lateStores }, { on := 4, ground := Go.Ground.textOnly Go.Departure.lateStores }, { on := 5, ground := Go.Ground.textOnly Go.Departure.lateStores }, { on := 6, ground := Go.Ground.phase }, { on := 7, ground := Go.Ground.phase }, { on := 8, ground := Go.Ground.phase }, { on := 9, ground := Go.Ground.phase }, { on := 10, ground := Go.Ground.phase }, { on := 11, ground := Go.Ground.phase }, { on := 12, ground := Go.Ground.phase }, { on := 13, ground := Go.Ground.phase }, { on := 14, ground := Go.Ground.textOnly Go.Departure.lateStores }, { on := 15, ground := Go.Ground.textOnly Go.Departure.lateStores }, { on := 16, ground := Go.Ground.textOnly Go.Departure.lateStores }, { on := 17, ground := Go.Ground.textOnly Go.Departure.lateStoresUnsure }, { on := 18, ground := Go.Ground.textOnly Go.Departure.lateStoresUnsure }, { on := 19, ground := Go.Ground.phase }, { on := 20, ground := Go.Ground.textOnly Go.Departure.lateStores }, { on := 21, ground := Go.Ground.textOnly Go.Departure.lateStoresUnsure }], guard := none }) (v := ?vy123) (by rw [hops]; rfl) (by first | exact trivial | rfl) ?ey123 ?hy123
                        case ey123 => intro w'; go_simp; (try rfl)
                        (try simp only [Act.put, List.setIfInBounds_toArray, List.set_cons_zero, List.set_cons_succ])
                        refine wpLinG_store (o := { dst := none, op := Go.Op.store 3 (Go.Operand.tmp 168) (Go.Operand.tmp 158), type := 0, pos := "plan.go:162", after := #[{ on := 23, ground := Go.Ground.data }, { on := 13, ground := Go.Ground.data }, { on := 0, ground := Go.Ground.phase }, { on := 1, ground := Go.Ground.phase }, { on := 2, ground := Go.Ground.phase }, { on := 3, ground := Go.Ground.textOnly Go.Departure.lateStores }, { on := 4, ground := Go.Ground.textOnly Go.Departure.lateStores }, { on := 5, ground := Go.Ground.textOnly Go.Departure.lateStores }, { on := 6, ground := Go.Ground.phase }, { on := 7, ground := Go.Ground.phase }, { on := 8, ground := Go.Ground.phase }, { on := 9, ground := Go.Ground.phase }, { on := 10, ground := Go.Ground.phase }, { on := 11, ground := Go.Ground.phase }, { on := 12, ground := Go.Ground.phase }, { on := 13, ground := Go.Ground.phase }, { on := 14, ground := Go.Ground.textOnly Go.Departure.lateStores }, { on := 15, ground := Go.Ground.textOnly Go.Departure.lateStores }, { on := 16, ground := Go.Ground.textOnly Go.Departure.lateStores }, { on := 17, ground := Go.Ground.textOnly Go.Departure.lateStoresUnsure }, { on := 18, ground := Go.Ground.textOnly Go.Departure.lateStoresUnsure }, { on := 19, ground := Go.Ground.phase }, { on := 20, ground := Go.Ground.textOnly Go.Departure.lateStores }, { on := 21, ground := Go.Ground.textOnly Go.Departure.lateStoresUnsure }], guard := none }) (by rw [hops]; rfl) (by first | exact trivial | rfl) (fun K hK => ?_)
                        go_simp
                        have hcx := (hS0.sp.at t htn).1
                        have hfx := hS0.sp.froz (t * 2)
                        go_simp
                        refine hK _ _ ((cell_other (p := ⟨q, t * 2, none⟩) hzq).trans hR) ?_
                        clear hK K
                        (try simp only [Act.put, List.setIfInBounds_toArray, List.set_cons_zero, List.set_cons_succ])
                        refine wpLinG_pure (o := { dst := some 169, op := Go.Op.indexAddr 23 (Go.Operand.tmp 148) (Go.Operand.tmp 150), type := 0, pos := "plan.go:162", after := #[{ on := 3, ground := Go.Ground.data }, { on := 5, ground := Go.Ground.data }, { on := 0, ground := Go.Ground.phase }, { on := 1, ground := Go.Ground.phase }, { on := 2, ground := Go.Ground.phase }, { on := 3, ground := Go.Ground.phase }, { on := 4, ground := Go.Ground.phase }, { on := 5, ground := Go.Ground.phase }, { on := 6, ground := Go.Ground.phase }, { on := 7, ground := Go.Ground.phase }, { on := 8, ground := Go.Ground.phase }, { on := 9, ground := Go.Ground.phase }, { on := 10, ground := Go.Ground.phase }, { on := 11, ground := Go.Ground.phase }, { on := 12, ground := Go.Ground.phase }, { on := 13, ground := Go.Ground.phase }, { on := 14, ground := Go.Ground.phase }, { on := 15, ground := Go.Ground.phase }, { on := 16, ground := Go.Ground.phase }, { on := 17, ground := Go.Ground.phase }, { on := 18, ground := Go.Ground.phase }, { on := 19, ground := Go.Ground.phase }, { on := 20, ground := Go.Ground.phase }, { on := 21, ground := Go.Ground.phase }, { on := 22, ground := Go.Ground.phase }, { on := 23, ground := Go.Ground.phase }, { on := 24, ground := Go.Ground.phase }], guard := none }) (v := ?vy125) (by rw [hops]; rfl) (by first | exact trivial | rfl) ?ey125 ?hy125
                        case ey125 => intro w'; go_simp; (try rfl)
                        (try simp only [Act.put, List.setIfInBounds_toArray, List.set_cons_zero, List.set_cons_succ])
                        refine wpLinG_pure (o := { dst := some 170, op := Go.Op.fieldAddr 37 (Go.Operand.tmp 169) 1, type := 0, pos := "plan.go:162", after := #[{ on := 25, ground := Go.Ground.data }, { on := 0, ground := Go.Ground.phase }, { on := 1, ground := Go.Ground.phase }, { on := 2, ground := Go.Ground.phase }, { on := 3, ground := Go.Ground.phase }, { on := 4, ground := Go.Ground.phase }, { on := 5, ground := Go.Ground.phase }, { on := 6, ground := Go.Ground.phase }, { on := 7, ground := Go.Ground.phase }, { on := 8, ground := Go.Ground.phase }, { on := 9, ground := Go.Ground.phase }, { on := 10, ground := Go.Ground.phase }, { on := 11, ground := Go.Ground.phase }, { on := 12, ground := Go.Ground.phase }, { on := 13, ground := Go.Ground.phase }, { on := 14, ground := Go.Ground.phase }, { on := 15, ground := Go.Ground.phase }, { on := 16, ground := Go.Ground.phase }, { on := 17, ground := Go.Ground.phase }, { on := 18, ground := Go.Ground.phase }, { on := 19, ground := Go.Ground.phase }, { on := 20, ground := Go.Ground.phase }, { on := 21, ground := Go.Ground.phase }, { on := 22, ground := Go.Ground.phase }, { on := 23, ground := Go.Ground.phase }, { on := 24, ground := Go.Ground.phase }], guard := none }) (v := ?vy126) (by rw [hops]; rfl) (by first | exact trivial | rfl) ?ey126 ?hy126
                        case ey126 => intro w'; go_simp; (try rfl)
                        (try simp only [Act.put, List.setIfInBounds_toArray, List.set_cons_zero, List.set_cons_succ])
                        refine wpLinG_store (o := { dst := none, op := Go.Op.store 3 (Go.Operand.tmp 170) (Go.Operand.tmp 166), type := 0, pos := "plan.go:162", after := #[{ on := 26, ground := Go.Ground.data }, { on := 21, ground := Go.Ground.data }, { on := 24, ground := Go.Ground.chain }, { on := 0, ground := Go.Ground.phase }, { on := 1, ground := Go.Ground.phase }, { on := 2, ground := Go.Ground.phase }, { on := 3, ground := Go.Ground.phase }, { on := 4, ground := Go.Ground.phase }, { on := 5, ground := Go.Ground.phase }, { on := 6, ground := Go.Ground.phase }, { on := 7, ground := Go.Ground.phase }, { on := 8, ground := Go.Ground.phase }, { on := 9, ground := Go.Ground.phase }, { on := 10, ground := Go.Ground.phase }, { on := 11, ground := Go.Ground.phase }, { on := 12, ground := Go.Ground.phase }, { on := 13, ground := Go.Ground.phase }, { on := 14, ground := Go.Ground.phase }, { on := 15, ground := Go.Ground.phase }, { on := 16, ground := Go.Ground.phase }, { on := 17, ground := Go.Ground.phase }, { on := 18, ground := Go.Ground.phase }, { on := 19, ground := Go.Ground.phase }, { on := 20, ground := Go.Ground.phase }, { on := 21, ground := Go.Ground.phase }, { on := 22, ground := Go.Ground.phase }, { on := 23, ground := Go.Ground.phase }, { on := 24, ground := Go.Ground.phase }], guard := none }) (by rw [hops]; rfl) (by first | exact trivial | rfl) (fun K hK => ?_)
                        go_simp
                        have hcy := (hS0.sp.at t htn).2
                        have hfy := hS0.sp.froz (t * 2 + 1)
                        go_simp
                        refine hK _ _ ((cell_other (p := ⟨q, t * 2 + 1, none⟩) hzq).trans ((cell_other (p := ⟨q, t * 2, none⟩) hzq).trans hR)) ?_
                        clear hK K
                        (try simp only [Act.put, List.setIfInBounds_toArray, List.set_cons_zero, List.set_cons_succ])
                        subst hQ'
                        refine NoPanic.normal ?_
                        clear hops
                        have hnn : nn = c1 + gg - a1 := HNN.out
                        have hset := (hS0.sp.set t htn (c1 - nn) (c1 + lt - nn)).step (Below.drew (Below.refl _ _))
                        have hbs := Below.drew ((hS0.b.setCell (p := ⟨q, t * 2, none⟩) hqw (.int .i64 (c1 - nn))).setCell (p := ⟨q, t * 2 + 1, none⟩) hqw (.int .i64 (c1 + lt - nn)))
                        have hpn := HPN.out
                        rw [show a1 - gg = c1 - nn by omega, show c1 - nn + lt = c1 + lt - nn by omega] at hpn
                        clear hS hR hS0 hnn
                        go_wp2_with fail
                        go_roundw
                        case rel => exact ⟨k + 1, _, true, by omega, by go_num, rfl, hpn, hset, hbs⟩
                        case measure => simp [intOf]; omega
                      · rw [if_pos (by decide), if_pos (by decide)] at hgp
                        have e3 := wrap64_id (x := c1 + lt + xg - (a1 + lm)) (by omega) (by omega)
                        have f3 := i64_id (x := c1 + lt + xg - (a1 + lm)) (by omega) (by omega)
                        have HNN := hide (show c1 + lt + xg - (a1 + lm) = c1 + gg - a1 by omega)
                        clear hgp
                        go_wp2_with fail
                        go_quiet (fail)
                        go_wp2_with fail
                        generalize hne : c1 + lt + xg - (a1 + lm) = nn at *
                        have hS0 := hS.step (bdr (Below.refl X.heap.size X) nq)
                        clear l0 l1 l2 s0 s1 t0 t1 hS e1 e2 e3 f1 f2 f3 hne
                        generalize X.drewN nq = Y at *
                        have hS := hS0.step (Below.drew (Below.refl _ _))
                        have hR := hS.l0
                        have hnn : nn = c1 + gg - a1 := HNN.out
                        have f4 := i64_id (x := c1 - nn) (by omega) (by omega)
                        have f5 := i64_id (x := c1 + lt - nn) (by omega) (by omega)
                        clear hnn
                        refine wp_region_noPanic ?_
                        refine wp_region_linGM (S := fun X => LrS w q P.length s zz t 3 xg X) (R := fun X => X.cell? ⟨zz, 0, none⟩ = some (.int .i64 (t : Int))) [24, 27] (by kernel_rfl) (by kernel_rfl) [(0, none, 1), (1, none, 1), (2, none, 4), (3, none, 1), (4, none, 1), (5, none, 4), (6, none, 1), (7, none, 1), (8, none, 4), (9, none, 1), (10, none, 1), (11, none, 0), (12, none, 1), (13, none, 1), (14, none, 1), (15, none, 1), (16, none, 4), (17, none, 1), (18, none, 1), (19, none, 0), (20, none, 1), (21, none, 1), (22, none, 1), (23, none, 1), (24, none, 3), (25, none, 1), (26, none, 1), (27, none, 3)] (by kernel_rfl) (by kernel_rfl) (fun _ _ _ _ _ h => h) (by exact hR) (by exact hS) (fun ops' Q' hops hQ' => ?_)
                        refine wpLinG_pure (o := { dst := some 145, op := Go.Op.move (Go.Operand.tmp 8), type := 23, pos := "plan.go:162", after := #[], guard := none }) (v := ?vy20) (by rw [hops]; rfl) (by first | exact trivial | rfl) ?ey20 ?hy20
                        case ey20 => intro w'; go_simp; (try rfl)
                        (try simp only [Act.put, List.setIfInBounds_toArray, List.set_cons_zero, List.set_cons_succ])
                        refine wpLinG_pure (o := { dst := some 146, op := Go.Op.fieldAddr 47 (Go.Operand.tmp 13) 0, type := 0, pos := "plan.go:162", after := #[], guard := none }) (v := ?vy21) (by rw [hops]; rfl) (by first | exact trivial | rfl) ?ey21 ?hy21
                        case ey21 => intro w'; go_simp; (try rfl)
                        (try simp only [Act.put, List.setIfInBounds_toArray, List.set_cons_zero, List.set_cons_succ])
                        refine wpLinG_look (o := { dst := some 147, op := Go.Op.load 3 (Go.Operand.tmp 146), type := 3, pos := "plan.go:162", after := #[{ on := 1, ground := Go.Ground.data }], guard := none }) (v := ?vy22) (by rw [hops]; rfl) (by first | exact trivial | rfl) hR ?ey22 ?hy22
                        case ey22 => intro w' hw'; have l0 := hw'; go_simp; (try rfl)
                        (try simp only [Act.put, List.setIfInBounds_toArray, List.set_cons_zero, List.set_cons_succ])
                        refine wpLinG_pure (o := { dst := some 148, op := Go.Op.move (Go.Operand.tmp 8), type := 23, pos := "plan.go:162", after := #[{ on := 24, ground := Go.Ground.gcOnly Go.Departure.lateStores }], guard := none }) (v := ?vy23) (by rw [hops]; rfl) (by first | exact trivial | rfl) ?ey23 ?hy23
                        case ey23 => intro w'; go_simp; (try rfl)
                        (try simp only [Act.put, List.setIfInBounds_toArray, List.set_cons_zero, List.set_cons_succ])
                        refine wpLinG_pure (o := { dst := some 149, op := Go.Op.fieldAddr 47 (Go.Operand.tmp 13) 0, type := 0, pos := "plan.go:162", after := #[{ on := 24, ground := Go.Ground.gcOnly Go.Departure.lateStores }], guard := none }) (v := ?vy24) (by rw [hops]; rfl) (by first | exact trivial | rfl) ?ey24 ?hy24
                        case ey24 => intro w'; go_simp; (try rfl)
                        (try simp only [Act.put, List.setIfInBounds_toArray, List.set_cons_zero, List.set_cons_succ])
                        refine wpLinG_look (o := { dst := some 150, op := Go.Op.load 3 (Go.Operand.tmp 149), type := 3, pos := "plan.go:162", after := #[{ on := 4, ground := Go.Ground.data }, { on := 24, ground := Go.Ground.gcOnly Go.Departure.lateStores }], guard := none }) (v := ?vy25) (by rw [hops]; rfl) (by first | exact trivial | rfl) hR ?ey25 ?hy25
                        case ey25 => intro w' hw'; have l0 := hw'; go_simp; (try rfl)
                        (try simp only [Act.put, List.setIfInBounds_toArray, List.set_cons_zero, List.set_cons_succ])
                        refine wpLinG_pure (o := { dst := some 151, op := Go.Op.move (Go.Operand.tmp 8), type := 23, pos := "plan.go:162", after := #[], guard := none }) (v := ?vy26) (by rw [hops]; rfl) (by first | exact trivial | rfl) ?ey26 ?hy26
                        case ey26 => intro w'; go_simp; (try rfl)
                        (try simp only [Act.put, List.setIfInBounds_toArray, List.set_cons_zero, List.set_cons_succ])
                        refine wpLinG_pure (o := { dst := some 152, op := Go.Op.fieldAddr 47 (Go.Operand.tmp 13) 0, type := 0, pos := "plan.go:162", after := #[], guard := none }) (v := ?vy27) (by rw [hops]; rfl) (by first | exact trivial | rfl) ?ey27 ?hy27
                        case ey27 => intro w'; go_simp; (try rfl)
                        (try simp only [Act.put, List.setIfInBounds_toArray, List.set_cons_zero, List.set_cons_succ])
                        refine wpLinG_look (o := { dst := some 153, op := Go.Op.load 3 (Go.Operand.tmp 152), type := 3, pos := "plan.go:162", after := #[{ on := 7, ground := Go.Ground.data }], guard := none }) (v := ?vy28) (by rw [hops]; rfl) (by first | exact trivial | rfl) hR ?ey28 ?hy28
                        case ey28 => intro w' hw'; have l0 := hw'; go_simp; (try rfl)
                        (try simp only [Act.put, List.setIfInBounds_toArray, List.set_cons_zero, List.set_cons_succ])
                        refine wpLinG_pure (o := { dst := some 154, op := Go.Op.indexAddr 23 (Go.Operand.tmp 151) (Go.Operand.tmp 153), type := 0, pos := "plan.go:162", after := #[{ on := 6, ground := Go.Ground.data }, { on := 8, ground := Go.Ground.data }], guard := none }) (v := ?vy29) (by rw [hops]; rfl) (by first | exact trivial | rfl) ?ey29 ?hy29
                        case ey29 => intro w'; go_simp; (try rfl)
                        (try simp only [Act.put, List.setIfInBounds_toArray, List.set_cons_zero, List.set_cons_succ])
                        refine wpLinG_pure (o := { dst := some 155, op := Go.Op.fieldAddr 37 (Go.Operand.tmp 154) 0, type := 0, pos := "plan.go:162", after := #[{ on := 9, ground := Go.Ground.data }], guard := none }) (v := ?vy210) (by rw [hops]; rfl) (by first | exact trivial | rfl) ?ey210 ?hy210
                        case ey210 => intro w'; go_simp; (try rfl)
                        (try simp only [Act.put, List.setIfInBounds_toArray, List.set_cons_zero, List.set_cons_succ])
                        refine wpLinG_read (o := { dst := some 156, op := Go.Op.load 3 (Go.Operand.tmp 155), type := 3, pos := "plan.go:162", after := #[{ on := 10, ground := Go.Ground.data }], guard := none }) (v := ?vy211) (by rw [hops]; rfl) (by first | exact trivial | rfl) hS ?ey211 ?hy211
                        case ey211 => intro w' hw'; obtain ⟨l0, l1, l2, hsp, _⟩ := hw'; have t0 := (hsp.at t htn).1; have t1 := (hsp.at t htn).2; rw [hc] at t0; rw [et] at t1; go_simp; (try rfl)
                        (try simp only [Act.put, List.setIfInBounds_toArray, List.set_cons_zero, List.set_cons_succ])
                        refine wpLinG_pure (o := { dst := some 157, op := Go.Op.move (Go.Operand.tmp 14), type := 3, pos := "plan.go:162", after := #[], guard := none }) (v := ?vy212) (by rw [hops]; rfl) (by first | exact trivial | rfl) ?ey212 ?hy212
                        case ey212 => intro w'; go_simp; (try rfl)
                        (try simp only [Act.put, List.setIfInBounds_toArray, List.set_cons_zero, List.set_cons_succ])
                        refine wpLinG_pure (o := { dst := some 158, op := Go.Op.binOp Go.BinOp.sub 3 (Go.Operand.tmp 156) (Go.Operand.tmp 157) 3, type := 3, pos := "plan.go:162", after := #[{ on := 11, ground := Go.Ground.data }, { on := 12, ground := Go.Ground.data }], guard := none }) (v := ?vy213) (by rw [hops]; rfl) (by first | exact trivial | rfl) ?ey213 ?hy213
                        case ey213 => intro w'; go_simp; (try rfl)
                        (try simp only [Act.put, List.setIfInBounds_toArray, List.set_cons_zero, List.set_cons_succ])
                        refine wpLinG_pure (o := { dst := some 159, op := Go.Op.move (Go.Operand.tmp 8), type := 23, pos := "plan.go:162", after := #[], guard := none }) (v := ?vy214) (by rw [hops]; rfl) (by first | exact trivial | rfl) ?ey214 ?hy214
                        case ey214 => intro w'; go_simp; (try rfl)
                        (try simp only [Act.put, List.setIfInBounds_toArray, List.set_cons_zero, List.set_cons_succ])
                        refine wpLinG_pure (o := { dst := some 160, op := Go.Op.fieldAddr 47 (Go.Operand.tmp 13) 0, type := 0, pos := "plan.go:162", after := #[], guard := none }) (v := ?vy215) (by rw [hops]; rfl) (by first | exact trivial | rfl) ?ey215 ?hy215
                        case ey215 => intro w'; go_simp; (try rfl)
                        (try simp only [Act.put, List.setIfInBounds_toArray, List.set_cons_zero, List.set_cons_succ])
                        refine wpLinG_look (o := { dst := some 161, op := Go.Op.load 3 (Go.Operand.tmp 160), type := 3, pos := "plan.go:162", after := #[{ on := 15, ground := Go.Ground.data }], guard := none }) (v := ?vy216) (by rw [hops]; rfl) (by first | exact trivial | rfl) hR ?ey216 ?hy216
                        case ey216 => intro w' hw'; have l0 := hw'; go_simp; (try rfl)
                        (try simp only [Act.put, List.setIfInBounds_toArray, List.set_cons_zero, List.set_cons_succ])
                        refine wpLinG_pure (o := { dst := some 162, op := Go.Op.indexAddr 23 (Go.Operand.tmp 159) (Go.Operand.tmp 161), type := 0, pos := "plan.go:162", after := #[{ on := 14, ground := Go.Ground.data }, { on := 16, ground := Go.Ground.data }], guard := none }) (v := ?vy217) (by rw [hops]; rfl) (by first | exact trivial | rfl) ?ey217 ?hy217
                        case ey217 => intro w'; go_simp; (try rfl)
                        (try simp only [Act.put, List.setIfInBounds_toArray, List.set_cons_zero, List.set_cons_succ])
                        refine wpLinG_pure (o := { dst := some 163, op := Go.Op.fieldAddr 37 (Go.Operand.tmp 162) 1, type := 0, pos := "plan.go:162", after := #[{ on := 17, ground := Go.Ground.data }], guard := none }) (v := ?vy218) (by rw [hops]; rfl) (by first | exact trivial | rfl) ?ey218 ?hy218
                        case ey218 => intro w'; go_simp; (try rfl)
                        (try simp only [Act.put, List.setIfInBounds_toArray, List.set_cons_zero, List.set_cons_succ])
                        refine wpLinG_read (o := { dst := some 164, op := Go.Op.load 3 (Go.Operand.tmp 163), type := 3, pos := "plan.go:162", after := #[{ on := 18, ground := Go.Ground.data }], guard := none }) (v := ?vy219) (by rw [hops]; rfl) (by first | exact trivial | rfl) hS ?ey219 ?hy219
                        case ey219 => intro w' hw'; obtain ⟨l0, l1, l2, hsp, _⟩ := hw'; have t0 := (hsp.at t htn).1; have t1 := (hsp.at t htn).2; rw [hc] at t0; rw [et] at t1; go_simp; (try rfl)
                        (try simp only [Act.put, List.setIfInBounds_toArray, List.set_cons_zero, List.set_cons_succ])
                        refine wpLinG_pure (o := { dst := some 165, op := Go.Op.move (Go.Operand.tmp 14), type := 3, pos := "plan.go:162", after := #[], guard := none }) (v := ?vy220) (by rw [hops]; rfl) (by first | exact trivial | rfl) ?ey220 ?hy220
                        case ey220 => intro w'; go_simp; (try rfl)
                        (try simp only [Act.put, List.setIfInBounds_toArray, List.set_cons_zero, List.set_cons_succ])
                        refine wpLinG_pure (o := { dst := some 166, op := Go.Op.binOp Go.BinOp.sub 3 (Go.Operand.tmp 164) (Go.Operand.tmp 165) 3, type := 3, pos := "plan.go:162", after := #[{ on := 19, ground := Go.Ground.data }, { on := 20, ground := Go.Ground.data }], guard := none }) (v := ?vy221) (by rw [hops]; rfl) (by first | exact trivial | rfl) ?ey221 ?hy221
                        case ey221 => intro w'; go_simp; (try rfl)
                        (try simp only [Act.put, List.setIfInBounds_toArray, List.set_cons_zero, List.set_cons_succ])
                        refine wpLinG_pure (o := { dst := some 167, op := Go.Op.indexAddr 23 (Go.Operand.tmp 145) (Go.Operand.tmp 147), type := 0, pos := "plan.go:162", after := #[{ on := 0, ground := Go.Ground.data }, { on := 2, ground := Go.Ground.data }, { on := 0, ground := Go.Ground.phase }, { on := 1, ground := Go.Ground.phase }, { on := 2, ground := Go.Ground.phase }, { on := 3, ground := Go.Ground.textOnly Go.Departure.lateStores }, { on := 4, ground := Go.Ground.textOnly Go.Departure.lateStores }, { on := 5, ground := Go.Ground.textOnly Go.Departure.lateStores }, { on := 6, ground := Go.Ground.phase }, { on := 7, ground := Go.Ground.phase }, { on := 8, ground := Go.Ground.phase }, { on := 9, ground := Go.Ground.phase }, { on := 10, ground := Go.Ground.phase }, { on := 11, ground := Go.Ground.phase }, { on := 12, ground := Go.Ground.phase }, { on := 13, ground := Go.Ground.phase }, { on := 14, ground := Go.Ground.textOnly Go.Departure.lateStores }, { on := 15, ground := Go.Ground.textOnly Go.Departure.lateStores }, { on := 16, ground := Go.Ground.textOnly Go.Departure.lateStores }, { on := 17, ground := Go.Ground.textOnly Go.Departure.lateStoresUnsure }, { on := 18, ground := Go.Ground.textOnly Go.Departure.lateStoresUnsure }, { on := 19, ground := Go.Ground.phase }, { on := 20, ground := Go.Ground.textOnly Go.Departure.lateStores }, { on := 21, ground := Go.Ground.textOnly Go.Departure.lateStoresUnsure }], guard := none }) (v := ?vy222) (by rw [hops]; rfl) (by first | exact trivial | rfl) ?ey222 ?hy222
                        case ey222 => intro w'; go_simp; (try rfl)
                        (try simp only [Act.put, List.setIfInBounds_toArray, List.set_cons_zero, List.set_cons_succ])
                        refine wpLinG_pure (o := { dst := some 168, op := Go.Op.fieldAddr 37 (Go.Operand.tmp 167) 0, type := 0, pos := "plan.go:162", after := #[{ on := 22, ground := Go.Ground.data }, { on := 0, ground := Go.Ground.phase }, { on := 1, ground := Go.Ground.phase }, { on := 2, ground := Go.Ground.phase }, { on := 3, ground := Go.Ground.textOnly Go.Departure.lateStores }, { on := 4, ground := Go.Ground.textOnly Go.Departure.lateStores }, { on := 5, ground := Go.Ground.textOnly Go.Departure.lateStores }, { on := 6, ground := Go.Ground.phase }, { on := 7, ground := Go.Ground.phase }, { on := 8, ground := Go.Ground.phase }, { on := 9, ground := Go.Ground.phase }, { on := 10, ground := Go.Ground.phase }, { on := 11, ground := Go.Ground.phase }, { on := 12, ground := Go.Ground.phase }, { on := 13, ground := Go.Ground.phase }, { on := 14, ground := Go.Ground.textOnly Go.Departure.lateStores }, { on := 15, ground := Go.Ground.textOnly Go.Departure.lateStores }, { on := 16, ground := Go.Ground.textOnly Go.Departure.lateStores }, { on := 17, ground := Go.Ground.textOnly Go.Departure.lateStoresUnsure }, { on := 18, ground := Go.Ground.textOnly Go.Departure.lateStoresUnsure }, { on := 19, ground := Go.Ground.phase }, { on := 20, ground := Go.Ground.textOnly Go.Departure.lateStores }, { on := 21, ground := Go.Ground.textOnly Go.Departure.lateStoresUnsure }], guard := none }) (v := ?vy223) (by rw [hops]; rfl) (by first | exact trivial | rfl) ?ey223 ?hy223
                        case ey223 => intro w'; go_simp; (try rfl)
                        (try simp only [Act.put, List.setIfInBounds_toArray, List.set_cons_zero, List.set_cons_succ])
                        refine wpLinG_store (o := { dst := none, op := Go.Op.store 3 (Go.Operand.tmp 168) (Go.Operand.tmp 158), type := 0, pos := "plan.go:162", after := #[{ on := 23, ground := Go.Ground.data }, { on := 13, ground := Go.Ground.data }, { on := 0, ground := Go.Ground.phase }, { on := 1, ground := Go.Ground.phase }, { on := 2, ground := Go.Ground.phase }, { on := 3, ground := Go.Ground.textOnly Go.Departure.lateStores }, { on := 4, ground := Go.Ground.textOnly Go.Departure.lateStores }, { on := 5, ground := Go.Ground.textOnly Go.Departure.lateStores }, { on := 6, ground := Go.Ground.phase }, { on := 7, ground := Go.Ground.phase }, { on := 8, ground := Go.Ground.phase }, { on := 9, ground := Go.Ground.phase }, { on := 10, ground := Go.Ground.phase }, { on := 11, ground := Go.Ground.phase }, { on := 12, ground := Go.Ground.phase }, { on := 13, ground := Go.Ground.phase }, { on := 14, ground := Go.Ground.textOnly Go.Departure.lateStores }, { on := 15, ground := Go.Ground.textOnly Go.Departure.lateStores }, { on := 16, ground := Go.Ground.textOnly Go.Departure.lateStores }, { on := 17, ground := Go.Ground.textOnly Go.Departure.lateStoresUnsure }, { on := 18, ground := Go.Ground.textOnly Go.Departure.lateStoresUnsure }, { on := 19, ground := Go.Ground.phase }, { on := 20, ground := Go.Ground.textOnly Go.Departure.lateStores }, { on := 21, ground := Go.Ground.textOnly Go.Departure.lateStoresUnsure }], guard := none }) (by rw [hops]; rfl) (by first | exact trivial | rfl) (fun K hK => ?_)
                        go_simp
                        have hcx := (hS0.sp.at t htn).1
                        have hfx := hS0.sp.froz (t * 2)
                        go_simp
                        refine hK _ _ ((cell_other (p := ⟨q, t * 2, none⟩) hzq).trans hR) ?_
                        clear hK K
                        (try simp only [Act.put, List.setIfInBounds_toArray, List.set_cons_zero, List.set_cons_succ])
                        refine wpLinG_pure (o := { dst := some 169, op := Go.Op.indexAddr 23 (Go.Operand.tmp 148) (Go.Operand.tmp 150), type := 0, pos := "plan.go:162", after := #[{ on := 3, ground := Go.Ground.data }, { on := 5, ground := Go.Ground.data }, { on := 0, ground := Go.Ground.phase }, { on := 1, ground := Go.Ground.phase }, { on := 2, ground := Go.Ground.phase }, { on := 3, ground := Go.Ground.phase }, { on := 4, ground := Go.Ground.phase }, { on := 5, ground := Go.Ground.phase }, { on := 6, ground := Go.Ground.phase }, { on := 7, ground := Go.Ground.phase }, { on := 8, ground := Go.Ground.phase }, { on := 9, ground := Go.Ground.phase }, { on := 10, ground := Go.Ground.phase }, { on := 11, ground := Go.Ground.phase }, { on := 12, ground := Go.Ground.phase }, { on := 13, ground := Go.Ground.phase }, { on := 14, ground := Go.Ground.phase }, { on := 15, ground := Go.Ground.phase }, { on := 16, ground := Go.Ground.phase }, { on := 17, ground := Go.Ground.phase }, { on := 18, ground := Go.Ground.phase }, { on := 19, ground := Go.Ground.phase }, { on := 20, ground := Go.Ground.phase }, { on := 21, ground := Go.Ground.phase }, { on := 22, ground := Go.Ground.phase }, { on := 23, ground := Go.Ground.phase }, { on := 24, ground := Go.Ground.phase }], guard := none }) (v := ?vy225) (by rw [hops]; rfl) (by first | exact trivial | rfl) ?ey225 ?hy225
                        case ey225 => intro w'; go_simp; (try rfl)
                        (try simp only [Act.put, List.setIfInBounds_toArray, List.set_cons_zero, List.set_cons_succ])
                        refine wpLinG_pure (o := { dst := some 170, op := Go.Op.fieldAddr 37 (Go.Operand.tmp 169) 1, type := 0, pos := "plan.go:162", after := #[{ on := 25, ground := Go.Ground.data }, { on := 0, ground := Go.Ground.phase }, { on := 1, ground := Go.Ground.phase }, { on := 2, ground := Go.Ground.phase }, { on := 3, ground := Go.Ground.phase }, { on := 4, ground := Go.Ground.phase }, { on := 5, ground := Go.Ground.phase }, { on := 6, ground := Go.Ground.phase }, { on := 7, ground := Go.Ground.phase }, { on := 8, ground := Go.Ground.phase }, { on := 9, ground := Go.Ground.phase }, { on := 10, ground := Go.Ground.phase }, { on := 11, ground := Go.Ground.phase }, { on := 12, ground := Go.Ground.phase }, { on := 13, ground := Go.Ground.phase }, { on := 14, ground := Go.Ground.phase }, { on := 15, ground := Go.Ground.phase }, { on := 16, ground := Go.Ground.phase }, { on := 17, ground := Go.Ground.phase }, { on := 18, ground := Go.Ground.phase }, { on := 19, ground := Go.Ground.phase }, { on := 20, ground := Go.Ground.phase }, { on := 21, ground := Go.Ground.phase }, { on := 22, ground := Go.Ground.phase }, { on := 23, ground := Go.Ground.phase }, { on := 24, ground := Go.Ground.phase }], guard := none }) (v := ?vy226) (by rw [hops]; rfl) (by first | exact trivial | rfl) ?ey226 ?hy226
                        case ey226 => intro w'; go_simp; (try rfl)
                        (try simp only [Act.put, List.setIfInBounds_toArray, List.set_cons_zero, List.set_cons_succ])
                        refine wpLinG_store (o := { dst := none, op := Go.Op.store 3 (Go.Operand.tmp 170) (Go.Operand.tmp 166), type := 0, pos := "plan.go:162", after := #[{ on := 26, ground := Go.Ground.data }, { on := 21, ground := Go.Ground.data }, { on := 24, ground := Go.Ground.chain }, { on := 0, ground := Go.Ground.phase }, { on := 1, ground := Go.Ground.phase }, { on := 2, ground := Go.Ground.phase }, { on := 3, ground := Go.Ground.phase }, { on := 4, ground := Go.Ground.phase }, { on := 5, ground := Go.Ground.phase }, { on := 6, ground := Go.Ground.phase }, { on := 7, ground := Go.Ground.phase }, { on := 8, ground := Go.Ground.phase }, { on := 9, ground := Go.Ground.phase }, { on := 10, ground := Go.Ground.phase }, { on := 11, ground := Go.Ground.phase }, { on := 12, ground := Go.Ground.phase }, { on := 13, ground := Go.Ground.phase }, { on := 14, ground := Go.Ground.phase }, { on := 15, ground := Go.Ground.phase }, { on := 16, ground := Go.Ground.phase }, { on := 17, ground := Go.Ground.phase }, { on := 18, ground := Go.Ground.phase }, { on := 19, ground := Go.Ground.phase }, { on := 20, ground := Go.Ground.phase }, { on := 21, ground := Go.Ground.phase }, { on := 22, ground := Go.Ground.phase }, { on := 23, ground := Go.Ground.phase }, { on := 24, ground := Go.Ground.phase }], guard := none }) (by rw [hops]; rfl) (by first | exact trivial | rfl) (fun K hK => ?_)
                        go_simp
                        have hcy := (hS0.sp.at t htn).2
                        have hfy := hS0.sp.froz (t * 2 + 1)
                        go_simp
                        refine hK _ _ ((cell_other (p := ⟨q, t * 2 + 1, none⟩) hzq).trans ((cell_other (p := ⟨q, t * 2, none⟩) hzq).trans hR)) ?_
                        clear hK K
                        (try simp only [Act.put, List.setIfInBounds_toArray, List.set_cons_zero, List.set_cons_succ])
                        subst hQ'
                        refine NoPanic.normal ?_
                        clear hops
                        have hnn : nn = c1 + gg - a1 := HNN.out
                        have hset := (hS0.sp.set t htn (c1 - nn) (c1 + lt - nn)).step (Below.drew (Below.refl _ _))
                        have hbs := Below.drew ((hS0.b.setCell (p := ⟨q, t * 2, none⟩) hqw (.int .i64 (c1 - nn))).setCell (p := ⟨q, t * 2 + 1, none⟩) hqw (.int .i64 (c1 + lt - nn)))
                        have hpn := HPN.out
                        rw [show a1 - gg = c1 - nn by omega, show c1 - nn + lt = c1 + lt - nn by omega] at hpn
                        clear hS hR hS0 hnn
                        go_wp2_with fail
                        go_roundw
                        case rel => exact ⟨k + 1, _, true, by omega, by go_num, rfl, hpn, hset, hbs⟩
                        case measure => simp [intOf]; omega
                      · rw [if_neg (by decide), if_pos (by decide)] at hgp
                        have e3 := wrap64_id (x := c1 + xg - (a1 + lm)) (by omega) (by omega)
                        have f3 := i64_id (x := c1 + xg - (a1 + lm)) (by omega) (by omega)
                        have HNN := hide (show c1 + xg - (a1 + lm) = c1 + gg - a1 by omega)
                        clear hgp
                        go_wp2_with fail
                        go_quiet (fail)
                        go_wp2_with fail
                        generalize hne : c1 + xg - (a1 + lm) = nn at *
                        have hS0 := hS.step (bdr (Below.refl X.heap.size X) nq)
                        clear l0 l1 l2 s0 s1 t0 t1 hS e1 e2 e3 f1 f2 f3 hne
                        generalize X.drewN nq = Y at *
                        have hS := hS0.step (Below.drew (Below.refl _ _))
                        have hR := hS.l0
                        have hnn : nn = c1 + gg - a1 := HNN.out
                        have f4 := i64_id (x := c1 - nn) (by omega) (by omega)
                        have f5 := i64_id (x := c1 + lt - nn) (by omega) (by omega)
                        clear hnn
                        refine wp_region_noPanic ?_
                        refine wp_region_linGM (S := fun X => LrS w q P.length s zz t 4 xg X) (R := fun X => X.cell? ⟨zz, 0, none⟩ = some (.int .i64 (t : Int))) [24, 27] (by kernel_rfl) (by kernel_rfl) [(0, none, 1), (1, none, 1), (2, none, 4), (3, none, 1), (4, none, 1), (5, none, 4), (6, none, 1), (7, none, 1), (8, none, 4), (9, none, 1), (10, none, 1), (11, none, 0), (12, none, 1), (13, none, 1), (14, none, 1), (15, none, 1), (16, none, 4), (17, none, 1), (18, none, 1), (19, none, 0), (20, none, 1), (21, none, 1), (22, none, 1), (23, none, 1), (24, none, 3), (25, none, 1), (26, none, 1), (27, none, 3)] (by kernel_rfl) (by kernel_rfl) (fun _ _ _ _ _ h => h) (by exact hR) (by exact hS) (fun ops' Q' hops hQ' => ?_)
                        refine wpLinG_pure (o := { dst := some 145, op := Go.Op.move (Go.Operand.tmp 8), type := 23, pos := "plan.go:162", after := #[], guard := none }) (v := ?vy30) (by rw [hops]; rfl) (by first | exact trivial | rfl) ?ey30 ?hy30
                        case ey30 => intro w'; go_simp; (try rfl)
                        (try simp only [Act.put, List.setIfInBounds_toArray, List.set_cons_zero, List.set_cons_succ])
                        refine wpLinG_pure (o := { dst := some 146, op := Go.Op.fieldAddr 47 (Go.Operand.tmp 13) 0, type := 0, pos := "plan.go:162", after := #[], guard := none }) (v := ?vy31) (by rw [hops]; rfl) (by first | exact trivial | rfl) ?ey31 ?hy31
                        case ey31 => intro w'; go_simp; (try rfl)
                        (try simp only [Act.put, List.setIfInBounds_toArray, List.set_cons_zero, List.set_cons_succ])
                        refine wpLinG_look (o := { dst := some 147, op := Go.Op.load 3 (Go.Operand.tmp 146), type := 3, pos := "plan.go:162", after := #[{ on := 1, ground := Go.Ground.data }], guard := none }) (v := ?vy32) (by rw [hops]; rfl) (by first | exact trivial | rfl) hR ?ey32 ?hy32
                        case ey32 => intro w' hw'; have l0 := hw'; go_simp; (try rfl)
                        (try simp only [Act.put, List.setIfInBounds_toArray, List.set_cons_zero, List.set_cons_succ])
                        refine wpLinG_pure (o := { dst := some 148, op := Go.Op.move (Go.Operand.tmp 8), type := 23, pos := "plan.go:162", after := #[{ on := 24, ground := Go.Ground.gcOnly Go.Departure.lateStores }], guard := none }) (v := ?vy33) (by rw [hops]; rfl) (by first | exact trivial | rfl) ?ey33 ?hy33
                        case ey33 => intro w'; go_simp; (try rfl)
                        (try simp only [Act.put, List.setIfInBounds_toArray, List.set_cons_zero, List.set_cons_succ])
                        refine wpLinG_pure (o := { dst := some 149, op := Go.Op.fieldAddr 47 (Go.Operand.tmp 13) 0, type := 0, pos := "plan.go:162", after := #[{ on := 24, ground := Go.Ground.gcOnly Go.Departure.lateStores }], guard := none }) (v := ?vy34) (by rw [hops]; rfl) (by first | exact trivial | rfl) ?ey34 ?hy34
                        case ey34 => intro w'; go_simp; (try rfl)
                        (try simp only [Act.put, List.setIfInBounds_toArray, List.set_cons_zero, List.set_cons_succ])
                        refine wpLinG_look (o := { dst := some 150, op := Go.Op.load 3 (Go.Operand.tmp 149), type := 3, pos := "plan.go:162", after := #[{ on := 4, ground := Go.Ground.data }, { on := 24, ground := Go.Ground.gcOnly Go.Departure.lateStores }], guard := none }) (v := ?vy35) (by rw [hops]; rfl) (by first | exact trivial | rfl) hR ?ey35 ?hy35
                        case ey35 => intro w' hw'; have l0 := hw'; go_simp; (try rfl)
                        (try simp only [Act.put, List.setIfInBounds_toArray, List.set_cons_zero, List.set_cons_succ])
                        refine wpLinG_pure (o := { dst := some 151, op := Go.Op.move (Go.Operand.tmp 8), type := 23, pos := "plan.go:162", after := #[], guard := none }) (v := ?vy36) (by rw [hops]; rfl) (by first | exact trivial | rfl) ?ey36 ?hy36
                        case ey36 => intro w'; go_simp; (try rfl)
                        (try simp only [Act.put, List.setIfInBounds_toArray, List.set_cons_zero, List.set_cons_succ])
                        refine wpLinG_pure (o := { dst := some 152, op := Go.Op.fieldAddr 47 (Go.Operand.tmp 13) 0, type := 0, pos := "plan.go:162", after := #[], guard := none }) (v := ?vy37) (by rw [hops]; rfl) (by first | exact trivial | rfl) ?ey37 ?hy37
                        case ey37 => intro w'; go_simp; (try rfl)
                        (try simp only [Act.put, List.setIfInBounds_toArray, List.set_cons_zero, List.set_cons_succ])
                        refine wpLinG_look (o := { dst := some 153, op := Go.Op.load 3 (Go.Operand.tmp 152), type := 3, pos := "plan.go:162", after := #[{ on := 7, ground := Go.Ground.data }], guard := none }) (v := ?vy38) (by rw [hops]; rfl) (by first | exact trivial | rfl) hR ?ey38 ?hy38
                        case ey38 => intro w' hw'; have l0 := hw'; go_simp; (try rfl)
                        (try simp only [Act.put, List.setIfInBounds_toArray, List.set_cons_zero, List.set_cons_succ])
                        refine wpLinG_pure (o := { dst := some 154, op := Go.Op.indexAddr 23 (Go.Operand.tmp 151) (Go.Operand.tmp 153), type := 0, pos := "plan.go:162", after := #[{ on := 6, ground := Go.Ground.data }, { on := 8, ground := Go.Ground.data }], guard := none }) (v := ?vy39) (by rw [hops]; rfl) (by first | exact trivial | rfl) ?ey39 ?hy39
                        case ey39 => intro w'; go_simp; (try rfl)
                        (try simp only [Act.put, List.setIfInBounds_toArray, List.set_cons_zero, List.set_cons_succ])
                        refine wpLinG_pure (o := { dst := some 155, op := Go.Op.fieldAddr 37 (Go.Operand.tmp 154) 0, type := 0, pos := "plan.go:162", after := #[{ on := 9, ground := Go.Ground.data }], guard := none }) (v := ?vy310) (by rw [hops]; rfl) (by first | exact trivial | rfl) ?ey310 ?hy310
                        case ey310 => intro w'; go_simp; (try rfl)
                        (try simp only [Act.put, List.setIfInBounds_toArray, List.set_cons_zero, List.set_cons_succ])
                        refine wpLinG_read (o := { dst := some 156, op := Go.Op.load 3 (Go.Operand.tmp 155), type := 3, pos := "plan.go:162", after := #[{ on := 10, ground := Go.Ground.data }], guard := none }) (v := ?vy311) (by rw [hops]; rfl) (by first | exact trivial | rfl) hS ?ey311 ?hy311
                        case ey311 => intro w' hw'; obtain ⟨l0, l1, l2, hsp, _⟩ := hw'; have t0 := (hsp.at t htn).1; have t1 := (hsp.at t htn).2; rw [hc] at t0; rw [et] at t1; go_simp; (try rfl)
                        (try simp only [Act.put, List.setIfInBounds_toArray, List.set_cons_zero, List.set_cons_succ])
                        refine wpLinG_pure (o := { dst := some 157, op := Go.Op.move (Go.Operand.tmp 14), type := 3, pos := "plan.go:162", after := #[], guard := none }) (v := ?vy312) (by rw [hops]; rfl) (by first | exact trivial | rfl) ?ey312 ?hy312
                        case ey312 => intro w'; go_simp; (try rfl)
                        (try simp only [Act.put, List.setIfInBounds_toArray, List.set_cons_zero, List.set_cons_succ])
                        refine wpLinG_pure (o := { dst := some 158, op := Go.Op.binOp Go.BinOp.sub 3 (Go.Operand.tmp 156) (Go.Operand.tmp 157) 3, type := 3, pos := "plan.go:162", after := #[{ on := 11, ground := Go.Ground.data }, { on := 12, ground := Go.Ground.data }], guard := none }) (v := ?vy313) (by rw [hops]; rfl) (by first | exact trivial | rfl) ?ey313 ?hy313
                        case ey313 => intro w'; go_simp; (try rfl)
                        (try simp only [Act.put, List.setIfInBounds_toArray, List.set_cons_zero, List.set_cons_succ])
                        refine wpLinG_pure (o := { dst := some 159, op := Go.Op.move (Go.Operand.tmp 8), type := 23, pos := "plan.go:162", after := #[], guard := none }) (v := ?vy314) (by rw [hops]; rfl) (by first | exact trivial | rfl) ?ey314 ?hy314
                        case ey314 => intro w'; go_simp; (try rfl)
                        (try simp only [Act.put, List.setIfInBounds_toArray, List.set_cons_zero, List.set_cons_succ])
                        refine wpLinG_pure (o := { dst := some 160, op := Go.Op.fieldAddr 47 (Go.Operand.tmp 13) 0, type := 0, pos := "plan.go:162", after := #[], guard := none }) (v := ?vy315) (by rw [hops]; rfl) (by first | exact trivial | rfl) ?ey315 ?hy315
                        case ey315 => intro w'; go_simp; (try rfl)
                        (try simp only [Act.put, List.setIfInBounds_toArray, List.set_cons_zero, List.set_cons_succ])
                        refine wpLinG_look (o := { dst := some 161, op := Go.Op.load 3 (Go.Operand.tmp 160), type := 3, pos := "plan.go:162", after := #[{ on := 15, ground := Go.Ground.data }], guard := none }) (v := ?vy316) (by rw [hops]; rfl) (by first | exact trivial | rfl) hR ?ey316 ?hy316
                        case ey316 => intro w' hw'; have l0 := hw'; go_simp; (try rfl)
                        (try simp only [Act.put, List.setIfInBounds_toArray, List.set_cons_zero, List.set_cons_succ])
                        refine wpLinG_pure (o := { dst := some 162, op := Go.Op.indexAddr 23 (Go.Operand.tmp 159) (Go.Operand.tmp 161), type := 0, pos := "plan.go:162", after := #[{ on := 14, ground := Go.Ground.data }, { on := 16, ground := Go.Ground.data }], guard := none }) (v := ?vy317) (by rw [hops]; rfl) (by first | exact trivial | rfl) ?ey317 ?hy317
                        case ey317 => intro w'; go_simp; (try rfl)
                        (try simp only [Act.put, List.setIfInBounds_toArray, List.set_cons_zero, List.set_cons_succ])
                        refine wpLinG_pure (o := { dst := some 163, op := Go.Op.fieldAddr 37 (Go.Operand.tmp 162) 1, type := 0, pos := "plan.go:162", after := #[{ on := 17, ground := Go.Ground.data }], guard := none }) (v := ?vy318) (by rw [hops]; rfl) (by first | exact trivial | rfl) ?ey318 ?hy318
                        case ey318 => intro w'; go_simp; (try rfl)
                        (try simp only [Act.put, List.setIfInBounds_toArray, List.set_cons_zero, List.set_cons_succ])
                        refine wpLinG_read (o := { dst := some 164, op := Go.Op.load 3 (Go.Operand.tmp 163), type := 3, pos := "plan.go:162", after := #[{ on := 18, ground := Go.Ground.data }], guard := none }) (v := ?vy319) (by rw [hops]; rfl) (by first | exact trivial | rfl) hS ?ey319 ?hy319
                        case ey319 => intro w' hw'; obtain ⟨l0, l1, l2, hsp, _⟩ := hw'; have t0 := (hsp.at t htn).1; have t1 := (hsp.at t htn).2; rw [hc] at t0; rw [et] at t1; go_simp; (try rfl)
                        (try simp only [Act.put, List.setIfInBounds_toArray, List.set_cons_zero, List.set_cons_succ])
                        refine wpLinG_pure (o := { dst := some 165, op := Go.Op.move (Go.Operand.tmp 14), type := 3, pos := "plan.go:162", after := #[], guard := none }) (v := ?vy320) (by rw [hops]; rfl) (by first | exact trivial | rfl) ?ey320 ?hy320
                        case ey320 => intro w'; go_simp; (try rfl)
                        (try simp only [Act.put, List.setIfInBounds_toArray, List.set_cons_zero, List.set_cons_succ])
                        refine wpLinG_pure (o := { dst := some 166, op := Go.Op.binOp Go.BinOp.sub 3 (Go.Operand.tmp 164) (Go.Operand.tmp 165) 3, type := 3, pos := "plan.go:162", after := #[{ on := 19, ground := Go.Ground.data }, { on := 20, ground := Go.Ground.data }], guard := none }) (v := ?vy321) (by rw [hops]; rfl) (by first | exact trivial | rfl) ?ey321 ?hy321
                        case ey321 => intro w'; go_simp; (try rfl)
                        (try simp only [Act.put, List.setIfInBounds_toArray, List.set_cons_zero, List.set_cons_succ])
                        refine wpLinG_pure (o := { dst := some 167, op := Go.Op.indexAddr 23 (Go.Operand.tmp 145) (Go.Operand.tmp 147), type := 0, pos := "plan.go:162", after := #[{ on := 0, ground := Go.Ground.data }, { on := 2, ground := Go.Ground.data }, { on := 0, ground := Go.Ground.phase }, { on := 1, ground := Go.Ground.phase }, { on := 2, ground := Go.Ground.phase }, { on := 3, ground := Go.Ground.textOnly Go.Departure.lateStores }, { on := 4, ground := Go.Ground.textOnly Go.Departure.lateStores }, { on := 5, ground := Go.Ground.textOnly Go.Departure.lateStores }, { on := 6, ground := Go.Ground.phase }, { on := 7, ground := Go.Ground.phase }, { on := 8, ground := Go.Ground.phase }, { on := 9, ground := Go.Ground.phase }, { on := 10, ground := Go.Ground.phase }, { on := 11, ground := Go.Ground.phase }, { on := 12, ground := Go.Ground.phase }, { on := 13, ground := Go.Ground.phase }, { on := 14, ground := Go.Ground.textOnly Go.Departure.lateStores }, { on := 15, ground := Go.Ground.textOnly Go.Departure.lateStores }, { on := 16, ground := Go.Ground.textOnly Go.Departure.lateStores }, { on := 17, ground := Go.Ground.textOnly Go.Departure.lateStoresUnsure }, { on := 18, ground := Go.Ground.textOnly Go.Departure.lateStoresUnsure }, { on := 19, ground := Go.Ground.phase }, { on := 20, ground := Go.Ground.textOnly Go.Departure.lateStores }, { on := 21, ground := Go.Ground.textOnly Go.Departure.lateStoresUnsure }], guard := none }) (v := ?vy322) (by rw [hops]; rfl) (by first | exact trivial | rfl) ?ey322 ?hy322
                        case ey322 => intro w'; go_simp; (try rfl)
                        (try simp only [Act.put, List.setIfInBounds_toArray, List.set_cons_zero, List.set_cons_succ])
                        refine wpLinG_pure (o := { dst := some 168, op := Go.Op.fieldAddr 37 (Go.Operand.tmp 167) 0, type := 0, pos := "plan.go:162", after := #[{ on := 22, ground := Go.Ground.data }, { on := 0, ground := Go.Ground.phase }, { on := 1, ground := Go.Ground.phase }, { on := 2, ground := Go.Ground.phase }, { on := 3, ground := Go.Ground.textOnly Go.Departure.lateStores }, { on := 4, ground := Go.Ground.textOnly Go.Departure.lateStores }, { on := 5, ground := Go.Ground.textOnly Go.Departure.lateStores }, { on := 6, ground := Go.Ground.phase }, { on := 7, ground := Go.Ground.phase }, { on := 8, ground := Go.Ground.phase }, { on := 9, ground := Go.Ground.phase }, { on := 10, ground := Go.Ground.phase }, { on := 11, ground := Go.Ground.phase }, { on := 12, ground := Go.Ground.phase }, { on := 13, ground := Go.Ground.phase }, { on := 14, ground := Go.Ground.textOnly Go.Departure.lateStores }, { on := 15, ground := Go.Ground.textOnly Go.Departure.lateStores }, { on := 16, ground := Go.Ground.textOnly Go.Departure.lateStores }, { on := 17, ground := Go.Ground.textOnly Go.Departure.lateStoresUnsure }, { on := 18, ground := Go.Ground.textOnly Go.Departure.lateStoresUnsure }, { on := 19, ground := Go.Ground.phase }, { on := 20, ground := Go.Ground.textOnly Go.Departure.lateStores }, { on := 21, ground := Go.Ground.textOnly Go.Departure.lateStoresUnsure }], guard := none }) (v := ?vy323) (by rw [hops]; rfl) (by first | exact trivial | rfl) ?ey323 ?hy323
                        case ey323 => intro w'; go_simp; (try rfl)
                        (try simp only [Act.put, List.setIfInBounds_toArray, List.set_cons_zero, List.set_cons_succ])
                        refine wpLinG_store (o := { dst := none, op := Go.Op.store 3 (Go.Operand.tmp 168) (Go.Operand.tmp 158), type := 0, pos := "plan.go:162", after := #[{ on := 23, ground := Go.Ground.data }, { on := 13, ground := Go.Ground.data }, { on := 0, ground := Go.Ground.phase }, { on := 1, ground := Go.Ground.phase }, { on := 2, ground := Go.Ground.phase }, { on := 3, ground := Go.Ground.textOnly Go.Departure.lateStores }, { on := 4, ground := Go.Ground.textOnly Go.Departure.lateStores }, { on := 5, ground := Go.Ground.textOnly Go.Departure.lateStores }, { on := 6, ground := Go.Ground.phase }, { on := 7, ground := Go.Ground.phase }, { on := 8, ground := Go.Ground.phase }, { on := 9, ground := Go.Ground.phase }, { on := 10, ground := Go.Ground.phase }, { on := 11, ground := Go.Ground.phase }, { on := 12, ground := Go.Ground.phase }, { on := 13, ground := Go.Ground.phase }, { on := 14, ground := Go.Ground.textOnly Go.Departure.lateStores }, { on := 15, ground := Go.Ground.textOnly Go.Departure.lateStores }, { on := 16, ground := Go.Ground.textOnly Go.Departure.lateStores }, { on := 17, ground := Go.Ground.textOnly Go.Departure.lateStoresUnsure }, { on := 18, ground := Go.Ground.textOnly Go.Departure.lateStoresUnsure }, { on := 19, ground := Go.Ground.phase }, { on := 20, ground := Go.Ground.textOnly Go.Departure.lateStores }, { on := 21, ground := Go.Ground.textOnly Go.Departure.lateStoresUnsure }], guard := none }) (by rw [hops]; rfl) (by first | exact trivial | rfl) (fun K hK => ?_)
                        go_simp
                        have hcx := (hS0.sp.at t htn).1
                        have hfx := hS0.sp.froz (t * 2)
                        go_simp
                        refine hK _ _ ((cell_other (p := ⟨q, t * 2, none⟩) hzq).trans hR) ?_
                        clear hK K
                        (try simp only [Act.put, List.setIfInBounds_toArray, List.set_cons_zero, List.set_cons_succ])
                        refine wpLinG_pure (o := { dst := some 169, op := Go.Op.indexAddr 23 (Go.Operand.tmp 148) (Go.Operand.tmp 150), type := 0, pos := "plan.go:162", after := #[{ on := 3, ground := Go.Ground.data }, { on := 5, ground := Go.Ground.data }, { on := 0, ground := Go.Ground.phase }, { on := 1, ground := Go.Ground.phase }, { on := 2, ground := Go.Ground.phase }, { on := 3, ground := Go.Ground.phase }, { on := 4, ground := Go.Ground.phase }, { on := 5, ground := Go.Ground.phase }, { on := 6, ground := Go.Ground.phase }, { on := 7, ground := Go.Ground.phase }, { on := 8, ground := Go.Ground.phase }, { on := 9, ground := Go.Ground.phase }, { on := 10, ground := Go.Ground.phase }, { on := 11, ground := Go.Ground.phase }, { on := 12, ground := Go.Ground.phase }, { on := 13, ground := Go.Ground.phase }, { on := 14, ground := Go.Ground.phase }, { on := 15, ground := Go.Ground.phase }, { on := 16, ground := Go.Ground.phase }, { on := 17, ground := Go.Ground.phase }, { on := 18, ground := Go.Ground.phase }, { on := 19, ground := Go.Ground.phase }, { on := 20, ground := Go.Ground.phase }, { on := 21, ground := Go.Ground.phase }, { on := 22, ground := Go.Ground.phase }, { on := 23, ground := Go.Ground.phase }, { on := 24, ground := Go.Ground.phase }], guard := none }) (v := ?vy325) (by rw [hops]; rfl) (by first | exact trivial | rfl) ?ey325 ?hy325
                        case ey325 => intro w'; go_simp; (try rfl)
                        (try simp only [Act.put, List.setIfInBounds_toArray, List.set_cons_zero, List.set_cons_succ])
                        refine wpLinG_pure (o := { dst := some 170, op := Go.Op.fieldAddr 37 (Go.Operand.tmp 169) 1, type := 0, pos := "plan.go:162", after := #[{ on := 25, ground := Go.Ground.data }, { on := 0, ground := Go.Ground.phase }, { on := 1, ground := Go.Ground.phase }, { on := 2, ground := Go.Ground.phase }, { on := 3, ground := Go.Ground.phase }, { on := 4, ground := Go.Ground.phase }, { on := 5, ground := Go.Ground.phase }, { on := 6, ground := Go.Ground.phase }, { on := 7, ground := Go.Ground.phase }, { on := 8, ground := Go.Ground.phase }, { on := 9, ground := Go.Ground.phase }, { on := 10, ground := Go.Ground.phase }, { on := 11, ground := Go.Ground.phase }, { on := 12, ground := Go.Ground.phase }, { on := 13, ground := Go.Ground.phase }, { on := 14, ground := Go.Ground.phase }, { on := 15, ground := Go.Ground.phase }, { on := 16, ground := Go.Ground.phase }, { on := 17, ground := Go.Ground.phase }, { on := 18, ground := Go.Ground.phase }, { on := 19, ground := Go.Ground.phase }, { on := 20, ground := Go.Ground.phase }, { on := 21, ground := Go.Ground.phase }, { on := 22, ground := Go.Ground.phase }, { on := 23, ground := Go.Ground.phase }, { on := 24, ground := Go.Ground.phase }], guard := none }) (v := ?vy326) (by rw [hops]; rfl) (by first | exact trivial | rfl) ?ey326 ?hy326
                        case ey326 => intro w'; go_simp; (try rfl)
                        (try simp only [Act.put, List.setIfInBounds_toArray, List.set_cons_zero, List.set_cons_succ])
                        refine wpLinG_store (o := { dst := none, op := Go.Op.store 3 (Go.Operand.tmp 170) (Go.Operand.tmp 166), type := 0, pos := "plan.go:162", after := #[{ on := 26, ground := Go.Ground.data }, { on := 21, ground := Go.Ground.data }, { on := 24, ground := Go.Ground.chain }, { on := 0, ground := Go.Ground.phase }, { on := 1, ground := Go.Ground.phase }, { on := 2, ground := Go.Ground.phase }, { on := 3, ground := Go.Ground.phase }, { on := 4, ground := Go.Ground.phase }, { on := 5, ground := Go.Ground.phase }, { on := 6, ground := Go.Ground.phase }, { on := 7, ground := Go.Ground.phase }, { on := 8, ground := Go.Ground.phase }, { on := 9, ground := Go.Ground.phase }, { on := 10, ground := Go.Ground.phase }, { on := 11, ground := Go.Ground.phase }, { on := 12, ground := Go.Ground.phase }, { on := 13, ground := Go.Ground.phase }, { on := 14, ground := Go.Ground.phase }, { on := 15, ground := Go.Ground.phase }, { on := 16, ground := Go.Ground.phase }, { on := 17, ground := Go.Ground.phase }, { on := 18, ground := Go.Ground.phase }, { on := 19, ground := Go.Ground.phase }, { on := 20, ground := Go.Ground.phase }, { on := 21, ground := Go.Ground.phase }, { on := 22, ground := Go.Ground.phase }, { on := 23, ground := Go.Ground.phase }, { on := 24, ground := Go.Ground.phase }], guard := none }) (by rw [hops]; rfl) (by first | exact trivial | rfl) (fun K hK => ?_)
                        go_simp
                        have hcy := (hS0.sp.at t htn).2
                        have hfy := hS0.sp.froz (t * 2 + 1)
                        go_simp
                        refine hK _ _ ((cell_other (p := ⟨q, t * 2 + 1, none⟩) hzq).trans ((cell_other (p := ⟨q, t * 2, none⟩) hzq).trans hR)) ?_
                        clear hK K
                        (try simp only [Act.put, List.setIfInBounds_toArray, List.set_cons_zero, List.set_cons_succ])
                        subst hQ'
                        refine NoPanic.normal ?_
                        clear hops
                        have hnn : nn = c1 + gg - a1 := HNN.out
                        have hset := (hS0.sp.set t htn (c1 - nn) (c1 + lt - nn)).step (Below.drew (Below.refl _ _))
                        have hbs := Below.drew ((hS0.b.setCell (p := ⟨q, t * 2, none⟩) hqw (.int .i64 (c1 - nn))).setCell (p := ⟨q, t * 2 + 1, none⟩) hqw (.int .i64 (c1 + lt - nn)))
                        have hpn := HPN.out
                        rw [show a1 - gg = c1 - nn by omega, show c1 - nn + lt = c1 + lt - nn by omega] at hpn
                        clear hS hR hS0 hnn
                        go_wp2_with fail
                        go_roundw
                        case rel => exact ⟨k + 1, _, true, by omega, by go_num, rfl, hpn, hset, hbs⟩
                        case measure => simp [intOf]; omega
                  · obtain rfl : k = (tk P m).links.length := by omega
                    have hpn := hp.next
                    have HS2 := hide (And.intro hs hB)
                    clear hp hs hB
                    go_wp2_with fail
                    go_roundw
                    case rel => exact ⟨m + 1, s, a, by omega, by go_num, rfl, hpn, HS2.out.1, HS2.out.2⟩
                    case measure => simp [intOf]; omega
              · obtain rfl : m = P.length := by omega
                have hmeas : 2 * (sumW q wr P.length - sumS (latS P b (ord P)) P.length).toNat + boV (.bool a) < 2 * (sumS s0 P.length - sumS (latS P b (ord P)) P.length).toNat + boV (.bool true) := by
                  rw [sumW_eq hs.at P.length (Nat.le_refl _)]
                  have h1 := sumS_le P.length hp.l.lo
                  cases a with
                  | true =>
                    have h2 := hp.yes rfl
                    omega
                  | false =>
                    have h2 := (hp.no rfl).1
                    have h3 := sumS_le P.length hp.le
                    simp only [boV]
                    omega
                rw [← HM0.out] at hmeas
                have HMS := hide hmeas
                have hdone : a = false → ∀ j, j < P.length → s j = latS P b (ord P) j := fun e => by subst e; exact hp.done HF.out
                have HD := hide (And.intro hp.l (And.intro hs (And.intro hB hdone)))
                clear hp hs hB hmeas hdone
                go_wp2_with fail
                exact ⟨⟨s, a, rfl, HD.out.1, HD.out.2.1, HD.out.2.2.1, HD.out.2.2.2⟩, HMS.out⟩
end Go.Proofs.YtjmjabdokckdlaaDoor
