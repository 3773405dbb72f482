/- the reference of plans, levelled: mathematics; use, Used. -/
import Derived.Test.YtjmjabdokckdlaaDoorRpI
import Derived.Test.YtjmjabdokckdlaaDoorPlnEn
namespace Go.Proofs.YtjmjabdokckdlaaDoor
open Go.RowKit Go.Shelf
set_option linter.unusedVariables false
set_option linter.unusedSimpArgs false

/-- how much of a resource a task uses: none, if it takes no time -/
def usT (t : Tk) (r : Nat) : Int := if t.uses.length ≤ r ∨ t.len = 0 then 0 else amt t.uses r
def usG (P : List Tk) (s : Sp) (r : Nat) (t : Int) (k : Nat) : Int := if (s k).1 ≤ t ∧ t < (s k).2 then usT (tk P k) r else 0
def usD (P : List Tk) (s : Sp) (r : Nat) (t : Int) : List Nat → Int
  | [] => 0
  | x :: d => usG P s r t x + usD P s r t d
theorem usD_app (P : List Tk) (s : Sp) (r : Nat) (t : Int) : ∀ d e, usD P s r t (d ++ e) = usD P s r t d + usD P s r t e
  | [], e => by simp [usD]
  | x :: d, e => by rw [List.cons_append, usD, usD, usD_app P s r t d e]; omega
theorem usD_take (P : List Tk) (s : Sp) (r : Nat) (t : Int) (d : List Nat) (m : Nat) (h : m < d.length) : usD P s r t (d.take (m + 1)) = usD P s r t (d.take m) + usG P s r t d[m] := by
  rw [List.take_succ_eq_append_getElem h, usD_app]
  simp [usD]
theorem amt_out {t : Tk} {r : Nat} (h : t.uses.length ≤ r) : amt t.uses r = 0 := by unfold amt; rw [List.getD_eq_getElem?_getD, List.getElem?_eq_none h]; rfl
theorem usT_bd {P : List Tk} (h : Good P) (i : Nat) (hi : i < P.length) (r : Nat) : 0 ≤ usT (tk P i) r ∧ usT (tk P i) r ≤ 1000000 := by
  have := amt_bd h i hi r
  unfold usT
  split
  · exact ⟨Int.le_refl _, by decide⟩
  · exact this
theorem usG_bd {P : List Tk} (h : Good P) (s : Sp) (r : Nat) (t : Int) (i : Nat) (hi : i < P.length) : 0 ≤ usG P s r t i ∧ usG P s r t i ≤ 1000000 := by
  have := usT_bd h i hi r
  unfold usG
  split
  · exact this
  · exact ⟨Int.le_refl _, by decide⟩
theorem usD_bd {P : List Tk} (h : Good P) (s : Sp) (r : Nat) (t : Int) : ∀ d : List Nat, (∀ k ∈ d, k < P.length) → 0 ≤ usD P s r t d ∧ usD P s r t d ≤ 1000000 * d.length
  | [], _ => by simp [usD]
  | x :: d, hd => by
    have h1 := usD_bd h s r t d (fun k hk => hd k (by simp [hk]))
    have h2 := usG_bd h s r t x (hd x (by simp))
    rw [usD, List.length_cons]
    omega
theorem upS_id (s : Sp) (i : Nat) : upS s i (s i) = s := by funext j; unfold upS; split <;> simp_all
theorem inR_cons (x : Nat) (d : List Nat) : inR (x :: d) = fun u => if u = x then true else inR d u := by
  funext u
  unfold inR
  by_cases e : u = x
  · simp [e]
  · simp [e]
theorem inR_snoc (x : Nat) (d : List Nat) : inR (d ++ [x]) = stU (inR d) x := by
  funext u
  unfold inR stU
  by_cases e : u = x
  · simp [e]
  · simp [e]
/-- a sum over those that are placed, in whatever order -/
theorem usD_eq {P : List Tk} (s : Sp) (r : Nat) (t : Int) : ∀ d : List Nat, d.Nodup → (∀ k ∈ d, k < P.length ∧ (s k).2 = (s k).1 + (tk P k).len) → usD P s r t d = usd P s (inR d) r t P.length
  | [], _, _ => by
    rw [usd_none s _ r t (fun k hk h => by simp [inR] at h) _ (Nat.le_refl _)]; rfl
  | x :: d, hn, hd => by
    have hx := List.nodup_cons.1 hn
    have ih := usD_eq s r t d hx.2 (fun k hk => hd k (by simp [hk]))
    have hadd := usd_add (P := P) s (inR d) r t x (s x) (by unfold inR; exact decide_eq_false hx.1) P.length
    rw [upS_id] at hadd
    obtain ⟨h1, h2⟩ := hd x (by simp)
    rw [usD, ih, inR_cons, hadd]
    have : usG P s r t x = if x < P.length ∧ (s x).1 ≤ t ∧ t < (s x).2 then amt (tk P x).uses r else 0 := by
      by_cases c : (s x).1 ≤ t ∧ t < (s x).2
      · have e1 : usG P s r t x = usT (tk P x) r := if_pos c
        rw [e1, if_pos ⟨h1, c⟩]
        unfold usT
        by_cases c2 : (tk P x).uses.length ≤ r
        · rw [if_pos (.inl c2), amt_out c2]
        · rw [if_neg (by intro h; rcases h with h | h <;> omega)]
      · have e1 : usG P s r t x = 0 := if_neg c
        rw [e1, if_neg (fun h => c h.2)]
    omega
/-- is there enough of all at all times of a task that begins at some time -/
def EnP (P : List Tk) (H : List Int) (s : Sp) (d : List Nat) (i : Nat) (x : Int) : Prop := ∀ r, r < H.length → usT (tk P i) r = 0 ∨ ∀ t ∈ x :: d.map (fun k => (s k).1), ¬ (t < x ∨ x + (tk P i).len ≤ t) → usD P s r t d + usT (tk P i) r ≤ amt H r
theorem amt_hout {H : List Int} {r : Nat} (h : H.length ≤ r) : amt H r = 0 := by unfold amt; rw [List.getD_eq_getElem?_getD, List.getElem?_eq_none h]; rfl
theorem enP_hrs {P : List Tk} (hG : Good P) {H : List Int} {s : Sp} {d : List Nat} {k : Nat} (hL : Lev P H s (inR d) k) (hn : d.Nodup) (hd : ∀ k ∈ d, k < P.length) (i : Nat) (hi : i < P.length) (hU : ∀ r, r < (tk P i).uses.length → (tk P i).uses.getD r 0 ≤ amt H r) (x : Int) :
    EnP P H s d i x ↔ hrs P H s (inR d) (tk P i).uses x (x + (tk P i).len) = true := by
  have hsum : ∀ r t, usD P s r t d = usd P s (inR d) r t P.length := fun r t => usD_eq s r t d hn (fun k hk => ⟨hd k hk, (hL.fit k (hd k hk) (by unfold inR; exact decide_eq_true hk)).1⟩)
  have hlen := hG.len i hi
  constructor
  · intro h
    unfold hrs
    by_cases h0 : (tk P i).len = 0
    · rw [h0, Int.add_zero]; simp
    · have key : ∀ t, x ≤ t → t < x + (tk P i).len → (t = x ∨ ∃ k ∈ d, t = (s k).1) → hra P H s (inR d) (tk P i).uses t = true := fun t h1 h2 h3 => by
        refine hraN_yes fun r hr => ?_
        have hro := hL.room r t
        by_cases hz : (tk P i).uses.getD r 0 = 0
        · rw [hz]; omega
        · have hrH : r < H.length := by
            rcases Nat.lt_or_ge r H.length with g | g
            · exact g
            · have a := hU r hr
              have b := (hG.use i hi _ (show (tk P i).uses.getD r 0 ∈ (tk P i).uses by rw [List.getD_eq_getElem?_getD, List.getElem?_eq_getElem hr]; exact List.getElem_mem hr)).1
              rw [amt_hout g] at a
              omega
          have hus : usT (tk P i) r = (tk P i).uses.getD r 0 := by unfold usT; rw [if_neg (by omega)]; rfl
          rcases h r hrH with g | g
          · rw [hus] at g; exact absurd g hz
          · have := g t (by
              rcases h3 with rfl | ⟨k, hk, rfl⟩
              · simp
              · exact List.mem_cons_of_mem _ (List.mem_map.2 ⟨k, hk, rfl⟩)) (by omega)
            rw [hus, hsum] at this
            omega
      have h1 := key x (Int.le_refl _) (by omega) (.inl rfl)
      have h2 : ∀ m, m ≤ P.length → hrsN P H s (inR d) (tk P i).uses x (x + (tk P i).len) m = true := by
        intro m
        induction m with
        | zero => intro _; rfl
        | succ m ih =>
          intro hm
          rw [hrsN, ih (by omega)]
          by_cases c : inR d m = true ∧ x < (s m).1 ∧ (s m).1 < x + (tk P i).len
          · rw [key (s m).1 (by omega) c.2.2 (.inr ⟨m, of_decide_eq_true c.1, rfl⟩)]; simp
          · by_cases c1 : inR d m = true
            · by_cases c2 : x < (s m).1
              · rw [decide_eq_false (p := (s m).1 < x + (tk P i).len) (fun h => c ⟨c1, c2, h⟩)]; simp
              · rw [decide_eq_false c2]; simp
            · rw [show inR d m = false by simpa using c1]; simp
      rw [h1, h2 _ (Nat.le_refl _)]; simp
  · intro h r hr
    by_cases hz : usT (tk P i) r = 0
    · exact .inl hz
    · right
      intro t _ ht
      have hru : r < (tk P i).uses.length := by
        rcases Nat.lt_or_ge r (tk P i).uses.length with g | g
        · exact g
        · exact absurd (show usT (tk P i) r = 0 by unfold usT; rw [if_pos (.inl g)]) hz
      have hl0 : (tk P i).len ≠ 0 := fun e => hz (by unfold usT; rw [if_pos (.inr e)])
      have hus : usT (tk P i) r = (tk P i).uses.getD r 0 := by unfold usT; rw [if_neg (by omega)]; rfl
      have := hrs_all hG h r hru t (by omega) (by omega)
      rw [hus, hsum]
      omega
/-- the least one that has room -/
theorem find_least (p : Int → Bool) : ∀ (l : List Int) (b : Int), List.Pairwise (fun x y => x ≤ y) l → l.find? p = some b → ∀ x ∈ l, p x = true → b ≤ x
  | a :: l, b, hs, hf, x, hx, hp => by
    by_cases ha : p a = true
    · rw [List.find?_cons_of_pos ha] at hf
      cases hf
      rcases List.mem_cons.1 hx with rfl | hx
      · exact Int.le_refl _
      · exact (List.pairwise_cons.1 hs).1 x hx
    · rw [List.find?_cons_of_neg ha] at hf
      rcases List.mem_cons.1 hx with rfl | hx
      · exact absurd hp ha
      · exact find_least p l b (List.pairwise_cons.1 hs).2 hf x hx hp
theorem begS_sorted (P : List Tk) (s : Sp) (st : Nat → Bool) (i : Nat) : List.Pairwise (fun x y => x ≤ y) (begS P s st i) := by
  have := List.pairwise_mergeSort (le := fun x y : Int => decide (x ≤ y)) (fun a b c h1 h2 => decide_eq_true (Int.le_trans (of_decide_eq_true h1) (of_decide_eq_true h2))) (fun a b => by rcases Int.le_total a b with h | h <;> simp [h]) (begN s st (soon P i s) P.length)
  exact this.imp fun h => of_decide_eq_true h
theorem putB_least {P : List Tk} (hG : Good P) {H : List Int} {s : Sp} {st : Nat → Bool} {k : Nat} (h : Lev P H s st k) (i : Nat) (hi : i < P.length) (hU : ∀ r, r < (tk P i).uses.length → (tk P i).uses.getD r 0 ≤ amt H r) (b : Int) (hb : b ∈ begS P s st i) (hr : hrs P H s st (tk P i).uses b (b + (tk P i).len) = true) : putB P H s st i ≤ b :=
  find_least _ _ _ (begS_sorted P s st i) (h.found hG i hi hU).1 b hb hr
set_option maxHeartbeats 1000000 in
theorem use_any (t : Tk) (lv uv : Value) (hlv : ∃ a l c, lv = .slice a l c) (r : Nat) (w : World) (hu : NsAt w uv t.uses) :
    Calls Tryd.prog 71 #[.agg #[.int .i64 t.len, .int .i64 t.nb, lv, uv], .int .i64 (r : Int)] w fun e w' => e = .returned (.int .i64 (usT t r)) ∧ RowKit.Below w.heap.size w w' := by
  obtain ⟨la, ll, lc, rfl⟩ := hlv
  obtain ⟨ua, uc, rfl, hul⟩ := hu
  have hB : RowKit.Below w.heap.size w (w.alloc (.cells #[.int .i64 t.len, .int .i64 t.nb, .slice la ll lc, .slice ua t.uses.length uc] 45)) := (RowKit.Below.refl _ w).alloc (Nat.le_refl _) _
  have HB := hide hB
  have hT : usT t r = if t.uses.length ≤ r ∨ t.len = 0 then 0 else t.uses.getD r 0 := rfl
  have HT := hide hT
  have HUL := hide (hul r)
  clear hB hT hul
  generalize usT t r = u at *
  generalize t.len = tl at *
  generalize t.nb = tn at *
  by_cases h1 : t.uses.length ≤ r
  · have hu0 := HT.out.trans (if_pos (.inl h1))
    have h1i : (t.uses.length : Int) ≤ (r : Int) := by omega
    generalize t.uses.length = ul at *
    subst hu0
    go_enter Tryd.func71, Tryd.ntmps71
    go_wp2
    go_ret
    exact ⟨rfl, HB.out⟩
  · have h1i : ¬ (t.uses.length : Int) ≤ (r : Int) := by omega
    by_cases h2 : tl = 0
    · have hu0 := HT.out.trans (if_pos (.inr h2))
      subst hu0
      subst h2
      go_enter Tryd.func71, Tryd.ntmps71
      go_wp2
      go_ret
      exact ⟨rfl, HB.out⟩
    · have hu0 := HT.out.trans (if_neg (by omega))
      obtain ⟨g, o, rfl, hc⟩ := HUL.out (by omega)
      have h2b : (tl == 0) = false := beq_eq_false_iff_ne.2 h2
      have hri : (r : Int) < (t.uses.length : Int) := by omega
      have hgz : g < w.heap.size := World.block_lt_of_cell? w _ hc
      rw [← hu0] at hc
      clear hu0 HT
      go_enter Tryd.func71, Tryd.ntmps71
      go_wp2
      go_ret
      exact ⟨rfl, HB.out⟩
set_option maxRecDepth 100000 in
set_option maxHeartbeats 4000000 in
theorem Used_any {P : List Tk} (hG : Good P) (s : Sp) (d : List Nat) (hd : ∀ k ∈ d, k < P.length) (hdl : d.length ≤ 60) (r : Nat) (t : Int) (v : Value) (q c : Nat) (dv : Value) (base : Nat) (w : World) (hv : TsAt w v P) (hs : SpAt q P.length s w) (hdv : OwnN w base dv d) :
    Calls Tryd.prog 72 #[v, .slice (some ⟨q, 0, none⟩) P.length c, dv, .int .i64 (r : Int), .int .i64 t] w fun e w' => e = .returned (.int .i64 (usD P s r t d)) ∧ RowKit.Below w.heap.size w w' := by
  obtain ⟨ad, cap, rfl, hall⟩ := hv
  have HALL := hide hall
  have HG := hide hG
  have HS := hide hs
  have HDV := hide hdv
  obtain ⟨da, dc, rfl⟩ := (own_len hdv).2
  clear hall hG hs hdv
  go_enter Tryd.func72, Tryd.ntmps72
  go_wp2_with fail
  go_loopw [11, 16] (fun nv j wr => ∃ m : Nat, m ≤ d.length ∧ j = .int .i64 m ∧ nv = .int .i64 (usD P s r t (d.take m)) ∧ RowKit.Below w.heap.size w wr) (fun _ j _ => d.length - (intOf j).toNat)
  case atStart => exact ⟨0, by omega, rfl, by simp [usD], RowKit.Below.refl _ _⟩
  case round =>
    obtain ⟨m, hm, rfl, rfl, hB⟩ := hrel
    by_cases hlt : m < d.length
    · have hmi : (m : Int) < (d.length : Int) := by omega
      have hkm := hd d[m] (List.getElem_mem hlt)
      have hst := usD_take P s r t d m hlt
      have hub := usD_bd HG.out s r t (d.take m) (fun k hk => hd k (List.mem_of_mem_take hk))
      have hul : (d.take m).length ≤ 60 := by rw [List.length_take]; omega
      have hugb := usG_bd HG.out s r t d[m] hkm
      obtain ⟨c0, hcm, rfl⟩ : ∃ c0, wr.cell? ⟨c0, m, none⟩ = some (.int .i64 ((d[m] : Nat) : Int)) ∧ da = some ⟨c0, 0, none⟩ := by
        have ho := own_bel HDV.out hB
        rcases ho.2 with ⟨e, e0⟩ | ⟨g, cap, cur, e, _⟩
        · omega
        · obtain ⟨rfl, rfl⟩ : da = some ⟨g, 0, none⟩ ∧ dc = cap := by simpa using e
          exact ⟨g, (ho.cellAt m (by omega)).trans (nV_at d m hlt), rfl⟩
      generalize d[m] = k at *
      have hki : ((k : Nat) : Int) < (P.length : Int) := by omega
      have s0 := ((HS.out.below hB) k hkm).1
      have s1 := ((HS.out.below hB) k hkm).2
      obtain ⟨g, o, lv, uv, rfl, y0, y1, y2, y3, hls, hus⟩ := HALL.out k hkm
      obtain ⟨la, lc, rfl, _⟩ := hls
      have x0 := (hB.cell (World.block_lt_of_cell? w _ y0)).trans y0
      have x1 := (hB.cell (World.block_lt_of_cell? w _ y1)).trans y1
      have x2 := (hB.cell (World.block_lt_of_cell? w _ y2)).trans y2
      have x3 := (hB.cell (World.block_lt_of_cell? w _ y3)).trans y3
      have KU := hide (use_any (tk P k) (.slice la (tk P k).links.length lc) uv ⟨_, _, _, rfl⟩ r wr (hus.below hB))
      obtain ⟨ua, uc, rfl, _⟩ := hus
      have HB := hide hB
      unfold usG at hst hugb
      clear y0 y1 y2 y3 hB
      generalize usD P s r t (d.take m) = n at *
      generalize usT (tk P k) r = u at *
      generalize hf : (s k).1 = f at *
      generalize hee : (s k).2 = ee at *
      generalize (tk P k).len = tl at *
      generalize (tk P k).nb = tn at *
      generalize (tk P k).links.length = ln at *
      generalize (tk P k).uses.length = un at *
      by_cases h1 : f ≤ t
      · by_cases h2 : t < ee
        · rw [if_pos ⟨h1, h2⟩] at hst hugb
          have hwu := wrap64_id (x := n + u) (by omega) (by omega)
          go_wp2_with (go_at_call 71; refine KU.out.mono ?_; rintro e X ⟨rfl, hx⟩)
          go_roundw
          case rel => exact ⟨m + 1, by omega, by go_num, by rw [hst], HB.out.trans (hx.mono HB.out.size)⟩
          case measure => simp [intOf]; omega
        · rw [if_neg (fun h => h2 h.2), Int.add_zero] at hst
          go_wp2_with fail
          go_roundw
          case rel => exact ⟨m + 1, by omega, by go_num, by rw [hst], HB.out⟩
          case measure => simp [intOf]; omega
      · rw [if_neg (fun h => h1 h.1), Int.add_zero] at hst
        go_wp2_with fail
        go_roundw
        case rel => exact ⟨m + 1, by omega, by go_num, by rw [hst], HB.out⟩
        case measure => simp [intOf]; omega
    · obtain rfl : m = d.length := by omega
      have HB := hide hB
      clear hB
      go_wp2_with fail
      go_ret
      exact ⟨by first | rfl | (rw [List.take_length]; rfl), HB.out⟩
end Go.Proofs.YtjmjabdokckdlaaDoor
