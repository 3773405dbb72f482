/- The reference's solve. -/
import Derived.Test.YtnaggcadmfmibaaDoorSqJ
namespace Go.Proofs.YtnaggcadmfmibaaDoor
open Go.RowKit
set_option linter.unusedVariables false
set_option linter.unusedSimpArgs false

def prP (s t : Nat → Nat) (j : Nat) : List (Nat × Nat) := (List.range j).map fun k => (s k, t k)
theorem prP_len (s t : Nat → Nat) (j : Nat) : (prP s t j).length = j := by unfold prP; simp
theorem prP_next (s t : Nat → Nat) (j a b : Nat) : prP (upN s j a) (upN t j b) (j + 1) = prP s t j ++ [(a, b)] := by
  unfold prP
  rw [List.range_succ, List.map_append]
  congr 1
  · apply List.map_congr_left
    intro k hk
    have := List.mem_range.1 hk
    rw [upN_no _ _ _ _ (by omega), upN_no _ _ _ _ (by omega)]
  · simp [upN_at]
theorem prP_get (s t : Nat → Nat) (j k : Nat) (hk : k < j) : (prP s t j).getD k (0, 0) = (s k, t k) := by
  unfold prP
  rw [List.getD_eq_getElem?_getD, List.getElem?_map, List.getElem?_range hk]
  rfl
theorem prP_news {ad : Addr} {s t : Nat → Nat} {j : Nat} {X : World} (h : Sp (some ad) j (fun k => (s k : Int)) (fun k => (t k : Int)) X) : ∀ i u, (clP (prP s t j))[i]? = some u → X.cell? (ad.add i) = some u := fun i u hu => by
  have hl : i < j * 2 := by
    have := (List.getElem?_eq_some_iff.1 hu).1
    rw [clP_len, prP_len] at this
    exact this
  have hg := clP_get (prP s t j) (i / 2) (by rw [prP_len]; omega)
  rw [prP_get s t j (i / 2) (by omega)] at hg
  obtain ⟨a, ha, h0, h1⟩ := h (i / 2) (by omega)
  obtain rfl := Option.some.inj ha
  rcases Nat.mod_two_eq_zero_or_one i with hm | hm
  · have e : i / 2 * 2 = i := by omega
    rw [e] at hg h0
    rw [← hu, hg.1]; exact h0
  · have e : i / 2 * 2 + 1 = i := by omega
    rw [e] at hg h1
    rw [← hu, hg.2]; exact h1
theorem own_sp {X : World} {b : Nat} {e : TypeId} {g cap j : Nat} {s t : Nat → Nat} (h : X.ownsRow b e 2 (.slice (some ⟨g, 0, none⟩) j cap) j (clP (prP s t j))) : Sp (some ⟨g, 0, none⟩) j (fun k => (s k : Int)) (fun k => (t k : Int)) X := fun k hk => by
  have h0 := clP_get (prP s t j) k (by rw [prP_len]; exact hk)
  rw [prP_get s t j k hk] at h0
  refine ⟨_, rfl, ?_, ?_⟩
  · rw [Addr.add_lit, Nat.zero_add]; exact (World.ownsRow.cellAt h (k * 2) (by omega)).trans h0.1
  · rw [Addr.add_lit, Nat.zero_add]; exact (World.ownsRow.cellAt h (k * 2 + 1) (by omega)).trans h0.2
theorem clP_one : ∀ (l : List (Nat × Nat)), ∀ u ∈ clP l, u.oneCell' = true
  | [], u, h => by cases h
  | p :: l, u, h => by
    rcases List.mem_cons.1 h with rfl | h
    · rfl
    · rcases List.mem_cons.1 h with rfl | h
      · rfl
      · exact clP_one l u h
/-- what is told so far lies so -/
def Pre2 (n : Nat) (g : Nat → Nat → Int) (j : Nat) (s t : Nat → Nat) : Prop := (∀ k, k < j → s k < t k ∧ t k < 2 * n) ∧ ∀ i k, i < j → k < j → hasB (g i k) (Spn.way (s i) (t i) (s k) (t k)) = true
def x1F (g : Nat → Nat → Int) (s t : Nat → Nat) (j k : Nat) : Bool := hasB (g j k) (Spn.way (s j) (t j) (s k) (t k))
def x2F (g : Nat → Nat → Int) (s t : Nat → Nat) (j k : Nat) : Bool := hasB (g k j) (Spn.way (s k) (t k) (s j) (t j))
def okF (g : Nat → Nat → Int) (s t : Nat → Nat) (j : Nat) : Nat → Bool
  | 0 => true
  | k + 1 => okF g s t j k && (x1F g s t j k && x2F g s t j k)
theorem okF_iff {g : Nat → Nat → Int} {s t : Nat → Nat} {j : Nat} : ∀ m, okF g s t j m = true ↔ ∀ k, k < m → x1F g s t j k = true ∧ x2F g s t j k = true
  | 0 => by unfold okF; simp
  | m + 1 => by
    unfold okF
    rw [Bool.and_eq_true, Bool.and_eq_true, okF_iff m]
    refine ⟨fun ⟨h1, h2⟩ k hk => ?_, fun h => ⟨fun k hk => h k (by omega), h m (by omega)⟩⟩
    rcases Nat.lt_or_ge k m with hl | hl
    · exact h1 k hl
    · have : k = m := by omega
      subst this; exact h2
theorem ext2_congr {n : Nat} {g : Nat → Nat → Int} {j : Nat} {s t s' t' : Nat → Nat} (h : ∀ k, k < j → s k = s' k ∧ t k = t' k) (he : Ext2 n g j s t) : Ext2 n g j s' t' := by
  obtain ⟨p, q, h1, h2⟩ := he
  exact ⟨p, q, h1, fun k hk => ⟨(h2 k hk).1.trans (h k hk).1, (h2 k hk).2.trans (h k hk).2⟩⟩
theorem ext2_ok {n : Nat} {g : Nat → Nat → Int} {j : Nat} {s t : Nat → Nat} (hj : j < n) (he : Ext2 n g (j + 1) s t) : s j < t j ∧ t j < 2 * n ∧ okF g s t j (j + 1) = true := by
  obtain ⟨p, q, h1, h2⟩ := he
  have hjj := h2 j (by omega)
  refine ⟨by rw [← hjj.1, ← hjj.2]; exact (h1.1 j hj).1, by rw [← hjj.2]; exact (h1.1 j hj).2, (okF_iff (j + 1)).2 fun k hk => ?_⟩
  have hkk := h2 k hk
  unfold x1F x2F
  rw [← hkk.1, ← hkk.2, ← hjj.1, ← hjj.2]
  exact ⟨h1.2 j k hj (by omega), h1.2 k j (by omega) hj⟩
theorem pre2_next {n : Nat} {g : Nat → Nat → Int} {j a b : Nat} {s t : Nat → Nat} (h : Pre2 n g j s t) (hab : a < b) (hb : b < 2 * n) (hok : okF g (upN s j a) (upN t j b) j (j + 1) = true) : Pre2 n g (j + 1) (upN s j a) (upN t j b) := by
  have hx := (okF_iff (j + 1)).1 hok
  refine ⟨fun k hk => ?_, fun i k hi hk => ?_⟩
  · rcases Nat.lt_or_ge k j with hl | hl
    · rw [upN_no _ _ _ _ (by omega), upN_no _ _ _ _ (by omega)]; exact h.1 k hl
    · have : k = j := by omega
      subst this; rw [upN_at, upN_at]; exact ⟨hab, hb⟩
  · rcases Nat.lt_or_ge i j with hi' | hi'
    · rcases Nat.lt_or_ge k j with hk' | hk'
      · rw [upN_no _ _ _ _ (show i ≠ j by omega), upN_no _ _ _ _ (show i ≠ j by omega), upN_no _ _ _ _ (show k ≠ j by omega), upN_no _ _ _ _ (show k ≠ j by omega)]
        exact h.2 i k hi' hk'
      · have : k = j := by omega
        subst this; exact (hx i hi).2
    · have : i = j := by omega
      subst this; exact (hx k hk).1
theorem keep8 {w X X' : World} {p0 p1 p2 p3 p4 p5 p6 p7 : Addr} {v0 v1 v2 v3 v4 v5 v6 v7 : Value}
    (h : ((X.cell? p0 = some v0 ∧ X.cell? p1 = some v1) ∧ (X.cell? p2 = some v2 ∧ X.cell? p3 = some v3) ∧ (X.cell? p4 = some v4 ∧ X.cell? p5 = some v5) ∧ (X.cell? p6 = some v6 ∧ X.cell? p7 = some v7)) ∧ Below w.heap.size w X) (hb : Below X.heap.size X X') :
    ((X'.cell? p0 = some v0 ∧ X'.cell? p1 = some v1) ∧ (X'.cell? p2 = some v2 ∧ X'.cell? p3 = some v3) ∧ (X'.cell? p4 = some v4 ∧ X'.cell? p5 = some v5) ∧ (X'.cell? p6 = some v6 ∧ X'.cell? p7 = some v7)) ∧ Below w.heap.size w X' :=
  ⟨⟨⟨cell_step h.1.1.1 hb, cell_step h.1.1.2 hb⟩, ⟨cell_step h.1.2.1.1 hb, cell_step h.1.2.1.2 hb⟩, ⟨cell_step h.1.2.2.1.1 hb, cell_step h.1.2.2.1.2 hb⟩, cell_step h.1.2.2.2.1 hb, cell_step h.1.2.2.2.2 hb⟩, h.2.trans (hb.mono h.2.size)⟩
/-- what solve tells of a list that lies so -/
def RsP (n : Nat) (g : Nat → Nat → Int) (j : Nat) (s t : Nat → Nat) (v : Value) (ok : Bool) (X : World) : Prop :=
  (ok = true ∧ ∃ al cap s' t', v = .slice al n cap ∧ Sp al n (fun k => (s' k : Int)) (fun k => (t' k : Int)) X ∧ Full2 n g s' t' ∧ (∀ k, k < j → s' k = s k ∧ t' k = t k) ∧ Least2 n g s' t' j) ∨ (ok = false ∧ ¬ Ext2 n g j s t)
def RsS (ad : Addr) (n cap : Nat) (A : Nat → Option Addr) (C : Nat → Nat) (g : Nat → Nat → Int) (u : Nat) : Prop := ∀ (j : Nat) (al : Option Addr) (capl : Nat) (s t : Nat → Nat) (W : World), n - j = u → j ≤ n → ((al = none ∧ j = 0 ∧ capl = 0) ∨ ∃ b, al = some ⟨b, 0, none⟩) → NetAt (some ad) n A (fun _ => n) C g W → Sp al j (fun k => (s k : Int)) (fun k => (t k : Int)) W → Pre2 n g j s t →
  Calls Tryd.prog 13 #[.slice (some ad) n cap, .slice al j capl] W fun e w' => ∃ v ok, e = .returned (.tuple #[v, .bool ok]) ∧ Below W.heap.size W w' ∧ RsP n g j s t v ok w'
set_option maxRecDepth 100000 in
set_option maxHeartbeats 8000000 in
theorem rs_zero (ad : Addr) (n cap : Nat) (A : Nat → Option Addr) (C : Nat → Nat) (g : Nat → Nat → Int) : RsS ad n cap A C g 0 := fun j al capl s t w hu hj hal h hs hp => by
  obtain rfl : j = n := by omega
  have HS := hide hs
  have HP := hide hp
  clear hs hp h hal
  go_enter Tryd.func13, Tryd.ntmps13
  go_wp2_with fail
  go_ret2
  exact ⟨_, true, rfl, Below.refl _ _, .inl ⟨rfl, al, capl, s, t, rfl, HS.out, ⟨HP.out.1, HP.out.2⟩, fun k hk => ⟨rfl, rfl⟩, fun i h1 h2 => by omega⟩⟩
set_option maxRecDepth 100000 in
set_option maxHeartbeats 16000000 in
theorem rs_next (ad : Addr) (n cap : Nat) (A : Nat → Option Addr) (C : Nat → Nat) (g : Nat → Nat → Int) (u : Nat) (n6 : n ≤ 6) (hI : RsS ad n cap A C g u) : RsS ad n cap A C g (u + 1) := fun j al capl s t w hu hj hal h hs hp => by
  have hjn : j < n := by omega
  have hji : (j : Int) ≠ n := by omega
  have hjb : ((j : Int) == (n : Int)) = false := by simp; omega
  have H := hide h
  have HS := hide hs
  have HP := hide hp
  have HAL := hide hal
  have KW := hide rway_any
  have KH := hide in_any
  clear hs hp h hal
  obtain ⟨i0, hi, hz0, hz1, hz2⟩ := info_parts infoSpan3
  go_enter Tryd.func13, Tryd.ntmps13
  have hn2 : (n : Int) ≤ 6 := by omega
  go_wp2_with fail
  go_loopw [8] (fun i wr => ∃ a : Nat, a ≤ 2 * n ∧ i = .int .i64 a ∧ (∀ x y, x < a → ¬ Ext2 n g (j + 1) (upN s j x) (upN t j y)) ∧ Below w.heap.size w wr) (fun i _ => 2 * n - (intOf i).toNat)
  case atStart => exact ⟨0, by omega, rfl, fun x y hx => by omega, Below.refl _ _⟩
  case round =>
    obtain ⟨a, ha, rfl, hno, hb⟩ := hrel
    have HNO := hide hno
    have HB := hide hb
    clear hno hb
    by_cases hlt : a < 2 * n
    · have hai : (a : Int) < 2 * n := by omega
      go_wp2_with fail
      go_loopw [9] (fun i wr => ∃ b : Nat, a < b ∧ b ≤ 2 * n ∧ i = .int .i64 b ∧ (∀ x y, lt2 x y a b → ¬ Ext2 n g (j + 1) (upN s j x) (upN t j y)) ∧ Below w.heap.size w wr) (fun i _ => 2 * n - (intOf i).toNat)
      case atStart => exact ⟨a + 1, by omega, by omega, by go_num, fun x y hl he => by
        rcases hl with hl | ⟨hl, hy⟩
        · exact HNO.out x y hl he
        · have := (ext2_ok hjn he).1
          rw [upN_at, upN_at] at this
          omega, HB.out⟩
      case round =>
        clear HB
        obtain ⟨b, hab, hb2, rfl, hnl, hb⟩ := hrel
        have HNL := hide hnl
        have HB := hide hb
        clear hnl hb
        by_cases hbt : b < 2 * n
        · have hbi : (b : Int) < 2 * n := by omega
          have hownE : (wr.alloc (.cells #[] 29)).ownsRow w.heap.size 29 2 (.slice (some ⟨wr.heap.size, 0, none⟩) 0 0) 0 [] :=
            ⟨rfl, .inr ⟨wr.heap.size, 0, #[], rfl, HB.out.size, heap_alloc_last _ _, Nat.le_refl _, by unfold maxLen; omega, rfl, rfl⟩⟩
          have hbE : Below w.heap.size w (wr.alloc (.cells #[] 29)) := HB.out.alloc HB.out.size _
          have halE : (al = none ∧ j = 0 ∧ capl = 0) ∨ ∃ ad, al = some ad ∧ ∀ i u, (clP (prP s t j))[i]? = some u → (wr.alloc (.cells #[] 29)).cell? (ad.add i) = some u := by
            have hsp := HS.out.step hbE
            refine HAL.out.imp id ?_
            rintro ⟨c, rfl⟩
            exact ⟨_, rfl, prP_news hsp⟩
          have hlen : (clP (prP s t j)).length = j * 2 := by rw [clP_len, prP_len]
          have hone : ∀ u ∈ clP (prP s t j), u.oneCell' = true := clP_one _
          have HOE := hide (And.intro hownE (And.intro hbE (And.intro halE (And.intro hlen hone))))
          clear hownE hbE halE hlen hone
          go_wp2_with (first
            | (at_builtin; refine wpList_append_opt _ rfl (.tmp 38) (.tmp 39) 23 rfl w.heap.size 29 i0 (.agg #[.int .i64 0, .int .i64 0]) 2 16 Tryd.underlying23 hi hz0 hz1 hz2 rfl (by decide) (.slice (some ⟨wr.heap.size, 0, none⟩) 0 0) 0 [] rfl HOE.out.1 al j capl (clP (prP s t j)) rfl HOE.out.2.2.2.1 HOE.out.2.2.1 HOE.out.2.2.2.2 (by unfold maxLen; omega) (by omega) (by have := HB.out.size; simp; omega) ?_; intro v1 w1 hown1 hgrow1)
            | (at_builtin; refine wpList_append_lies _ rfl (.tmp 40) (.tmp 44) 23 rfl w.heap.size 29 i0 (.agg #[.int .i64 0, .int .i64 0]) 2 16 Tryd.underlying23 hi hz0 hz1 hz2 rfl (by decide) v1 (0 + j) ([] ++ clP (prP s t j)) rfl (hown1.alloc _) ⟨w1.heap.size, 0, none⟩ 1 1 [.int .i64 (a : Int), .int .i64 (b : Int)] rfl rfl (by intro j u hj; match j, hj with | 0, hj => (simp at hj; subst hj; simp [Addr.add]) | 1, hj => (simp at hj; subst hj; simp [Addr.add])) (by intro u hu; simp at hu; rcases hu with rfl | rfl <;> rfl) (by omega) (by unfold maxLen; omega) (by omega) (by have h1 := hgrow1.size; have h2 := HB.out.size; simp at h1 ⊢; omega) _ rfl ?_; intro g2 c2 w2 hown2 hgrow2 hat hlt2))
          have hb2 : Below w.heap.size w w2 := by
            have h1 := Below.grown HOE.out.2.1 hgrow1 (by have := HB.out.size; simp; omega) (fun k hk => by simp [Value.ownBlock] at hk; have := HB.out.size; omega)
            have h2 := h1.alloc h1.size (.cells #[.int .i64 (a : Int), .int .i64 (b : Int)] 29)
            exact Below.grown h2 hgrow2 h2.size (fun k hk => (hown1.lt k hk).1)
          have hsm : Sp (some ⟨g2, 0, none⟩) (j + 1) (fun k => (upN s j a k : Int)) (fun k => (upN t j b k : Int)) w2 := by
            have ho : w2.ownsRow w.heap.size 29 2 (.slice (some ⟨g2, 0, none⟩) (j + 1) c2) (j + 1) (clP (prP (upN s j a) (upN t j b) (j + 1))) := by
              have e : clP [(a, b)] = [.int .i64 (a : Int), .int .i64 (b : Int)] := rfl
              rw [prP_next, clP_app, e]
              simpa using hown2
            exact own_sp ho
          have HB2 := hide hb2
          have HSM := hide hsm
          have hpos : ∀ k, k < j + 1 → upN s j a k < upN t j b k := fun k hk => by
            rcases Nat.lt_or_ge k j with hl | hl
            · rw [upN_no _ _ _ _ (by omega), upN_no _ _ _ _ (by omega)]; exact (HP.out.1 k hl).1
            · have : k = j := by omega
              subst this; rw [upN_at, upN_at]; exact hab
          have HPOS := hide hpos
          have hPN := hide (fun hok => pre2_next HP.out hab hbt hok)
          have hEN := hide (fun he => (ext2_ok (n := n) (g := g) (s := upN s j a) (t := upN t j b) hjn he).2.2)
          clear hown1 hown2 hgrow1 hgrow2 hat hlt2 hb2 hsm hpos HOE
          have hNX := hide (fun (h : ¬ Ext2 n g (j + 1) (upN s j a) (upN t j b)) x y (hl : lt2 x y a (b + 1)) => (by
            by_cases hxy : x = a ∧ y = b
            · obtain ⟨rfl, rfl⟩ := hxy; exact h
            · exact HNL.out x y (by unfold lt2 at *; omega) : ¬ Ext2 n g (j + 1) (upN s j x) (upN t j y)))
          have hLS : Hid (∀ s' t', (∀ k, k < j + 1 → s' k = upN s j a k ∧ t' k = upN t j b k) → Least2 n g s' t' (j + 1) → Least2 n g s' t' j) := fun s' t' hag hl i hji hin x y hlt => by
            rcases Nat.lt_or_ge j i with hi' | hi'
            · exact hl i hi' hin x y hlt
            · have : i = j := by omega
              subst this
              have hjj := hag i (by omega)
              rw [upN_at, upN_at] at hjj
              rw [hjj.1, hjj.2] at hlt
              refine fun he => HNL.out x y hlt (ext2_congr (fun k hk => ?_) he)
              by_cases hki : k = i
              · subst hki; rw [upN_at, upN_at, upN_at, upN_at]; exact ⟨rfl, rfl⟩
              · rw [upN_no _ _ _ _ hki, upN_no _ _ _ _ hki, upN_no _ _ _ _ hki, upN_no _ _ _ _ hki]
                have := hag k hk
                rw [upN_no _ _ _ _ hki, upN_no _ _ _ _ hki] at this
                exact this
          have hAGR : Hid (∀ s' t' : Nat → Nat, (∀ k, k < j + 1 → s' k = upN s j a k ∧ t' k = upN t j b k) → ∀ k, k < j → s' k = s k ∧ t' k = t k) := fun s' t' hag k hk => by
            have := hag k (by omega)
            rw [upN_no _ _ _ _ (by omega), upN_no _ _ _ _ (by omega)] at this
            exact this
          generalize upN s j a = s2 at *
          generalize upN t j b = t2 at *
          generalize hM1 : j + 1 = M1
          have HM1 := hide hM1
          have hjM : (j : Int) < M1 := by omega
          clear hM1
          go_loopw [11, 12] (fun o i wx => ∃ k : Nat, k ≤ j + 1 ∧ i = .int .i64 k ∧ o = .bool (okF g s2 t2 j k) ∧ Below w2.heap.size w2 wx) (fun _ i _ => j + 1 - (intOf i).toNat)
          case atStart => exact ⟨0, by omega, rfl, rfl, Below.refl _ _⟩
          case round =>
            obtain ⟨k, hk, rfl, rfl, hbx⟩ := hrel
            by_cases hkt : k < j + 1
            · have hki : (k : Int) ≤ j := by omega
              have hkn : (k : Int) < n := by omega
              have hkM : (k : Int) < M1 := by have := HM1.out; omega
              have hjn' : (j : Int) < n := by omega
              have HXX : Hid (okF g s2 t2 j (k + 1) = (okF g s2 t2 j k && (x1F g s2 t2 j k && x2F g s2 t2 j k))) := rfl
              generalize okF g s2 t2 j k = x0 at *
              have HBX := hide hbx
              cases x0
              · clear hbx
                go_wp2_with fail
                go_region
                have hb9 := HBX.out.drew
                clear HBX
                go_wp2_with fail
                go_roundw
                case rel => exact ⟨k + 1, by omega, by go_num, by rw [HXX.out]; rfl, hb9⟩
                case measure => simp [intOf]; omega
              · have hbw : Below w.heap.size w wr := HB2.out.trans (hbx.mono HB2.out.size)
                obtain ⟨ad', e0, c0⟩ := (H.out.step hbw).rows j hjn
                obtain rfl := Option.some.inj e0
                obtain ⟨aj, ej, c1⟩ := (H.out.step hbw).sets j hjn k (by omega)
                obtain ⟨ad', e0, c2⟩ := (H.out.step hbw).rows k (by omega)
                obtain rfl := Option.some.inj e0
                obtain ⟨ak, ek', c3⟩ := (H.out.step hbw).sets k (by omega) j hjn
                obtain ⟨am, e0, m0, m1⟩ := (HSM.out.step hbx) j (by omega)
                obtain rfl := Option.some.inj e0
                obtain ⟨am, e0, m2, m3⟩ := (HSM.out.step hbx) k hkt
                obtain rfl := Option.some.inj e0
                rw [Addr.add_lit, Nat.zero_add] at m0 m1 m2 m3
                dsimp only at c0 c2
                rw [ej] at c0
                rw [ek'] at c2
                have hS := keep8 (w := w2) (X := wr) (X' := wr.drew) (And.intro (And.intro (And.intro c0 c1) (And.intro (And.intro c2 c3) (And.intro (And.intro m0 m1) (And.intro m2 m3)))) hbx) (Below.drew (Below.refl _ wr))
                have hpj : (s2 j : Int) < t2 j := by have := HPOS.out j (by omega); omega
                have hpk : (s2 k : Int) < t2 k := by have := HPOS.out k hkt; omega
                obtain ⟨q1, hq1⟩ : ∃ q, q = Spn.way (s2 j) (t2 j) (s2 k) (t2 k) := ⟨_, rfl⟩
                obtain ⟨q2, hq2⟩ : ∃ q, q = Spn.way (s2 k) (t2 k) (s2 j) (t2 j) := ⟨_, rfl⟩
                have hx1 : hasB (g j k) q1 = x1F g s2 t2 j k := by rw [hq1]; rfl
                have hx2 : hasB (g k j) q2 = x2F g s2 t2 j k := by rw [hq2]; rfl
                have KWg : Hid (∀ (p1 p2 p3 p4 : Int) (q : Nat) W, ((p1 = s2 j ∧ p2 = t2 j ∧ p3 = s2 k ∧ p4 = t2 k ∧ q = q1) ∨ (p1 = s2 k ∧ p2 = t2 k ∧ p3 = s2 j ∧ p4 = t2 j ∧ q = q2)) →
                    Calls Tryd.prog 26 #[.agg #[.int .i64 p1, .int .i64 p2], .agg #[.int .i64 p3, .int .i64 p4]] W fun e w' => e = .returned (.int .i64 (q : Nat)) ∧ Below W.heap.size W w') := by
                  rintro p1 p2 p3 p4 q W (⟨rfl, rfl, rfl, rfl, rfl⟩ | ⟨rfl, rfl, rfl, rfl, rfl⟩)
                  · rw [hq1]; exact KW.out _ _ _ _ W hpj hpk
                  · rw [hq2]; exact KW.out _ _ _ _ W hpk hpj
                generalize hX1 : x1F g s2 t2 j k = x1 at *
                generalize hX2 : x2F g s2 t2 j k = x2 at *
                have hl1 : q1 ≤ 60 := by have := Spn.way_lt (s2 j) (t2 j) (s2 k) (t2 k); omega
                have hl2 : q2 ≤ 60 := by have := Spn.way_lt (s2 k) (t2 k) (s2 j) (t2 j); omega
                have KXg : Hid (∀ (z : Int) (q : Nat) (x : Bool) W, ((z = g j k ∧ q = q1 ∧ x = x1) ∨ (z = g k j ∧ q = q2 ∧ x = x2)) →
                    Calls Tryd.prog 25 #[.int .i64 z, .int .i64 q] W fun e w' => e = .returned (.bool x) ∧ w' = W) := by
                  rintro z q x W (⟨rfl, rfl, rfl⟩ | ⟨rfl, rfl, rfl⟩)
                  · rw [← hx1]; exact KH.out _ _ W hl1
                  · rw [← hx2]; exact KH.out _ _ W hl2
                clear c0 c1 c2 c3 m0 m1 m2 m3 hq1 hq2 hx1 hx2 hX1 hX2 hl1 hl2 hbw hbx HBX ej ek'
                cases x1
                case false =>
                  go_wp2_with fail
                  refine wp_region_held_drew (S := fun X => ((X.cell? (ad.add j) = some (.slice (some aj) n (C j)) ∧ X.cell? (aj.add k) = some (.int .i64 (g j k))) ∧ (X.cell? (ad.add k) = some (.slice (some ak) n (C k)) ∧ X.cell? (ak.add j) = some (.int .i64 (g k j))) ∧ (X.cell? ⟨g2, j * 2, none⟩ = some (.int .i64 (s2 j)) ∧ X.cell? ⟨g2, j * 2 + 1, none⟩ = some (.int .i64 (t2 j))) ∧ (X.cell? ⟨g2, k * 2, none⟩ = some (.int .i64 (s2 k)) ∧ X.cell? ⟨g2, k * 2 + 1, none⟩ = some (.int .i64 (t2 k)))) ∧ Below w2.heap.size w2 X) (by kernel_rfl) hS (fun hHeld => ?_)
                  refine wpAnyH_take (i := 0) (oi := _) (v := ?_) rfl (by kernel_rfl) (by kernel_rfl) (by kernel_rfl) (fun _ _ _ h => h) (Or.inl ⟨by rfl, ?_⟩) (by assumption) ?_
                  rotate_left
                  · intro w hSw
                    (try dsimp only at hSw)
                    go_simp
                    (try with_reducible rfl)
                  (try simp only [Act.put, List.getElem_toArray, List.getElem_cons_succ, List.getElem_cons_zero, List.setIfInBounds_toArray, List.set_cons_zero, List.set_cons_succ])
                  refine wpAnyH_take (i := 1) (oi := _) (v := ?_) rfl (by kernel_rfl) (by kernel_rfl) (by kernel_rfl) (fun _ _ _ h => h) (Or.inl ⟨by rfl, ?_⟩) (by assumption) ?_
                  rotate_left
                  · intro w hSw
                    (try dsimp only at hSw)
                    go_simp
                    (try with_reducible rfl)
                  (try simp only [Act.put, List.getElem_toArray, List.getElem_cons_succ, List.getElem_cons_zero, List.setIfInBounds_toArray, List.set_cons_zero, List.set_cons_succ])
                  refine wpAnyH_take (i := 2) (oi := _) (v := ?_) rfl (by kernel_rfl) (by kernel_rfl) (by kernel_rfl) (fun _ _ _ h => h) (Or.inl ⟨by rfl, ?_⟩) (by assumption) ?_
                  rotate_left
                  · intro w hSw
                    (try dsimp only at hSw)
                    go_simp
                    (try with_reducible rfl)
                  (try simp only [Act.put, List.getElem_toArray, List.getElem_cons_succ, List.getElem_cons_zero, List.setIfInBounds_toArray, List.set_cons_zero, List.set_cons_succ])
                  refine wpAnyH_take (i := 3) (oi := _) (v := ?_) rfl (by kernel_rfl) (by kernel_rfl) (by kernel_rfl) (fun _ _ _ h => h) (Or.inl ⟨by rfl, ?_⟩) (by assumption) ?_
                  rotate_left
                  · intro w hSw
                    (try dsimp only at hSw)
                    go_simp
                    (try with_reducible rfl)
                  (try simp only [Act.put, List.getElem_toArray, List.getElem_cons_succ, List.getElem_cons_zero, List.setIfInBounds_toArray, List.set_cons_zero, List.set_cons_succ])
                  refine wpAnyH_take (i := 4) (oi := _) (v := ?_) rfl (by kernel_rfl) (by kernel_rfl) (by kernel_rfl) (fun _ _ _ h => h) (Or.inl ⟨by rfl, ?_⟩) (by assumption) ?_
                  rotate_left
                  · intro w hSw
                    (try dsimp only at hSw)
                    go_simp
                    (try with_reducible rfl)
                  (try simp only [Act.put, List.getElem_toArray, List.getElem_cons_succ, List.getElem_cons_zero, List.setIfInBounds_toArray, List.set_cons_zero, List.set_cons_succ])
                  refine wpAnyH_take (i := 5) (oi := _) (v := ?_) rfl (by kernel_rfl) (by kernel_rfl) (by kernel_rfl) (fun _ _ _ h => h) (Or.inl ⟨by rfl, ?_⟩) (by assumption) ?_
                  rotate_left
                  · intro w hSw
                    (try dsimp only at hSw)
                    go_simp
                    (try with_reducible rfl)
                  (try simp only [Act.put, List.getElem_toArray, List.getElem_cons_succ, List.getElem_cons_zero, List.setIfInBounds_toArray, List.set_cons_zero, List.set_cons_succ])
                  refine wpAnyH_take (i := 6) (oi := _) (v := ?_) rfl (by kernel_rfl) (by kernel_rfl) (by kernel_rfl) (fun _ _ _ h => h) (Or.inl ⟨by rfl, ?_⟩) (by assumption) ?_
                  rotate_left
                  · intro w hSw
                    (try dsimp only at hSw)
                    go_simp
                    (try with_reducible rfl)
                  (try simp only [Act.put, List.getElem_toArray, List.getElem_cons_succ, List.getElem_cons_zero, List.setIfInBounds_toArray, List.set_cons_zero, List.set_cons_succ])
                  refine wpAnyH_take (i := 7) (oi := _) (v := ?_) rfl (by kernel_rfl) (by kernel_rfl) (by kernel_rfl) (fun _ _ _ h => h) (Or.inl ⟨by rfl, ?_⟩) (by assumption) ?_
                  rotate_left
                  · intro w hSw
                    (try dsimp only at hSw)
                    go_simp
                    (try with_reducible rfl)
                  (try simp only [Act.put, List.getElem_toArray, List.getElem_cons_succ, List.getElem_cons_zero, List.setIfInBounds_toArray, List.set_cons_zero, List.set_cons_succ])
                  refine wpAnyH_take (i := 8) (oi := _) (v := ?_) rfl (by kernel_rfl) (by kernel_rfl) (by kernel_rfl) (fun _ _ _ h => h) (Or.inl ⟨by rfl, ?_⟩) (by assumption) ?_
                  rotate_left
                  · intro w hSw
                    (try dsimp only at hSw)
                    go_simp
                    (try with_reducible rfl)
                  (try simp only [Act.put, List.getElem_toArray, List.getElem_cons_succ, List.getElem_cons_zero, List.setIfInBounds_toArray, List.set_cons_zero, List.set_cons_succ])
                  refine wpAnyH_take (i := 9) (oi := _) (v := ?_) rfl (by kernel_rfl) (by kernel_rfl) (by kernel_rfl) (fun _ _ _ h => h) (Or.inl ⟨by rfl, ?_⟩) (by assumption) ?_
                  rotate_left
                  · intro w hSw
                    (try dsimp only at hSw)
                    go_simp
                    (try with_reducible rfl)
                  (try simp only [Act.put, List.getElem_toArray, List.getElem_cons_succ, List.getElem_cons_zero, List.setIfInBounds_toArray, List.set_cons_zero, List.set_cons_succ])
                  refine wpAnyH_take (i := 10) (oi := _) (v := ?_) rfl (by kernel_rfl) (by kernel_rfl) (by kernel_rfl) (fun _ _ _ h => h) (Or.inl ⟨by rfl, ?_⟩) (by assumption) ?_
                  rotate_left
                  · intro w hSw
                    (try dsimp only at hSw)
                    go_simp
                    (try with_reducible rfl)
                  (try simp only [Act.put, List.getElem_toArray, List.getElem_cons_succ, List.getElem_cons_zero, List.setIfInBounds_toArray, List.set_cons_zero, List.set_cons_succ])
                  refine wpAnyH_take (i := 11) (oi := _) (v := ?_) rfl (by kernel_rfl) (by kernel_rfl) (by kernel_rfl) (fun _ _ _ h => h) (Or.inl ⟨by rfl, ?_⟩) (by assumption) ?_
                  rotate_left
                  · intro w hSw
                    (try dsimp only at hSw)
                    go_simp
                    (try with_reducible rfl)
                  (try simp only [Act.put, List.getElem_toArray, List.getElem_cons_succ, List.getElem_cons_zero, List.setIfInBounds_toArray, List.set_cons_zero, List.set_cons_succ])
                  refine wpAnyH_take (i := 12) (oi := _) (v := ?_) rfl (by kernel_rfl) (by kernel_rfl) (by kernel_rfl) (fun _ _ _ h => h) (Or.inl ⟨by rfl, ?_⟩) (by assumption) ?_
                  rotate_left
                  · intro w hSw
                    (try dsimp only at hSw)
                    go_simp
                    (try with_reducible rfl)
                  (try simp only [Act.put, List.getElem_toArray, List.getElem_cons_succ, List.getElem_cons_zero, List.setIfInBounds_toArray, List.set_cons_zero, List.set_cons_succ])
                  refine wpAnyH_take (i := 13) (oi := _) (v := ?_) rfl (by kernel_rfl) (by kernel_rfl) (by kernel_rfl) (fun _ _ _ h => h) (Or.inl ⟨by rfl, ?_⟩) (by assumption) ?_
                  rotate_left
                  · intro w hSw
                    (try dsimp only at hSw)
                    go_simp
                    (try with_reducible rfl)
                  (try simp only [Act.put, List.getElem_toArray, List.getElem_cons_succ, List.getElem_cons_zero, List.setIfInBounds_toArray, List.set_cons_zero, List.set_cons_succ])
                  refine wpAnyH_take (i := 14) (oi := _) (v := ?_) rfl (by kernel_rfl) (by kernel_rfl) (by kernel_rfl) (fun _ _ _ h => h) (Or.inl ⟨by rfl, ?_⟩) (by assumption) ?_
                  rotate_left
                  · intro w hSw
                    (try dsimp only at hSw)
                    go_simp
                    (try with_reducible rfl)
                  (try simp only [Act.put, List.getElem_toArray, List.getElem_cons_succ, List.getElem_cons_zero, List.setIfInBounds_toArray, List.set_cons_zero, List.set_cons_succ])
                  refine wpAnyH_take (i := 15) (oi := _) (v := ?_) rfl (by kernel_rfl) (by kernel_rfl) (by kernel_rfl) (fun _ _ _ h => h) (Or.inl ⟨by rfl, ?_⟩) (by assumption) ?_
                  rotate_left
                  · intro w hSw
                    (try dsimp only at hSw)
                    go_simp
                    (try with_reducible rfl)
                  (try simp only [Act.put, List.getElem_toArray, List.getElem_cons_succ, List.getElem_cons_zero, List.setIfInBounds_toArray, List.set_cons_zero, List.set_cons_succ])
                  refine wpAnyH_take (i := 16) (oi := _) (v := ?_) rfl (by kernel_rfl) (by kernel_rfl) (by kernel_rfl) (fun _ _ _ h => h) (Or.inl ⟨by rfl, ?_⟩) (by assumption) ?_
                  rotate_left
                  · intro w hSw
                    (try dsimp only at hSw)
                    go_simp
                    (try with_reducible rfl)
                  (try simp only [Act.put, List.getElem_toArray, List.getElem_cons_succ, List.getElem_cons_zero, List.setIfInBounds_toArray, List.set_cons_zero, List.set_cons_succ])
                  refine wpAnyH_ready (rs := [17]) (by kernel_rfl) (by simp) ?_
                  refine AllReadyH.cons (o := _) rfl (fun K hK => ?_) AllReadyH.nil
                  go_simp
                  (go_at_call 26; refine (KWg.out _ _ _ _ _ _ (by first | exact .inl ⟨rfl, rfl, rfl, rfl, rfl⟩ | exact .inr ⟨rfl, rfl, rfl, rfl, rfl⟩)).mono ?_; rintro e X ⟨rfl, hx⟩; have hS := keep8 hS hx)
                  refine hK.out _ _ (by exact hS) (fun hHeld => ?_)
                  clear hK K
                  (try simp only [Act.put, List.getElem_toArray, List.getElem_cons_succ, List.getElem_cons_zero, List.setIfInBounds_toArray, List.set_cons_zero, List.set_cons_succ])
                  refine wpAnyH_ready (rs := [18]) (by kernel_rfl) (by simp) ?_
                  refine AllReadyH.cons (o := _) rfl (fun K hK => ?_) AllReadyH.nil
                  go_simp
                  (go_at_call 25; refine (KXg.out _ _ _ _ (by first | exact .inl ⟨rfl, rfl, rfl⟩ | exact .inr ⟨rfl, rfl, rfl⟩)).mono ?_; rintro e X ⟨rfl, rfl⟩)
                  refine hK.out _ _ (by exact hS) (fun hHeld => ?_)
                  clear hK K
                  (try simp only [Act.put, List.getElem_toArray, List.getElem_cons_succ, List.getElem_cons_zero, List.setIfInBounds_toArray, List.set_cons_zero, List.set_cons_succ])
                  refine wpAnyH_take (i := 19) (oi := _) (v := ?_) rfl (by kernel_rfl) (by kernel_rfl) (by kernel_rfl) (fun _ _ _ h => h) (Or.inl ⟨by rfl, ?_⟩) (by assumption) ?_
                  rotate_left
                  · intro w hSw
                    (try dsimp only at hSw)
                    go_simp
                    (try with_reducible rfl)
                  (try simp only [Act.put, List.getElem_toArray, List.getElem_cons_succ, List.getElem_cons_zero, List.setIfInBounds_toArray, List.set_cons_zero, List.set_cons_succ])
                  refine wpAnyH_take (i := 20) (oi := _) (v := ?_) rfl (by kernel_rfl) (by kernel_rfl) (by kernel_rfl) (fun _ _ _ h => h) (Or.inl ⟨by rfl, ?_⟩) (by assumption) ?_
                  rotate_left
                  · intro w hSw
                    (try dsimp only at hSw)
                    go_simp
                    (try with_reducible rfl)
                  (try simp only [Act.put, List.getElem_toArray, List.getElem_cons_succ, List.getElem_cons_zero, List.setIfInBounds_toArray, List.set_cons_zero, List.set_cons_succ])
                  refine wpAnyH_take (i := 21) (oi := _) (v := undef) rfl (by kernel_rfl) (by kernel_rfl) (by kernel_rfl) (fun _ _ _ h => h) (Or.inr ⟨by rfl, rfl⟩) (by assumption) ?_
                  (try simp only [Act.put, List.getElem_toArray, List.getElem_cons_succ, List.getElem_cons_zero, List.setIfInBounds_toArray, List.set_cons_zero, List.set_cons_succ])
                  refine wpAnyH_take (i := 22) (oi := _) (v := undef) rfl (by kernel_rfl) (by kernel_rfl) (by kernel_rfl) (fun _ _ _ h => h) (Or.inr ⟨by rfl, rfl⟩) (by assumption) ?_
                  (try simp only [Act.put, List.getElem_toArray, List.getElem_cons_succ, List.getElem_cons_zero, List.setIfInBounds_toArray, List.set_cons_zero, List.set_cons_succ])
                  refine wpAnyH_take (i := 23) (oi := _) (v := undef) rfl (by kernel_rfl) (by kernel_rfl) (by kernel_rfl) (fun _ _ _ h => h) (Or.inr ⟨by rfl, rfl⟩) (by assumption) ?_
                  (try simp only [Act.put, List.getElem_toArray, List.getElem_cons_succ, List.getElem_cons_zero, List.setIfInBounds_toArray, List.set_cons_zero, List.set_cons_succ])
                  refine wpAnyH_take (i := 24) (oi := _) (v := undef) rfl (by kernel_rfl) (by kernel_rfl) (by kernel_rfl) (fun _ _ _ h => h) (Or.inr ⟨by rfl, rfl⟩) (by assumption) ?_
                  (try simp only [Act.put, List.getElem_toArray, List.getElem_cons_succ, List.getElem_cons_zero, List.setIfInBounds_toArray, List.set_cons_zero, List.set_cons_succ])
                  refine wpAnyH_take (i := 25) (oi := _) (v := undef) rfl (by kernel_rfl) (by kernel_rfl) (by kernel_rfl) (fun _ _ _ h => h) (Or.inr ⟨by rfl, rfl⟩) (by assumption) ?_
                  (try simp only [Act.put, List.getElem_toArray, List.getElem_cons_succ, List.getElem_cons_zero, List.setIfInBounds_toArray, List.set_cons_zero, List.set_cons_succ])
                  refine wpAnyH_take (i := 26) (oi := _) (v := undef) rfl (by kernel_rfl) (by kernel_rfl) (by kernel_rfl) (fun _ _ _ h => h) (Or.inr ⟨by rfl, rfl⟩) (by assumption) ?_
                  (try simp only [Act.put, List.getElem_toArray, List.getElem_cons_succ, List.getElem_cons_zero, List.setIfInBounds_toArray, List.set_cons_zero, List.set_cons_succ])
                  refine wpAnyH_take (i := 27) (oi := _) (v := undef) rfl (by kernel_rfl) (by kernel_rfl) (by kernel_rfl) (fun _ _ _ h => h) (Or.inr ⟨by rfl, rfl⟩) (by assumption) ?_
                  (try simp only [Act.put, List.getElem_toArray, List.getElem_cons_succ, List.getElem_cons_zero, List.setIfInBounds_toArray, List.set_cons_zero, List.set_cons_succ])
                  refine wpAnyH_take (i := 28) (oi := _) (v := undef) rfl (by kernel_rfl) (by kernel_rfl) (by kernel_rfl) (fun _ _ _ h => h) (Or.inr ⟨by rfl, rfl⟩) (by assumption) ?_
                  (try simp only [Act.put, List.getElem_toArray, List.getElem_cons_succ, List.getElem_cons_zero, List.setIfInBounds_toArray, List.set_cons_zero, List.set_cons_succ])
                  refine wpAnyH_take (i := 29) (oi := _) (v := undef) rfl (by kernel_rfl) (by kernel_rfl) (by kernel_rfl) (fun _ _ _ h => h) (Or.inr ⟨by rfl, rfl⟩) (by assumption) ?_
                  (try simp only [Act.put, List.getElem_toArray, List.getElem_cons_succ, List.getElem_cons_zero, List.setIfInBounds_toArray, List.set_cons_zero, List.set_cons_succ])
                  refine wpAnyH_take (i := 30) (oi := _) (v := undef) rfl (by kernel_rfl) (by kernel_rfl) (by kernel_rfl) (fun _ _ _ h => h) (Or.inr ⟨by rfl, rfl⟩) (by assumption) ?_
                  (try simp only [Act.put, List.getElem_toArray, List.getElem_cons_succ, List.getElem_cons_zero, List.setIfInBounds_toArray, List.set_cons_zero, List.set_cons_succ])
                  refine wpAnyH_take (i := 31) (oi := _) (v := undef) rfl (by kernel_rfl) (by kernel_rfl) (by kernel_rfl) (fun _ _ _ h => h) (Or.inr ⟨by rfl, rfl⟩) (by assumption) ?_
                  (try simp only [Act.put, List.getElem_toArray, List.getElem_cons_succ, List.getElem_cons_zero, List.setIfInBounds_toArray, List.set_cons_zero, List.set_cons_succ])
                  refine wpAnyH_take (i := 32) (oi := _) (v := undef) rfl (by kernel_rfl) (by kernel_rfl) (by kernel_rfl) (fun _ _ _ h => h) (Or.inr ⟨by rfl, rfl⟩) (by assumption) ?_
                  (try simp only [Act.put, List.getElem_toArray, List.getElem_cons_succ, List.getElem_cons_zero, List.setIfInBounds_toArray, List.set_cons_zero, List.set_cons_succ])
                  refine wpAnyH_take (i := 33) (oi := _) (v := undef) rfl (by kernel_rfl) (by kernel_rfl) (by kernel_rfl) (fun _ _ _ h => h) (Or.inr ⟨by rfl, rfl⟩) (by assumption) ?_
                  (try simp only [Act.put, List.getElem_toArray, List.getElem_cons_succ, List.getElem_cons_zero, List.setIfInBounds_toArray, List.set_cons_zero, List.set_cons_succ])
                  refine wpAnyH_take (i := 34) (oi := _) (v := undef) rfl (by kernel_rfl) (by kernel_rfl) (by kernel_rfl) (fun _ _ _ h => h) (Or.inr ⟨by rfl, rfl⟩) (by assumption) ?_
                  (try simp only [Act.put, List.getElem_toArray, List.getElem_cons_succ, List.getElem_cons_zero, List.setIfInBounds_toArray, List.set_cons_zero, List.set_cons_succ])
                  refine wpAnyH_take (i := 35) (oi := _) (v := undef) rfl (by kernel_rfl) (by kernel_rfl) (by kernel_rfl) (fun _ _ _ h => h) (Or.inr ⟨by rfl, rfl⟩) (by assumption) ?_
                  (try simp only [Act.put, List.getElem_toArray, List.getElem_cons_succ, List.getElem_cons_zero, List.setIfInBounds_toArray, List.set_cons_zero, List.set_cons_succ])
                  refine wpAnyH_take (i := 36) (oi := _) (v := undef) rfl (by kernel_rfl) (by kernel_rfl) (by kernel_rfl) (fun _ _ _ h => h) (Or.inr ⟨by rfl, rfl⟩) (by assumption) ?_
                  (try simp only [Act.put, List.getElem_toArray, List.getElem_cons_succ, List.getElem_cons_zero, List.setIfInBounds_toArray, List.set_cons_zero, List.set_cons_succ])
                  refine wpAnyH_take (i := 37) (oi := _) (v := undef) rfl (by kernel_rfl) (by kernel_rfl) (by kernel_rfl) (fun _ _ _ h => h) (Or.inr ⟨by rfl, rfl⟩) (by assumption) ?_
                  (try simp only [Act.put, List.getElem_toArray, List.getElem_cons_succ, List.getElem_cons_zero, List.setIfInBounds_toArray, List.set_cons_zero, List.set_cons_succ])
                  refine wpAnyH_take (i := 38) (oi := _) (v := ?_) rfl (by kernel_rfl) (by kernel_rfl) (by kernel_rfl) (fun _ _ _ h => h) (Or.inl ⟨by rfl, ?_⟩) (by assumption) ?_
                  rotate_left
                  · intro w hSw
                    (try dsimp only at hSw)
                    go_simp
                    (try with_reducible rfl)
                  (try simp only [Act.put, List.getElem_toArray, List.getElem_cons_succ, List.getElem_cons_zero, List.setIfInBounds_toArray, List.set_cons_zero, List.set_cons_succ])
                  refine wpAnyH_take (i := 39) (oi := _) (v := ?_) rfl (by kernel_rfl) (by kernel_rfl) (by kernel_rfl) (fun _ _ _ h => h) (Or.inl ⟨by rfl, ?_⟩) (by assumption) ?_
                  rotate_left
                  · intro w hSw
                    (try dsimp only at hSw)
                    go_simp
                    (try with_reducible rfl)
                  (try simp only [Act.put, List.getElem_toArray, List.getElem_cons_succ, List.getElem_cons_zero, List.setIfInBounds_toArray, List.set_cons_zero, List.set_cons_succ])
                  refine wpAnyH_done (by kernel_rfl) ?_ _
                  have hb9 := hS.2
                  clear hS
                  go_wp2_with fail
                  exact ⟨⟨k + 1, by omega, by go_num, by rw [HXX.out]; rfl, hb9⟩, by simp [intOf]; omega⟩
                all_goals
                  go_wp2_with fail
                  go_region_held3 (fun X => ((X.cell? (ad.add j) = some (.slice (some aj) n (C j)) ∧ X.cell? (aj.add k) = some (.int .i64 (g j k))) ∧ (X.cell? (ad.add k) = some (.slice (some ak) n (C k)) ∧ X.cell? (ak.add j) = some (.int .i64 (g k j))) ∧ (X.cell? ⟨g2, j * 2, none⟩ = some (.int .i64 (s2 j)) ∧ X.cell? ⟨g2, j * 2 + 1, none⟩ = some (.int .i64 (t2 j))) ∧ (X.cell? ⟨g2, k * 2, none⟩ = some (.int .i64 (s2 k)) ∧ X.cell? ⟨g2, k * 2 + 1, none⟩ = some (.int .i64 (t2 k)))) ∧ Below w2.heap.size w2 X)
                    (first | (with_reducible exact hS))
                    (first
                      | (go_at_call 26; refine (KWg.out _ _ _ _ _ _ (by first | exact .inl ⟨rfl, rfl, rfl, rfl, rfl⟩ | exact .inr ⟨rfl, rfl, rfl, rfl, rfl⟩)).mono ?_; rintro e X ⟨rfl, hx⟩; have hS := keep8 hS hx)
                      | (go_at_call 25; refine (KXg.out _ _ _ _ (by first | exact .inl ⟨rfl, rfl, rfl⟩ | exact .inr ⟨rfl, rfl, rfl⟩)).mono ?_; rintro e X ⟨rfl, rfl⟩))
                  have hb9 := hS.2
                  clear hS
                  go_wp2_with fail
                  exact ⟨⟨k + 1, by omega, by go_num, by rw [HXX.out]; rfl, hb9⟩, by simp [intOf]; omega⟩
            · have hkj : k = j + 1 := by omega
              have hki : ¬ (k : Int) ≤ j := by omega
              rw [hkj]
              have HB9 := hide (HB2.out.trans (hbx.mono HB2.out.size))
              obtain rfl := HM1.out
              have KI := hide (fun hp => hI (j + 1) (some ⟨g2, 0, none⟩) c2 s2 t2 wr (by omega) (by omega) (.inr ⟨g2, rfl⟩) (H.out.step HB9.out) (HSM.out.step hbx) hp)
              generalize okF g s2 t2 j (j + 1) = z at *
              clear hbx
              cases z
              · have HNN := hide (hNX.out (fun he => by have := hEN.out he; cases this))
                go_wp2_with fail
                go_roundw
                case rel => exact ⟨b + 1, by omega, by omega, by go_num, HNN.out, HB9.out⟩
                case measure => simp [intOf]; omega
              · have KJ := hide (KI.out (hPN.out rfl))
                clear KI
                go_wp2_with fail
                refine KJ.out.mono ?_
                rintro e X9 ⟨v, ok, rfl, hb9, hrs⟩
                have HX9 := hide (HB9.out.trans (hb9.mono HB9.out.size))
                have HRS := hide hrs
                clear hb9 hrs
                cases ok
                · have HNN := hide (hNX.out (by
                    rcases HRS.out with ⟨h, _⟩ | ⟨_, h⟩
                    · cases h
                    · exact h))
                  go_wp2_with fail
                  go_roundw
                  case rel => exact ⟨b + 1, by omega, by omega, by go_num, HNN.out, HX9.out⟩
                  case measure => simp [intOf]; omega
                · have HRR : Hid (RsP n g j s t v true X9) := by
                    rcases HRS.out with ⟨_, al', cap', s', t', hv, hsp, hfu, hag, hle⟩ | ⟨h, _⟩
                    · exact .inl ⟨rfl, al', cap', s', t', hv, hsp, hfu, hAGR.out s' t' hag, hLS.out s' t' hag hle⟩
                    · cases h
                  go_wp2_with fail
                  go_ret2
                  exact ⟨v, true, rfl, HX9.out, HRR.out⟩
        · have hbi : ¬ (b : Int) < 2 * n := by omega
          go_wp2_with fail
          refine ⟨⟨a + 1, by omega, by go_num, fun x y hx he => ?_, HB.out⟩, by simp [intOf]; omega⟩
          have h3 := (ext2_ok hjn he).2.1
          rw [upN_at] at h3
          exact HNL.out x y (by unfold lt2; omega) he
    · have hai : ¬ (a : Int) < 2 * n := by omega
      have hne : ¬ Ext2 n g j s t := fun ⟨p, q, h1, h2⟩ => HNO.out (p j) (q j) (by have := h1.1 j hjn; omega) ⟨p, q, h1, fun k hk => by
        by_cases hkj : k = j
        · subst hkj; rw [upN_at, upN_at]; exact ⟨rfl, rfl⟩
        · rw [upN_no _ _ _ _ hkj, upN_no _ _ _ _ hkj]; exact h2 k (by omega)⟩
      have HNE := hide hne
      clear hne
      go_wp2_with fail
      go_ret2
      exact ⟨_, .inl ⟨rfl, HB.out, .inr ⟨rfl, HNE.out⟩⟩⟩
end Go.Proofs.YtnaggcadmfmibaaDoor
