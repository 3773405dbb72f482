/- Spans in a slice: ContainsFunc with isEmpty; lieSo. -/
import Derived.Test.YtnaggcadmfmibaaDoorSpnJ
namespace Go.Proofs.YtnaggcadmfmibaaDoor
open Go.RowKit
set_option linter.unusedVariables false
set_option linter.unusedSimpArgs false

/-- a slice of spans -/
def Sp (ad : Option Addr) (n : Nat) (s t : Nat → Int) (X : World) : Prop := ∀ k, k < n → ∃ a, ad = some a ∧ X.cell? (a.add (k * 2)) = some (.int .i64 (s k)) ∧ X.cell? (a.add (k * 2 + 1)) = some (.int .i64 (t k))
theorem Sp.step {ad : Option Addr} {n : Nat} {s t : Nat → Int} {X X' : World} (h : Sp ad n s t X) (hb : Below X.heap.size X X') : Sp ad n s t X' := fun k hk => by
  obtain ⟨a, ha, h1, h2⟩ := h k hk
  exact ⟨a, ha, (hb.cell (lt_of_cell h1)).trans h1, (hb.cell (lt_of_cell h2)).trans h2⟩
theorem add_one (a : Addr) (m : Nat) : a.add (m + 1) = ⟨(a.add m).block, (a.add m).off + 1, none⟩ := by
  rw [Addr.add_succ']
  cases m with
  | zero => simp [Addr.add]
  | succ m => rw [Addr.add_succ']; simp; omega
set_option maxHeartbeats 2000000 in
theorem idxSpan (ad : Option Addr) (n cap : Nat) (s t : Nat → Int) (w : World) (h : Sp ad n s t w) (hn : n ≤ 1000) :
    Calls Tryd.prog 49 #[.slice ad n cap, .func (.func 29) #[] #[]] w fun e w' => ∃ i : Int, e = .returned (.int .i64 i) ∧ decide (0 ≤ i) = anyB (fun c => decide (t c ≤ s c)) n ∧ Below w.heap.size w w' := by
  have K := hide empty_any
  have H := hide h
  clear h
  go_enter Tryd.func49, Tryd.ntmps49
  go_wp2_with fail
  go_loopw [8] (fun i wr => ∃ r : Nat, r ≤ n ∧ i = .int .i64 r ∧ anyB (fun c => decide (t c ≤ s c)) r = false ∧ Below w.heap.size w wr) (fun i _ => n - (intOf i).toNat)
  case atStart => exact ⟨0, by omega, rfl, rfl, Below.refl _ _⟩
  case round =>
    obtain ⟨r, hr, rfl, hno, hb⟩ := hrel
    have HNO := hide hno
    have HBW := hide hb
    clear hno hb
    by_cases hlt : r < n
    · obtain ⟨a, rfl, hc, hc2⟩ := (Sp.step H.out HBW.out) r hlt
      rw [add_one] at hc2
      have hri : (r : Int) < n := by omega
      have HB : Hid (anyB (fun c => decide (t c ≤ s c)) (r + 1) = (anyB (fun c => decide (t c ≤ s c)) r || decide (t r ≤ s r))) := rfl
      have HH := hide (fun h : decide (t r ≤ s r) = true => anyB_hit (b := fun c => decide (t c ≤ s c)) h n hlt)
      have KK := hide (K.out (s r) (t r))
      generalize decide (t r ≤ s r) = x at *
      go_wp2_with fail
      refine (KK.out _).mono ?_
      rintro e W ⟨rfl, hb2⟩
      have hB := HBW.out.trans (hb2.mono HBW.out.size)
      cases x
      · go_wp2
        go_roundw
        case rel => exact ⟨r + 1, by omega, by go_num, by rw [HB.out, HNO.out]; rfl, hB⟩
        case measure => simp [intOf]; omega
      · go_wp2
        go_ret
        exact ⟨r, rfl, by rw [HH.out trivial]; simp, hB⟩
    · have hrn : r = n := by omega
      rw [hrn] at HNO
      have hni : (n : Int) ≤ r := by omega
      go_wp2
      go_ret
      exact ⟨-1, rfl, by rw [HNO.out]; rfl, HBW.out⟩
theorem conSpan (ad : Option Addr) (n cap : Nat) (s t : Nat → Int) (w : World) (h : Sp ad n s t w) (hn : n ≤ 1000) :
    Calls Tryd.prog 28 #[.slice ad n cap, .func (.func 29) #[] #[]] w fun e w' => e = .returned (.bool (anyB (fun c => decide (t c ≤ s c)) n)) ∧ Below w.heap.size w w' := by
  have K := hide (idxSpan ad n cap s t w h hn)
  generalize anyB (fun c => decide (t c ≤ s c)) n = x at *
  clear h
  go_enter Tryd.func28, Tryd.ntmps28
  go_wp2_with fail
  refine K.out.mono ?_
  rintro e W ⟨i, rfl, hi, hb⟩
  have HI := hide hi
  clear hi
  go_wp2
  go_ret
  exact ⟨by rw [← HI.out]; rfl, hb⟩
/-- do all pairs lie so? in the row i, of the first k -/
def lieR (g : Nat → Nat → Int) (s t : Nat → Int) (i : Nat) : Nat → Bool
  | 0 => true
  | k + 1 => lieR g s t i k && hasB (g i k) (Spn.way (s i) (t i) (s k) (t k))
def lieA (g : Nat → Nat → Int) (s t : Nat → Int) (n : Nat) : Nat → Bool
  | 0 => true
  | i + 1 => lieA g s t n i && lieR g s t i n
theorem lieR_no {g : Nat → Nat → Int} {s t : Nat → Int} {i k : Nat} (h : hasB (g i k) (Spn.way (s i) (t i) (s k) (t k)) = false) : ∀ n, k < n → lieR g s t i n = false
  | n + 1, hk => by
    unfold lieR
    rcases Nat.lt_or_ge k n with hl | hl
    · rw [lieR_no h n hl]; rfl
    · have : k = n := by omega
      rw [← this, h]; simp
theorem lieA_no {g : Nat → Nat → Int} {s t : Nat → Int} {n i : Nat} (h : lieR g s t i n = false) : ∀ m, i < m → lieA g s t n m = false
  | m + 1, hk => by
    unfold lieA
    rcases Nat.lt_or_ge i m with hl | hl
    · rw [lieA_no h m hl]; rfl
    · have : i = m := by omega
      rw [← this, h]; simp
theorem keep6 {w X X' : World} {p0 p1 p2 p3 p4 p5 : Addr} {v0 v1 v2 v3 v4 v5 : Value}
    (h : ((X.cell? p0 = some v0 ∧ X.cell? p1 = some v1) ∧ (X.cell? p2 = some v2 ∧ X.cell? p3 = some v3) ∧ (X.cell? p4 = some v4 ∧ X.cell? p5 = some v5)) ∧ Below w.heap.size w X) (hx : Below X.heap.size X X') :
    ((X'.cell? p0 = some v0 ∧ X'.cell? p1 = some v1) ∧ (X'.cell? p2 = some v2 ∧ X'.cell? p3 = some v3) ∧ (X'.cell? p4 = some v4 ∧ X'.cell? p5 = some v5)) ∧ Below w.heap.size w X' := by
  obtain ⟨⟨⟨a0, a1⟩, ⟨a2, a3⟩, ⟨a4, a5⟩⟩, hb⟩ := h
  exact ⟨⟨⟨(hx.cell (lt_of_cell a0)).trans a0, (hx.cell (lt_of_cell a1)).trans a1⟩, ⟨(hx.cell (lt_of_cell a2)).trans a2, (hx.cell (lt_of_cell a3)).trans a3⟩, ⟨(hx.cell (lt_of_cell a4)).trans a4, (hx.cell (lt_of_cell a5)).trans a5⟩⟩, hb.trans (hx.mono hb.size)⟩
set_option maxHeartbeats 4000000 in
theorem lieso_any (ad al : Option Addr) (n cap capl : Nat) (A : Nat → Option Addr) (C : Nat → Nat) (g : Nat → Nat → Int) (s t : Nat → Int) (w : World) (hn : n ≤ 1000)
    (h : NetAt ad n A (fun _ => n) C g w) (hs : Sp al n s t w) :
    Calls Tryd.prog 30 #[.slice ad n cap, .slice al n capl] w fun e w' => e = .returned (.bool (lieA g s t n n)) ∧ Below w.heap.size w w' := by
  have H := hide h
  have HS := hide hs
  have KW := hide way_any
  have KH := hide has_any
  clear h hs
  go_enter Tryd.func30, Tryd.ntmps30
  go_wp2_with fail
  go_loopw [9] (fun i wr => ∃ r : Nat, r ≤ n ∧ i = .int .i64 r ∧ lieA g s t n r = true ∧ Below w.heap.size w wr) (fun i _ => n - (intOf i).toNat)
  case atStart => exact ⟨0, by omega, rfl, rfl, Below.refl _ _⟩
  case round =>
    obtain ⟨r, hr, rfl, hyes, hb⟩ := hrel
    have HY := hide hyes
    have HB := hide hb
    clear hyes hb
    by_cases hlt : r < n
    · have hri : (r : Int) < n := by omega
      go_wp2_with fail
      go_loopw [14] (fun i wr => ∃ m : Nat, m ≤ n ∧ i = .int .i64 m ∧ lieR g s t r m = true ∧ Below w.heap.size w wr) (fun i _ => n - (intOf i).toNat)
      case atStart => exact ⟨0, by omega, rfl, rfl, HB.out⟩
      case round =>
        clear HB
        obtain ⟨m, hm, rfl, hyes, hb⟩ := hrel
        have HY2 := hide hyes
        have HB := hide hb
        clear hyes hb
        by_cases hmt : m < n
        · have hmi : (m : Int) < n := by omega
          obtain ⟨a, rfl, c0⟩ := (H.out.step HB.out).rows r hlt
          obtain ⟨a', ha', c1⟩ := (H.out.step HB.out).sets r hlt m hmt
          obtain ⟨l, rfl, s0, s1⟩ := (HS.out.step HB.out) r hlt
          obtain ⟨l2, hl2, t0, t1⟩ := (HS.out.step HB.out) m hmt
          obtain rfl := Option.some.inj hl2
          rw [add_one] at s1 t1
          dsimp only at c0
          rw [ha'] at c0
          clear ha' hl2
          have KQ := hide (fun W => KW.out (s r) (t r) (s m) (t m) W)
          have hq := Spn.way_lt (s r) (t r) (s m) (t m)
          have HR : Hid (lieR g s t r (m + 1) = (lieR g s t r m && hasB (g r m) (Spn.way (s r) (t r) (s m) (t m)))) := rfl
          have HN := hide (fun h : hasB (g r m) (Spn.way (s r) (t r) (s m) (t m)) = false => lieA_no (lieR_no h n hmt) n hlt)
          generalize Spn.way (s r) (t r) (s m) (t m) = q at *
          have KX := hide (fun W => KH.out (g r m) q W (by omega))
          generalize hasB (g r m) q = x at *
          go_wp2_with fail
          have hS := keep6 (And.intro (And.intro (And.intro c0 c1) (And.intro (And.intro s0 s1) (And.intro t0 t1))) HB.out) (Below.drew (Below.refl _ wr))
          go_region_held3 (fun X => ((X.cell? (a.add r) = some (.slice (some a') n (C r)) ∧ X.cell? (a'.add m) = some (.int .i64 (g r m))) ∧ (X.cell? (l.add (r * 2)) = some (.int .i64 (s r)) ∧ X.cell? ⟨(l.add (r * 2)).block, (l.add (r * 2)).off + 1, none⟩ = some (.int .i64 (t r))) ∧ (X.cell? (l.add (m * 2)) = some (.int .i64 (s m)) ∧ X.cell? ⟨(l.add (m * 2)).block, (l.add (m * 2)).off + 1, none⟩ = some (.int .i64 (t m)))) ∧ Below w.heap.size w X)
            (first | (with_reducible exact hS))
            (first
              | (go_at_call 51; refine (KQ.out _).mono ?_; rintro e X ⟨rfl, hx⟩; have hS := keep6 hS hx)
              | (go_at_call 50; refine (KX.out _).mono ?_; rintro e X ⟨rfl, rfl⟩))
          have hB := hS.2
          clear hS c0 c1 s0 s1 t0 t1
          cases x
          · go_wp2
            go_ret
            exact ⟨by rw [HN.out trivial]; rfl, hB⟩
          · go_wp2
            go_roundw
            case rel => exact ⟨m + 1, by omega, by go_num, by rw [HR.out, HY2.out]; rfl, hB⟩
            case measure => simp [intOf]; omega
        · have hmn : m = n := by omega
          have hni : (n : Int) ≤ m := by omega
          rw [hmn] at HY2
          have HA : Hid (lieA g s t n (r + 1) = (lieA g s t n r && lieR g s t r n)) := rfl
          go_wp2
          go_roundw
          case rel => exact ⟨r + 1, by omega, by go_num, by rw [HA.out, HY.out, HY2.out]; rfl, HB.out⟩
          case measure => simp [intOf]; omega
    · have hrn : r = n := by omega
      have hni : (n : Int) ≤ r := by omega
      rw [hrn] at HY
      go_wp2
      go_ret
      exact ⟨by rw [HY.out]; rfl, HB.out⟩
end Go.Proofs.YtnaggcadmfmibaaDoor
