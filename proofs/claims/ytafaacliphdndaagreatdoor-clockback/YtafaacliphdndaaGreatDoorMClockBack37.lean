/- package clock: PeriodText of a period that is not 0. -/
import Derived.Test.YtafaacliphdndaaGreatDoorMClockBack36
namespace Go.Proofs.YtafaacliphdndaaGreatDoor
open Go.RowKit Go.Shelf
set_option linter.unusedVariables false
set_option linter.unusedSimpArgs false

/-- some part is below 0; is above 0 -/
def Neg (y m n d s : Int) (j : Nat) : Prop := (0 < j ∧ y < 0) ∨ (1 < j ∧ m < 0) ∨ (2 < j ∧ n < 0) ∨ (3 < j ∧ d < 0) ∨ (4 < j ∧ s < 0)
def Pos (y m n d s : Int) (j : Nat) : Prop := (0 < j ∧ 0 < y) ∨ (1 < j ∧ 0 < m) ∨ (2 < j ∧ 0 < n) ∨ (3 < j ∧ 0 < d) ∨ (4 < j ∧ 0 < s)
theorem partsText_int (y m n d s : Int) (w : World) (ht : Tab w) (hy : 0 ≤ y ∧ y ≤ 1000000000000) (hm : 0 ≤ m ∧ m ≤ 1000000000000) (hn : 0 ≤ n ∧ n ≤ 1000000000000) (hd : 0 ≤ d ∧ d ≤ 1000000000000) (hs : 0 ≤ s ∧ s ≤ 1000000000000) :
    Calls Tryz.prog 63 #[.agg #[.int .i64 y, .int .i64 m, .int .i64 n, .int .i64 d, .int .i64 s]] w fun e w' => ∃ T : ByteArray, e = .returned (.string T) ∧ T = pbody y.toNat m.toNat n.toNat d.toNat s.toNat ∧ T.size ≤ 200 ∧ Below w.heap.size w w' := by
  obtain ⟨a, rfl⟩ : ∃ k : Nat, y = k := ⟨y.toNat, by omega⟩
  obtain ⟨b, rfl⟩ : ∃ k : Nat, m = k := ⟨m.toNat, by omega⟩
  obtain ⟨c, rfl⟩ : ∃ k : Nat, n = k := ⟨n.toNat, by omega⟩
  obtain ⟨e, rfl⟩ : ∃ k : Nat, d = k := ⟨d.toNat, by omega⟩
  obtain ⟨f, rfl⟩ : ∃ k : Nat, s = k := ⟨s.toNat, by omega⟩
  exact (partsText_any a b c e f w ht (by omega) (by omega) (by omega) (by omega) (by omega)).mono fun r w' ⟨hr, hb⟩ =>
    ⟨_, hr, by simp, pbody_size a b c e f (by omega) (by omega) (by omega) (by omega) (by omega), hb⟩
set_option maxRecDepth 100000 in
set_option maxHeartbeats 16000000 in
theorem ptext_loop (y m n d s : Int) (r1 r2 : Value) (w : World) (ht : Tab w) (hy : -1000000000000 ≤ y ∧ y ≤ 1000000000000) (hm : -1000000000000 ≤ m ∧ m ≤ 1000000000000) (hn : -1000000000000 ≤ n ∧ n ≤ 1000000000000) (hd : -1000000000000 ≤ d ∧ d ≤ 1000000000000) (hs : -1000000000000 ≤ s ∧ s ≤ 1000000000000) (hne : ¬ (y = 0 ∧ m = 0 ∧ n = 0 ∧ d = 0 ∧ s = 0))
    (q1 : Neg y m n d s 5 → Pos y m n d s 5 → r1 = .string ⟨#[]⟩ ∧ r2 = .iface 25 (.int .i64 1))
    (q2 : Neg y m n d s 5 → ¬ Pos y m n d s 5 → r1 = .string (⟨#[45]⟩ ++ pbody (-y).toNat (-m).toNat (-n).toNat (-d).toNat (-s).toNat) ∧ r2 = .nilIface)
    (q3 : ¬ Neg y m n d s 5 → r1 = .string (pbody y.toNat m.toNat n.toNat d.toNat s.toNat) ∧ r2 = .nilIface) :
    Calls Tryz.prog 40 #[.agg #[.int .i64 y, .int .i64 m, .int .i64 n, .int .i64 d, .int .i64 s]] w fun e w' => e = .returned (.tuple #[r1, r2]) ∧ Below w.heap.size w w' := by
  have K := hide (fun W => check_ok y m n d s W hy hm hn hd hs)
  have Q1 := hide q1
  have Q2 := hide q2
  have Q3 := hide q3
  have HNE := hide hne
  clear q1 q2 q3 hne
  go_enter Tryz.func40, Tryz.ntmps40
  go_wp2_with fail
  refine (K.out _).mono ?_
  rintro e W ⟨rfl, hb⟩
  obtain ⟨⟨a0, a1, a2, a3, a4⟩, fz, hsz⟩ := box5 w W _ _ _ _ _ _ hb
  have hB := ((Below.refl _ w).alloc (Nat.le_refl _) _).trans (hb.mono (by simp))
  clear hb K
  go_wp2_with fail
  all_goals subst_vars
  all_goals first | (exfalso; have := HNE.out; simp at this; done) | skip
  · refine (parts_any _ _ _ _ _ _).mono ?_
    rintro e W1 ⟨rfl, b1⟩
    have c0 := (b1.cell (p := ⟨w.heap.size, 0, none⟩) hsz).trans a0
    have c1 := (b1.cell (p := ⟨w.heap.size, 1, none⟩) hsz).trans a1
    have c2 := (b1.cell (p := ⟨w.heap.size, 2, none⟩) hsz).trans a2
    have c3 := (b1.cell (p := ⟨w.heap.size, 3, none⟩) hsz).trans a3
    have c4 := (b1.cell (p := ⟨w.heap.size, 4, none⟩) hsz).trans a4
    have hs1 : w.heap.size < W1.heap.size := Nat.lt_of_lt_of_le hsz b1.size
    have hB1 := hide (hB.trans (b1.mono hB.size))
    clear b1 a0 a1 a2 a3 a4 fz hB
    go_wp2_with fail
    have hB2 := hide (hB1.out.alloc hB1.out.size (.cells #[.int .i64 0, .int .i64 0, .int .i64 0, .int .i64 0, .int .i64 s] 110))
    go_loop [6, 7, 19] (fun av bv k => ∃ (j : Nat) (A B : Bool), j ≤ 5 ∧ k = .int .i64 j ∧ av = .bool A ∧ bv = .bool B ∧ Hid (A = true ↔ (0 < j ∧ (0 : Int) < 0) ∨ (1 < j ∧ (0 : Int) < 0) ∨ (2 < j ∧ (0 : Int) < 0) ∨ (3 < j ∧ (0 : Int) < 0) ∨ (4 < j ∧ s < 0)) ∧ Hid (B = true ↔ (0 < j ∧ (0 : Int) < 0) ∨ (1 < j ∧ (0 : Int) < 0) ∨ (2 < j ∧ (0 : Int) < 0) ∨ (3 < j ∧ (0 : Int) < 0) ∨ (4 < j ∧ 0 < s))) (fun _ _ k => 5 - (intOf k).toNat)
    case atStart => exact ⟨0, false, false, by omega, rfl, rfl, rfl, hide (by simp), hide (by simp)⟩
    case round =>
      obtain ⟨j, A, B, hj, rfl, rfl, rfl, hA, hB⟩ := hrel
      rcases (show j = 0 ∨ j = 1 ∨ j = 2 ∨ j = 3 ∨ j = 4 ∨ j = 5 by omega) with rfl | rfl | rfl | rfl | rfl | rfl
      · cases A <;> cases B
        all_goals
          go_wp2
          go_round
          case rel => exact ⟨1, _, _, by omega, rfl, rfl, rfl, hide (by have h := hA.out; constructor <;> intro g <;> (try simp at g) <;> (try simp at h) <;> (try simp) <;> omega), hide (by have h := hB.out; constructor <;> intro g <;> (try simp at g) <;> (try simp at h) <;> (try simp) <;> omega)⟩
          case measure => simp [intOf]
      · cases A <;> cases B
        all_goals
          go_wp2
          go_round
          case rel => exact ⟨2, _, _, by omega, rfl, rfl, rfl, hide (by have h := hA.out; constructor <;> intro g <;> (try simp at g) <;> (try simp at h) <;> (try simp) <;> omega), hide (by have h := hB.out; constructor <;> intro g <;> (try simp at g) <;> (try simp at h) <;> (try simp) <;> omega)⟩
          case measure => simp [intOf]
      · cases A <;> cases B
        all_goals
          go_wp2
          go_round
          case rel => exact ⟨3, _, _, by omega, rfl, rfl, rfl, hide (by have h := hA.out; constructor <;> intro g <;> (try simp at g) <;> (try simp at h) <;> (try simp) <;> omega), hide (by have h := hB.out; constructor <;> intro g <;> (try simp at g) <;> (try simp at h) <;> (try simp) <;> omega)⟩
          case measure => simp [intOf]
      · cases A <;> cases B
        all_goals
          go_wp2
          go_round
          case rel => exact ⟨4, _, _, by omega, rfl, rfl, rfl, hide (by have h := hA.out; constructor <;> intro g <;> (try simp at g) <;> (try simp at h) <;> (try simp) <;> omega), hide (by have h := hB.out; constructor <;> intro g <;> (try simp at g) <;> (try simp at h) <;> (try simp) <;> omega)⟩
          case measure => simp [intOf]
      · cases A <;> cases B
        all_goals
          go_wp2
          go_round
          case rel => exact ⟨5, _, _, by omega, rfl, rfl, rfl, hide (by have h := hA.out; constructor <;> intro g <;> (try simp at g) <;> (try simp at h) <;> (try simp) <;> omega), hide (by have h := hB.out; constructor <;> intro g <;> (try simp at g) <;> (try simp at h) <;> (try simp) <;> omega)⟩
          case measure => simp [intOf]
      · have q45 : (⟨#[45]⟩ : ByteArray).size = 1 := rfl
        have htW := hide (ht.later hB2.out)
        have e0 : (W1.alloc (.cells #[.int .i64 0, .int .i64 0, .int .i64 0, .int .i64 0, .int .i64 s] 110)).cell? ⟨w.heap.size, 0, none⟩ = some (.int .i64 0) := by rw [World.cell?_alloc_past _ _ _ hs1]; exact c0
        have e1 : (W1.alloc (.cells #[.int .i64 0, .int .i64 0, .int .i64 0, .int .i64 0, .int .i64 s] 110)).cell? ⟨w.heap.size, 1, none⟩ = some (.int .i64 0) := by rw [World.cell?_alloc_past _ _ _ hs1]; exact c1
        have e2 : (W1.alloc (.cells #[.int .i64 0, .int .i64 0, .int .i64 0, .int .i64 0, .int .i64 s] 110)).cell? ⟨w.heap.size, 2, none⟩ = some (.int .i64 0) := by rw [World.cell?_alloc_past _ _ _ hs1]; exact c2
        have e3 : (W1.alloc (.cells #[.int .i64 0, .int .i64 0, .int .i64 0, .int .i64 0, .int .i64 s] 110)).cell? ⟨w.heap.size, 3, none⟩ = some (.int .i64 0) := by rw [World.cell?_alloc_past _ _ _ hs1]; exact c3
        have e4 : (W1.alloc (.cells #[.int .i64 0, .int .i64 0, .int .i64 0, .int .i64 0, .int .i64 s] 110)).cell? ⟨w.heap.size, 4, none⟩ = some (.int .i64 s) := by rw [World.cell?_alloc_past _ _ _ hs1]; exact c4
        cases A
        · have hNg : ¬ Neg 0 0 0 0 s 5 := fun g => absurd (hA.out.2 g) (by simp)
          obtain ⟨rfl, rfl⟩ := Q3.out hNg
          have HN := hide hNg
          clear Q1 Q2 Q3 hA hNg
          unfold Neg at HN
          have KP := hide (fun W hW => partsText_int 0 0 0 0 s W hW (by have := HN.out; omega) (by have := HN.out; omega) (by have := HN.out; omega) (by have := HN.out; omega) (by have := HN.out; omega))
          cases B
          all_goals
            go_wp2_with fail
            refine (KP.out _ htW.out).mono ?_
            rintro e W3 ⟨T, rfl, hT, hTz, b3⟩
            have HT := hide hT
            have hB3 := hB2.out.trans (b3.mono hB2.out.size)
            clear b3 hT
            go_wp2_with fail
            go_ret2
            exact ⟨by rw [HT.out]; rfl, hB3⟩
        · have hNg : Neg 0 0 0 0 s 5 := hA.out.1 rfl
          cases B
          · have hPs : ¬ Pos 0 0 0 0 s 5 := fun g => absurd (hB.out.2 g) (by simp)
            obtain ⟨rfl, rfl⟩ := Q2.out hNg hPs
            have HP := hide hPs
            clear Q1 Q2 Q3 hA hB hNg hPs
            unfold Pos at HP
            have KT := hide (fun W => turned_any 0 0 0 0 s W (by omega) (by omega) (by omega) (by omega) (by omega))
            have KP := hide (fun W hW => partsText_int (-0) (-0) (-0) (-0) (-s) W hW (by have := HP.out; omega) (by have := HP.out; omega) (by have := HP.out; omega) (by have := HP.out; omega) (by have := HP.out; omega))
            try simp only [Int.neg_zero] at KT KP
            go_wp2_with fail
            refine (KT.out _).mono ?_
            rintro e W2 ⟨rfl, b2⟩
            have hB3 := hB2.out.trans (b2.mono hB2.out.size)
            have htX := hide (htW.out.later b2)
            clear b2
            go_wp2_with fail
            refine (KP.out _ htX.out).mono ?_
            rintro e W3 ⟨T, rfl, hT, hTz, b3⟩
            have HT := hide hT
            have hB4 := hB3.trans (b3.mono hB3.size)
            clear b3 hT
            go_wp2_with fail
            go_ret2
            exact ⟨by rw [HT.out]; rfl, hB4⟩
          · have hPs : Pos 0 0 0 0 s 5 := hB.out.1 rfl
            obtain ⟨rfl, rfl⟩ := Q1.out hNg hPs
            clear Q1 Q2 Q3 hA hB hNg hPs
            go_wp2_with fail
            go_ret2
            exact ⟨rfl, hB2.out⟩
  · refine (parts_any _ _ _ _ _ _).mono ?_
    rintro e W1 ⟨rfl, b1⟩
    have c0 := (b1.cell (p := ⟨w.heap.size, 0, none⟩) hsz).trans a0
    have c1 := (b1.cell (p := ⟨w.heap.size, 1, none⟩) hsz).trans a1
    have c2 := (b1.cell (p := ⟨w.heap.size, 2, none⟩) hsz).trans a2
    have c3 := (b1.cell (p := ⟨w.heap.size, 3, none⟩) hsz).trans a3
    have c4 := (b1.cell (p := ⟨w.heap.size, 4, none⟩) hsz).trans a4
    have hs1 : w.heap.size < W1.heap.size := Nat.lt_of_lt_of_le hsz b1.size
    have hB1 := hide (hB.trans (b1.mono hB.size))
    clear b1 a0 a1 a2 a3 a4 fz hB
    go_wp2_with fail
    have hB2 := hide (hB1.out.alloc hB1.out.size (.cells #[.int .i64 0, .int .i64 0, .int .i64 0, .int .i64 d, .int .i64 s] 110))
    go_loop [6, 7, 19] (fun av bv k => ∃ (j : Nat) (A B : Bool), j ≤ 5 ∧ k = .int .i64 j ∧ av = .bool A ∧ bv = .bool B ∧ Hid (A = true ↔ (0 < j ∧ (0 : Int) < 0) ∨ (1 < j ∧ (0 : Int) < 0) ∨ (2 < j ∧ (0 : Int) < 0) ∨ (3 < j ∧ d < 0) ∨ (4 < j ∧ s < 0)) ∧ Hid (B = true ↔ (0 < j ∧ (0 : Int) < 0) ∨ (1 < j ∧ (0 : Int) < 0) ∨ (2 < j ∧ (0 : Int) < 0) ∨ (3 < j ∧ 0 < d) ∨ (4 < j ∧ 0 < s))) (fun _ _ k => 5 - (intOf k).toNat)
    case atStart => exact ⟨0, false, false, by omega, rfl, rfl, rfl, hide (by simp), hide (by simp)⟩
    case round =>
      obtain ⟨j, A, B, hj, rfl, rfl, rfl, hA, hB⟩ := hrel
      rcases (show j = 0 ∨ j = 1 ∨ j = 2 ∨ j = 3 ∨ j = 4 ∨ j = 5 by omega) with rfl | rfl | rfl | rfl | rfl | rfl
      · cases A <;> cases B
        all_goals
          go_wp2
          go_round
          case rel => exact ⟨1, _, _, by omega, rfl, rfl, rfl, hide (by have h := hA.out; constructor <;> intro g <;> (try simp at g) <;> (try simp at h) <;> (try simp) <;> omega), hide (by have h := hB.out; constructor <;> intro g <;> (try simp at g) <;> (try simp at h) <;> (try simp) <;> omega)⟩
          case measure => simp [intOf]
      · cases A <;> cases B
        all_goals
          go_wp2
          go_round
          case rel => exact ⟨2, _, _, by omega, rfl, rfl, rfl, hide (by have h := hA.out; constructor <;> intro g <;> (try simp at g) <;> (try simp at h) <;> (try simp) <;> omega), hide (by have h := hB.out; constructor <;> intro g <;> (try simp at g) <;> (try simp at h) <;> (try simp) <;> omega)⟩
          case measure => simp [intOf]
      · cases A <;> cases B
        all_goals
          go_wp2
          go_round
          case rel => exact ⟨3, _, _, by omega, rfl, rfl, rfl, hide (by have h := hA.out; constructor <;> intro g <;> (try simp at g) <;> (try simp at h) <;> (try simp) <;> omega), hide (by have h := hB.out; constructor <;> intro g <;> (try simp at g) <;> (try simp at h) <;> (try simp) <;> omega)⟩
          case measure => simp [intOf]
      · cases A <;> cases B
        all_goals
          go_wp2
          go_round
          case rel => exact ⟨4, _, _, by omega, rfl, rfl, rfl, hide (by have h := hA.out; constructor <;> intro g <;> (try simp at g) <;> (try simp at h) <;> (try simp) <;> omega), hide (by have h := hB.out; constructor <;> intro g <;> (try simp at g) <;> (try simp at h) <;> (try simp) <;> omega)⟩
          case measure => simp [intOf]
      · cases A <;> cases B
        all_goals
          go_wp2
          go_round
          case rel => exact ⟨5, _, _, by omega, rfl, rfl, rfl, hide (by have h := hA.out; constructor <;> intro g <;> (try simp at g) <;> (try simp at h) <;> (try simp) <;> omega), hide (by have h := hB.out; constructor <;> intro g <;> (try simp at g) <;> (try simp at h) <;> (try simp) <;> omega)⟩
          case measure => simp [intOf]
      · have q45 : (⟨#[45]⟩ : ByteArray).size = 1 := rfl
        have htW := hide (ht.later hB2.out)
        have e0 : (W1.alloc (.cells #[.int .i64 0, .int .i64 0, .int .i64 0, .int .i64 d, .int .i64 s] 110)).cell? ⟨w.heap.size, 0, none⟩ = some (.int .i64 0) := by rw [World.cell?_alloc_past _ _ _ hs1]; exact c0
        have e1 : (W1.alloc (.cells #[.int .i64 0, .int .i64 0, .int .i64 0, .int .i64 d, .int .i64 s] 110)).cell? ⟨w.heap.size, 1, none⟩ = some (.int .i64 0) := by rw [World.cell?_alloc_past _ _ _ hs1]; exact c1
        have e2 : (W1.alloc (.cells #[.int .i64 0, .int .i64 0, .int .i64 0, .int .i64 d, .int .i64 s] 110)).cell? ⟨w.heap.size, 2, none⟩ = some (.int .i64 0) := by rw [World.cell?_alloc_past _ _ _ hs1]; exact c2
        have e3 : (W1.alloc (.cells #[.int .i64 0, .int .i64 0, .int .i64 0, .int .i64 d, .int .i64 s] 110)).cell? ⟨w.heap.size, 3, none⟩ = some (.int .i64 d) := by rw [World.cell?_alloc_past _ _ _ hs1]; exact c3
        have e4 : (W1.alloc (.cells #[.int .i64 0, .int .i64 0, .int .i64 0, .int .i64 d, .int .i64 s] 110)).cell? ⟨w.heap.size, 4, none⟩ = some (.int .i64 s) := by rw [World.cell?_alloc_past _ _ _ hs1]; exact c4
        cases A
        · have hNg : ¬ Neg 0 0 0 d s 5 := fun g => absurd (hA.out.2 g) (by simp)
          obtain ⟨rfl, rfl⟩ := Q3.out hNg
          have HN := hide hNg
          clear Q1 Q2 Q3 hA hNg
          unfold Neg at HN
          have KP := hide (fun W hW => partsText_int 0 0 0 d s W hW (by have := HN.out; omega) (by have := HN.out; omega) (by have := HN.out; omega) (by have := HN.out; omega) (by have := HN.out; omega))
          cases B
          all_goals
            go_wp2_with fail
            refine (KP.out _ htW.out).mono ?_
            rintro e W3 ⟨T, rfl, hT, hTz, b3⟩
            have HT := hide hT
            have hB3 := hB2.out.trans (b3.mono hB2.out.size)
            clear b3 hT
            go_wp2_with fail
            go_ret2
            exact ⟨by rw [HT.out]; rfl, hB3⟩
        · have hNg : Neg 0 0 0 d s 5 := hA.out.1 rfl
          cases B
          · have hPs : ¬ Pos 0 0 0 d s 5 := fun g => absurd (hB.out.2 g) (by simp)
            obtain ⟨rfl, rfl⟩ := Q2.out hNg hPs
            have HP := hide hPs
            clear Q1 Q2 Q3 hA hB hNg hPs
            unfold Pos at HP
            have KT := hide (fun W => turned_any 0 0 0 d s W (by omega) (by omega) (by omega) (by omega) (by omega))
            have KP := hide (fun W hW => partsText_int (-0) (-0) (-0) (-d) (-s) W hW (by have := HP.out; omega) (by have := HP.out; omega) (by have := HP.out; omega) (by have := HP.out; omega) (by have := HP.out; omega))
            try simp only [Int.neg_zero] at KT KP
            go_wp2_with fail
            refine (KT.out _).mono ?_
            rintro e W2 ⟨rfl, b2⟩
            have hB3 := hB2.out.trans (b2.mono hB2.out.size)
            have htX := hide (htW.out.later b2)
            clear b2
            go_wp2_with fail
            refine (KP.out _ htX.out).mono ?_
            rintro e W3 ⟨T, rfl, hT, hTz, b3⟩
            have HT := hide hT
            have hB4 := hB3.trans (b3.mono hB3.size)
            clear b3 hT
            go_wp2_with fail
            go_ret2
            exact ⟨by rw [HT.out]; rfl, hB4⟩
          · have hPs : Pos 0 0 0 d s 5 := hB.out.1 rfl
            obtain ⟨rfl, rfl⟩ := Q1.out hNg hPs
            clear Q1 Q2 Q3 hA hB hNg hPs
            go_wp2_with fail
            go_ret2
            exact ⟨rfl, hB2.out⟩
  · refine (parts_any _ _ _ _ _ _).mono ?_
    rintro e W1 ⟨rfl, b1⟩
    have c0 := (b1.cell (p := ⟨w.heap.size, 0, none⟩) hsz).trans a0
    have c1 := (b1.cell (p := ⟨w.heap.size, 1, none⟩) hsz).trans a1
    have c2 := (b1.cell (p := ⟨w.heap.size, 2, none⟩) hsz).trans a2
    have c3 := (b1.cell (p := ⟨w.heap.size, 3, none⟩) hsz).trans a3
    have c4 := (b1.cell (p := ⟨w.heap.size, 4, none⟩) hsz).trans a4
    have hs1 : w.heap.size < W1.heap.size := Nat.lt_of_lt_of_le hsz b1.size
    have hB1 := hide (hB.trans (b1.mono hB.size))
    clear b1 a0 a1 a2 a3 a4 fz hB
    go_wp2_with fail
    have hB2 := hide (hB1.out.alloc hB1.out.size (.cells #[.int .i64 0, .int .i64 0, .int .i64 n, .int .i64 d, .int .i64 s] 110))
    go_loop [6, 7, 19] (fun av bv k => ∃ (j : Nat) (A B : Bool), j ≤ 5 ∧ k = .int .i64 j ∧ av = .bool A ∧ bv = .bool B ∧ Hid (A = true ↔ (0 < j ∧ (0 : Int) < 0) ∨ (1 < j ∧ (0 : Int) < 0) ∨ (2 < j ∧ n < 0) ∨ (3 < j ∧ d < 0) ∨ (4 < j ∧ s < 0)) ∧ Hid (B = true ↔ (0 < j ∧ (0 : Int) < 0) ∨ (1 < j ∧ (0 : Int) < 0) ∨ (2 < j ∧ 0 < n) ∨ (3 < j ∧ 0 < d) ∨ (4 < j ∧ 0 < s))) (fun _ _ k => 5 - (intOf k).toNat)
    case atStart => exact ⟨0, false, false, by omega, rfl, rfl, rfl, hide (by simp), hide (by simp)⟩
    case round =>
      obtain ⟨j, A, B, hj, rfl, rfl, rfl, hA, hB⟩ := hrel
      rcases (show j = 0 ∨ j = 1 ∨ j = 2 ∨ j = 3 ∨ j = 4 ∨ j = 5 by omega) with rfl | rfl | rfl | rfl | rfl | rfl
      · cases A <;> cases B
        all_goals
          go_wp2
          go_round
          case rel => exact ⟨1, _, _, by omega, rfl, rfl, rfl, hide (by have h := hA.out; constructor <;> intro g <;> (try simp at g) <;> (try simp at h) <;> (try simp) <;> omega), hide (by have h := hB.out; constructor <;> intro g <;> (try simp at g) <;> (try simp at h) <;> (try simp) <;> omega)⟩
          case measure => simp [intOf]
      · cases A <;> cases B
        all_goals
          go_wp2
          go_round
          case rel => exact ⟨2, _, _, by omega, rfl, rfl, rfl, hide (by have h := hA.out; constructor <;> intro g <;> (try simp at g) <;> (try simp at h) <;> (try simp) <;> omega), hide (by have h := hB.out; constructor <;> intro g <;> (try simp at g) <;> (try simp at h) <;> (try simp) <;> omega)⟩
          case measure => simp [intOf]
      · cases A <;> cases B
        all_goals
          go_wp2
          go_round
          case rel => exact ⟨3, _, _, by omega, rfl, rfl, rfl, hide (by have h := hA.out; constructor <;> intro g <;> (try simp at g) <;> (try simp at h) <;> (try simp) <;> omega), hide (by have h := hB.out; constructor <;> intro g <;> (try simp at g) <;> (try simp at h) <;> (try simp) <;> omega)⟩
          case measure => simp [intOf]
      · cases A <;> cases B
        all_goals
          go_wp2
          go_round
          case rel => exact ⟨4, _, _, by omega, rfl, rfl, rfl, hide (by have h := hA.out; constructor <;> intro g <;> (try simp at g) <;> (try simp at h) <;> (try simp) <;> omega), hide (by have h := hB.out; constructor <;> intro g <;> (try simp at g) <;> (try simp at h) <;> (try simp) <;> omega)⟩
          case measure => simp [intOf]
      · cases A <;> cases B
        all_goals
          go_wp2
          go_round
          case rel => exact ⟨5, _, _, by omega, rfl, rfl, rfl, hide (by have h := hA.out; constructor <;> intro g <;> (try simp at g) <;> (try simp at h) <;> (try simp) <;> omega), hide (by have h := hB.out; constructor <;> intro g <;> (try simp at g) <;> (try simp at h) <;> (try simp) <;> omega)⟩
          case measure => simp [intOf]
      · have q45 : (⟨#[45]⟩ : ByteArray).size = 1 := rfl
        have htW := hide (ht.later hB2.out)
        have e0 : (W1.alloc (.cells #[.int .i64 0, .int .i64 0, .int .i64 n, .int .i64 d, .int .i64 s] 110)).cell? ⟨w.heap.size, 0, none⟩ = some (.int .i64 0) := by rw [World.cell?_alloc_past _ _ _ hs1]; exact c0
        have e1 : (W1.alloc (.cells #[.int .i64 0, .int .i64 0, .int .i64 n, .int .i64 d, .int .i64 s] 110)).cell? ⟨w.heap.size, 1, none⟩ = some (.int .i64 0) := by rw [World.cell?_alloc_past _ _ _ hs1]; exact c1
        have e2 : (W1.alloc (.cells #[.int .i64 0, .int .i64 0, .int .i64 n, .int .i64 d, .int .i64 s] 110)).cell? ⟨w.heap.size, 2, none⟩ = some (.int .i64 n) := by rw [World.cell?_alloc_past _ _ _ hs1]; exact c2
        have e3 : (W1.alloc (.cells #[.int .i64 0, .int .i64 0, .int .i64 n, .int .i64 d, .int .i64 s] 110)).cell? ⟨w.heap.size, 3, none⟩ = some (.int .i64 d) := by rw [World.cell?_alloc_past _ _ _ hs1]; exact c3
        have e4 : (W1.alloc (.cells #[.int .i64 0, .int .i64 0, .int .i64 n, .int .i64 d, .int .i64 s] 110)).cell? ⟨w.heap.size, 4, none⟩ = some (.int .i64 s) := by rw [World.cell?_alloc_past _ _ _ hs1]; exact c4
        cases A
        · have hNg : ¬ Neg 0 0 n d s 5 := fun g => absurd (hA.out.2 g) (by simp)
          obtain ⟨rfl, rfl⟩ := Q3.out hNg
          have HN := hide hNg
          clear Q1 Q2 Q3 hA hNg
          unfold Neg at HN
          have KP := hide (fun W hW => partsText_int 0 0 n d s W hW (by have := HN.out; omega) (by have := HN.out; omega) (by have := HN.out; omega) (by have := HN.out; omega) (by have := HN.out; omega))
          cases B
          all_goals
            go_wp2_with fail
            refine (KP.out _ htW.out).mono ?_
            rintro e W3 ⟨T, rfl, hT, hTz, b3⟩
            have HT := hide hT
            have hB3 := hB2.out.trans (b3.mono hB2.out.size)
            clear b3 hT
            go_wp2_with fail
            go_ret2
            exact ⟨by rw [HT.out]; rfl, hB3⟩
        · have hNg : Neg 0 0 n d s 5 := hA.out.1 rfl
          cases B
          · have hPs : ¬ Pos 0 0 n d s 5 := fun g => absurd (hB.out.2 g) (by simp)
            obtain ⟨rfl, rfl⟩ := Q2.out hNg hPs
            have HP := hide hPs
            clear Q1 Q2 Q3 hA hB hNg hPs
            unfold Pos at HP
            have KT := hide (fun W => turned_any 0 0 n d s W (by omega) (by omega) (by omega) (by omega) (by omega))
            have KP := hide (fun W hW => partsText_int (-0) (-0) (-n) (-d) (-s) W hW (by have := HP.out; omega) (by have := HP.out; omega) (by have := HP.out; omega) (by have := HP.out; omega) (by have := HP.out; omega))
            try simp only [Int.neg_zero] at KT KP
            go_wp2_with fail
            refine (KT.out _).mono ?_
            rintro e W2 ⟨rfl, b2⟩
            have hB3 := hB2.out.trans (b2.mono hB2.out.size)
            have htX := hide (htW.out.later b2)
            clear b2
            go_wp2_with fail
            refine (KP.out _ htX.out).mono ?_
            rintro e W3 ⟨T, rfl, hT, hTz, b3⟩
            have HT := hide hT
            have hB4 := hB3.trans (b3.mono hB3.size)
            clear b3 hT
            go_wp2_with fail
            go_ret2
            exact ⟨by rw [HT.out]; rfl, hB4⟩
          · have hPs : Pos 0 0 n d s 5 := hB.out.1 rfl
            obtain ⟨rfl, rfl⟩ := Q1.out hNg hPs
            clear Q1 Q2 Q3 hA hB hNg hPs
            go_wp2_with fail
            go_ret2
            exact ⟨rfl, hB2.out⟩
  · refine (parts_any _ _ _ _ _ _).mono ?_
    rintro e W1 ⟨rfl, b1⟩
    have c0 := (b1.cell (p := ⟨w.heap.size, 0, none⟩) hsz).trans a0
    have c1 := (b1.cell (p := ⟨w.heap.size, 1, none⟩) hsz).trans a1
    have c2 := (b1.cell (p := ⟨w.heap.size, 2, none⟩) hsz).trans a2
    have c3 := (b1.cell (p := ⟨w.heap.size, 3, none⟩) hsz).trans a3
    have c4 := (b1.cell (p := ⟨w.heap.size, 4, none⟩) hsz).trans a4
    have hs1 : w.heap.size < W1.heap.size := Nat.lt_of_lt_of_le hsz b1.size
    have hB1 := hide (hB.trans (b1.mono hB.size))
    clear b1 a0 a1 a2 a3 a4 fz hB
    go_wp2_with fail
    have hB2 := hide (hB1.out.alloc hB1.out.size (.cells #[.int .i64 0, .int .i64 m, .int .i64 n, .int .i64 d, .int .i64 s] 110))
    go_loop [6, 7, 19] (fun av bv k => ∃ (j : Nat) (A B : Bool), j ≤ 5 ∧ k = .int .i64 j ∧ av = .bool A ∧ bv = .bool B ∧ Hid (A = true ↔ (0 < j ∧ (0 : Int) < 0) ∨ (1 < j ∧ m < 0) ∨ (2 < j ∧ n < 0) ∨ (3 < j ∧ d < 0) ∨ (4 < j ∧ s < 0)) ∧ Hid (B = true ↔ (0 < j ∧ (0 : Int) < 0) ∨ (1 < j ∧ 0 < m) ∨ (2 < j ∧ 0 < n) ∨ (3 < j ∧ 0 < d) ∨ (4 < j ∧ 0 < s))) (fun _ _ k => 5 - (intOf k).toNat)
    case atStart => exact ⟨0, false, false, by omega, rfl, rfl, rfl, hide (by simp), hide (by simp)⟩
    case round =>
      obtain ⟨j, A, B, hj, rfl, rfl, rfl, hA, hB⟩ := hrel
      rcases (show j = 0 ∨ j = 1 ∨ j = 2 ∨ j = 3 ∨ j = 4 ∨ j = 5 by omega) with rfl | rfl | rfl | rfl | rfl | rfl
      · cases A <;> cases B
        all_goals
          go_wp2
          go_round
          case rel => exact ⟨1, _, _, by omega, rfl, rfl, rfl, hide (by have h := hA.out; constructor <;> intro g <;> (try simp at g) <;> (try simp at h) <;> (try simp) <;> omega), hide (by have h := hB.out; constructor <;> intro g <;> (try simp at g) <;> (try simp at h) <;> (try simp) <;> omega)⟩
          case measure => simp [intOf]
      · cases A <;> cases B
        all_goals
          go_wp2
          go_round
          case rel => exact ⟨2, _, _, by omega, rfl, rfl, rfl, hide (by have h := hA.out; constructor <;> intro g <;> (try simp at g) <;> (try simp at h) <;> (try simp) <;> omega), hide (by have h := hB.out; constructor <;> intro g <;> (try simp at g) <;> (try simp at h) <;> (try simp) <;> omega)⟩
          case measure => simp [intOf]
      · cases A <;> cases B
        all_goals
          go_wp2
          go_round
          case rel => exact ⟨3, _, _, by omega, rfl, rfl, rfl, hide (by have h := hA.out; constructor <;> intro g <;> (try simp at g) <;> (try simp at h) <;> (try simp) <;> omega), hide (by have h := hB.out; constructor <;> intro g <;> (try simp at g) <;> (try simp at h) <;> (try simp) <;> omega)⟩
          case measure => simp [intOf]
      · cases A <;> cases B
        all_goals
          go_wp2
          go_round
          case rel => exact ⟨4, _, _, by omega, rfl, rfl, rfl, hide (by have h := hA.out; constructor <;> intro g <;> (try simp at g) <;> (try simp at h) <;> (try simp) <;> omega), hide (by have h := hB.out; constructor <;> intro g <;> (try simp at g) <;> (try simp at h) <;> (try simp) <;> omega)⟩
          case measure => simp [intOf]
      · cases A <;> cases B
        all_goals
          go_wp2
          go_round
          case rel => exact ⟨5, _, _, by omega, rfl, rfl, rfl, hide (by have h := hA.out; constructor <;> intro g <;> (try simp at g) <;> (try simp at h) <;> (try simp) <;> omega), hide (by have h := hB.out; constructor <;> intro g <;> (try simp at g) <;> (try simp at h) <;> (try simp) <;> omega)⟩
          case measure => simp [intOf]
      · have q45 : (⟨#[45]⟩ : ByteArray).size = 1 := rfl
        have htW := hide (ht.later hB2.out)
        have e0 : (W1.alloc (.cells #[.int .i64 0, .int .i64 m, .int .i64 n, .int .i64 d, .int .i64 s] 110)).cell? ⟨w.heap.size, 0, none⟩ = some (.int .i64 0) := by rw [World.cell?_alloc_past _ _ _ hs1]; exact c0
        have e1 : (W1.alloc (.cells #[.int .i64 0, .int .i64 m, .int .i64 n, .int .i64 d, .int .i64 s] 110)).cell? ⟨w.heap.size, 1, none⟩ = some (.int .i64 m) := by rw [World.cell?_alloc_past _ _ _ hs1]; exact c1
        have e2 : (W1.alloc (.cells #[.int .i64 0, .int .i64 m, .int .i64 n, .int .i64 d, .int .i64 s] 110)).cell? ⟨w.heap.size, 2, none⟩ = some (.int .i64 n) := by rw [World.cell?_alloc_past _ _ _ hs1]; exact c2
        have e3 : (W1.alloc (.cells #[.int .i64 0, .int .i64 m, .int .i64 n, .int .i64 d, .int .i64 s] 110)).cell? ⟨w.heap.size, 3, none⟩ = some (.int .i64 d) := by rw [World.cell?_alloc_past _ _ _ hs1]; exact c3
        have e4 : (W1.alloc (.cells #[.int .i64 0, .int .i64 m, .int .i64 n, .int .i64 d, .int .i64 s] 110)).cell? ⟨w.heap.size, 4, none⟩ = some (.int .i64 s) := by rw [World.cell?_alloc_past _ _ _ hs1]; exact c4
        cases A
        · have hNg : ¬ Neg 0 m n d s 5 := fun g => absurd (hA.out.2 g) (by simp)
          obtain ⟨rfl, rfl⟩ := Q3.out hNg
          have HN := hide hNg
          clear Q1 Q2 Q3 hA hNg
          unfold Neg at HN
          have KP := hide (fun W hW => partsText_int 0 m n d s W hW (by have := HN.out; omega) (by have := HN.out; omega) (by have := HN.out; omega) (by have := HN.out; omega) (by have := HN.out; omega))
          cases B
          all_goals
            go_wp2_with fail
            refine (KP.out _ htW.out).mono ?_
            rintro e W3 ⟨T, rfl, hT, hTz, b3⟩
            have HT := hide hT
            have hB3 := hB2.out.trans (b3.mono hB2.out.size)
            clear b3 hT
            go_wp2_with fail
            go_ret2
            exact ⟨by rw [HT.out]; rfl, hB3⟩
        · have hNg : Neg 0 m n d s 5 := hA.out.1 rfl
          cases B
          · have hPs : ¬ Pos 0 m n d s 5 := fun g => absurd (hB.out.2 g) (by simp)
            obtain ⟨rfl, rfl⟩ := Q2.out hNg hPs
            have HP := hide hPs
            clear Q1 Q2 Q3 hA hB hNg hPs
            unfold Pos at HP
            have KT := hide (fun W => turned_any 0 m n d s W (by omega) (by omega) (by omega) (by omega) (by omega))
            have KP := hide (fun W hW => partsText_int (-0) (-m) (-n) (-d) (-s) W hW (by have := HP.out; omega) (by have := HP.out; omega) (by have := HP.out; omega) (by have := HP.out; omega) (by have := HP.out; omega))
            try simp only [Int.neg_zero] at KT KP
            go_wp2_with fail
            refine (KT.out _).mono ?_
            rintro e W2 ⟨rfl, b2⟩
            have hB3 := hB2.out.trans (b2.mono hB2.out.size)
            have htX := hide (htW.out.later b2)
            clear b2
            go_wp2_with fail
            refine (KP.out _ htX.out).mono ?_
            rintro e W3 ⟨T, rfl, hT, hTz, b3⟩
            have HT := hide hT
            have hB4 := hB3.trans (b3.mono hB3.size)
            clear b3 hT
            go_wp2_with fail
            go_ret2
            exact ⟨by rw [HT.out]; rfl, hB4⟩
          · have hPs : Pos 0 m n d s 5 := hB.out.1 rfl
            obtain ⟨rfl, rfl⟩ := Q1.out hNg hPs
            clear Q1 Q2 Q3 hA hB hNg hPs
            go_wp2_with fail
            go_ret2
            exact ⟨rfl, hB2.out⟩
  · refine (parts_any _ _ _ _ _ _).mono ?_
    rintro e W1 ⟨rfl, b1⟩
    have c0 := (b1.cell (p := ⟨w.heap.size, 0, none⟩) hsz).trans a0
    have c1 := (b1.cell (p := ⟨w.heap.size, 1, none⟩) hsz).trans a1
    have c2 := (b1.cell (p := ⟨w.heap.size, 2, none⟩) hsz).trans a2
    have c3 := (b1.cell (p := ⟨w.heap.size, 3, none⟩) hsz).trans a3
    have c4 := (b1.cell (p := ⟨w.heap.size, 4, none⟩) hsz).trans a4
    have hs1 : w.heap.size < W1.heap.size := Nat.lt_of_lt_of_le hsz b1.size
    have hB1 := hide (hB.trans (b1.mono hB.size))
    clear b1 a0 a1 a2 a3 a4 fz hB
    go_wp2_with fail
    have hB2 := hide (hB1.out.alloc hB1.out.size (.cells #[.int .i64 y, .int .i64 m, .int .i64 n, .int .i64 d, .int .i64 s] 110))
    go_loop [6, 7, 19] (fun av bv k => ∃ (j : Nat) (A B : Bool), j ≤ 5 ∧ k = .int .i64 j ∧ av = .bool A ∧ bv = .bool B ∧ Hid (A = true ↔ (0 < j ∧ y < 0) ∨ (1 < j ∧ m < 0) ∨ (2 < j ∧ n < 0) ∨ (3 < j ∧ d < 0) ∨ (4 < j ∧ s < 0)) ∧ Hid (B = true ↔ (0 < j ∧ 0 < y) ∨ (1 < j ∧ 0 < m) ∨ (2 < j ∧ 0 < n) ∨ (3 < j ∧ 0 < d) ∨ (4 < j ∧ 0 < s))) (fun _ _ k => 5 - (intOf k).toNat)
    case atStart => exact ⟨0, false, false, by omega, rfl, rfl, rfl, hide (by simp), hide (by simp)⟩
    case round =>
      obtain ⟨j, A, B, hj, rfl, rfl, rfl, hA, hB⟩ := hrel
      rcases (show j = 0 ∨ j = 1 ∨ j = 2 ∨ j = 3 ∨ j = 4 ∨ j = 5 by omega) with rfl | rfl | rfl | rfl | rfl | rfl
      · cases A <;> cases B
        all_goals
          go_wp2
          go_round
          case rel => exact ⟨1, _, _, by omega, rfl, rfl, rfl, hide (by have h := hA.out; constructor <;> intro g <;> (try simp at g) <;> (try simp at h) <;> (try simp) <;> omega), hide (by have h := hB.out; constructor <;> intro g <;> (try simp at g) <;> (try simp at h) <;> (try simp) <;> omega)⟩
          case measure => simp [intOf]
      · cases A <;> cases B
        all_goals
          go_wp2
          go_round
          case rel => exact ⟨2, _, _, by omega, rfl, rfl, rfl, hide (by have h := hA.out; constructor <;> intro g <;> (try simp at g) <;> (try simp at h) <;> (try simp) <;> omega), hide (by have h := hB.out; constructor <;> intro g <;> (try simp at g) <;> (try simp at h) <;> (try simp) <;> omega)⟩
          case measure => simp [intOf]
      · cases A <;> cases B
        all_goals
          go_wp2
          go_round
          case rel => exact ⟨3, _, _, by omega, rfl, rfl, rfl, hide (by have h := hA.out; constructor <;> intro g <;> (try simp at g) <;> (try simp at h) <;> (try simp) <;> omega), hide (by have h := hB.out; constructor <;> intro g <;> (try simp at g) <;> (try simp at h) <;> (try simp) <;> omega)⟩
          case measure => simp [intOf]
      · cases A <;> cases B
        all_goals
          go_wp2
          go_round
          case rel => exact ⟨4, _, _, by omega, rfl, rfl, rfl, hide (by have h := hA.out; constructor <;> intro g <;> (try simp at g) <;> (try simp at h) <;> (try simp) <;> omega), hide (by have h := hB.out; constructor <;> intro g <;> (try simp at g) <;> (try simp at h) <;> (try simp) <;> omega)⟩
          case measure => simp [intOf]
      · cases A <;> cases B
        all_goals
          go_wp2
          go_round
          case rel => exact ⟨5, _, _, by omega, rfl, rfl, rfl, hide (by have h := hA.out; constructor <;> intro g <;> (try simp at g) <;> (try simp at h) <;> (try simp) <;> omega), hide (by have h := hB.out; constructor <;> intro g <;> (try simp at g) <;> (try simp at h) <;> (try simp) <;> omega)⟩
          case measure => simp [intOf]
      · have q45 : (⟨#[45]⟩ : ByteArray).size = 1 := rfl
        have htW := hide (ht.later hB2.out)
        have e0 : (W1.alloc (.cells #[.int .i64 y, .int .i64 m, .int .i64 n, .int .i64 d, .int .i64 s] 110)).cell? ⟨w.heap.size, 0, none⟩ = some (.int .i64 y) := by rw [World.cell?_alloc_past _ _ _ hs1]; exact c0
        have e1 : (W1.alloc (.cells #[.int .i64 y, .int .i64 m, .int .i64 n, .int .i64 d, .int .i64 s] 110)).cell? ⟨w.heap.size, 1, none⟩ = some (.int .i64 m) := by rw [World.cell?_alloc_past _ _ _ hs1]; exact c1
        have e2 : (W1.alloc (.cells #[.int .i64 y, .int .i64 m, .int .i64 n, .int .i64 d, .int .i64 s] 110)).cell? ⟨w.heap.size, 2, none⟩ = some (.int .i64 n) := by rw [World.cell?_alloc_past _ _ _ hs1]; exact c2
        have e3 : (W1.alloc (.cells #[.int .i64 y, .int .i64 m, .int .i64 n, .int .i64 d, .int .i64 s] 110)).cell? ⟨w.heap.size, 3, none⟩ = some (.int .i64 d) := by rw [World.cell?_alloc_past _ _ _ hs1]; exact c3
        have e4 : (W1.alloc (.cells #[.int .i64 y, .int .i64 m, .int .i64 n, .int .i64 d, .int .i64 s] 110)).cell? ⟨w.heap.size, 4, none⟩ = some (.int .i64 s) := by rw [World.cell?_alloc_past _ _ _ hs1]; exact c4
        cases A
        · have hNg : ¬ Neg y m n d s 5 := fun g => absurd (hA.out.2 g) (by simp)
          obtain ⟨rfl, rfl⟩ := Q3.out hNg
          have HN := hide hNg
          clear Q1 Q2 Q3 hA hNg
          unfold Neg at HN
          have KP := hide (fun W hW => partsText_int y m n d s W hW (by have := HN.out; omega) (by have := HN.out; omega) (by have := HN.out; omega) (by have := HN.out; omega) (by have := HN.out; omega))
          cases B
          all_goals
            go_wp2_with fail
            refine (KP.out _ htW.out).mono ?_
            rintro e W3 ⟨T, rfl, hT, hTz, b3⟩
            have HT := hide hT
            have hB3 := hB2.out.trans (b3.mono hB2.out.size)
            clear b3 hT
            go_wp2_with fail
            go_ret2
            exact ⟨by rw [HT.out]; rfl, hB3⟩
        · have hNg : Neg y m n d s 5 := hA.out.1 rfl
          cases B
          · have hPs : ¬ Pos y m n d s 5 := fun g => absurd (hB.out.2 g) (by simp)
            obtain ⟨rfl, rfl⟩ := Q2.out hNg hPs
            have HP := hide hPs
            clear Q1 Q2 Q3 hA hB hNg hPs
            unfold Pos at HP
            have KT := hide (fun W => turned_any y m n d s W (by omega) (by omega) (by omega) (by omega) (by omega))
            have KP := hide (fun W hW => partsText_int (-y) (-m) (-n) (-d) (-s) W hW (by have := HP.out; omega) (by have := HP.out; omega) (by have := HP.out; omega) (by have := HP.out; omega) (by have := HP.out; omega))
            try simp only [Int.neg_zero] at KT KP
            go_wp2_with fail
            refine (KT.out _).mono ?_
            rintro e W2 ⟨rfl, b2⟩
            have hB3 := hB2.out.trans (b2.mono hB2.out.size)
            have htX := hide (htW.out.later b2)
            clear b2
            go_wp2_with fail
            refine (KP.out _ htX.out).mono ?_
            rintro e W3 ⟨T, rfl, hT, hTz, b3⟩
            have HT := hide hT
            have hB4 := hB3.trans (b3.mono hB3.size)
            clear b3 hT
            go_wp2_with fail
            go_ret2
            exact ⟨by rw [HT.out]; rfl, hB4⟩
          · have hPs : Pos y m n d s 5 := hB.out.1 rfl
            obtain ⟨rfl, rfl⟩ := Q1.out hNg hPs
            clear Q1 Q2 Q3 hA hB hNg hPs
            go_wp2_with fail
            go_ret2
            exact ⟨rfl, hB2.out⟩
end Go.Proofs.YtafaacliphdndaaGreatDoor
