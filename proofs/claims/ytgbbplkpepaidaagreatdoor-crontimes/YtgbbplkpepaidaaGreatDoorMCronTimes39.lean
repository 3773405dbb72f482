/- The reference of package cron: cronDay, by what its own callees say. -/
import Derived.Test.YtgbbplkpepaidaaGreatDoorMCronTimes36
import Derived.Deep.CutRange
namespace Go.Proofs.YtgbbplkpepaidaaGreatDoor
open Go.RowKit
set_option linter.unusedVariables false
set_option linter.unusedSimpArgs false

/-- what the walk keeps: a Cron's box, a date's -/
structure DW (w : World) (A : CAd) (x : Crn.C) (B : Nat) (Y M D : Int) (W : World) : Prop where
  c : CW w A x W
  d : DBox W B 1 Y M D
theorem DW.later {w : World} {A : CAd} {x : Crn.C} {B : Nat} {Y M D : Int} {W W' : World} (h : DW w A x B Y M D W) (hb : Below W.heap.size W W') : DW w A x B Y M D W' := ⟨h.c.later hb, h.d.later hb⟩
/-- by the days of the month, ahead of the weekdays that are nearest -/
def bM (x : Crn.C) (L D : Int) : Bool := memB x.da D || (x.last && (D == L))
def bW (x : Crn.C) (a L D : Int) : Bool := memB x.wd (wk (a + D)) || (memB x.lo (wk (a + D)) && decide (L < D + 7))
theorem fitM_parts (x : Crn.C) (a L D : Int) : fitM x a L D = (bM x L D || anyN (fun k => isN a L D (x.near.getD k 0)) x.near.length) := rfl
theorem fitW_parts (x : Crn.C) (a L D : Int) : fitW x a L D = (bW x a L D || memN x.nth ((D - 1) / 7 + 1, wk (a + D))) := by unfold fitW bW; rw [Bool.and_comm (decide (L < D + 7))]
theorem anyN_succ (b : Nat → Bool) (n : Nat) : anyN b (n + 1) = (anyN b n || b n) := by
  unfold anyN
  show (!(Crn.allB (fun k => !b k) n && !b n)) = _
  rw [Bool.not_and, Bool.not_not]
set_option maxRecDepth 100000 in
set_option maxHeartbeats 16000000 in
theorem cronDay_any (A : CAd) (x : Crn.C) (day Y D L : Int) (m : Nat) (w : World) (hk : KT w) (hl : CL A x w) (hu : OkU x) (hnb : ∀ k, k < x.nth.length → -1000 ≤ (x.nth.getD k (0, 0)).1 ∧ (x.nth.getD k (0, 0)).1 ≤ 1000) (hm : m < 100) (d1 : -4000000 ≤ day) (d2 : day ≤ 4000000) (D1 : 1 ≤ D) (D2 : D ≤ 31)
    (kg : ∀ W, Calls Tryz.prog 25 #[.int .i64 day] W fun r w' => r = .returned (.agg #[.int .i64 1, .int .i64 Y, .int .i64 (m + 1), .int .i64 D]) ∧ Below W.heap.size W w')
    (kl : ∀ W, Calls Tryz.prog 26 #[.int .i64 1, .int .i64 Y] W fun r w' => ∃ (g len c : Nat), r = .returned (.slice (some ⟨g, 0, none⟩) len c) ∧ m < len ∧ len < 100 ∧ w'.cell? ⟨g, m, none⟩ = some (.int .i64 L) ∧ Below W.heap.size W w') :
    Calls Tryz.prog 13 #[crV A x, .int .i64 day] w fun e w' => e = .returned (.bool (memB x.mo (m + 1) && fitD x (day - D) L D)) ∧ Below w.heap.size w w' := by
  have KG := hide kg
  have KL := hide kl
  have HU := hide hu
  have HNB := hide hnb
  have HW := hide (CW.new hk hl)
  have K1 := hide (fun W (hw : CW w A x W) => member_any A.o A.co x.mo (m + 1) W hw.cl.mo hu.mo)
  have K2 := hide (fun W (hw : CW w A x W) => member_any A.d A.cd x.da D W hw.cl.da hu.t.da)
  have K3 := hide (fun W (hw : CW w A x W) => member_any A.w A.cw x.wd (wk (day - D + D)) W hw.cl.wd hu.t.wd)
  have K4 := hide (fun W (hw : CW w A x W) => member_any A.l A.cl x.lo (wk (day - D + D)) W hw.cl.lo hu.t.lo)
  have KD := hide (fun n W => rweekday_any n W)
  have HR : Hid ((memB x.mo (m + 1) && fitD x (day - D) L D) = (memB x.mo (m + 1) && if x.any then (x.anyW || fitW x (day - D) L D) else if x.anyW then fitM x (day - D) L D else (fitM x (day - D) L D || fitW x (day - D) L D))) := rfl
  generalize (memB x.mo (m + 1) && fitD x (day - D) L D) = R at *
  generalize memB x.mo (m + 1) = bmo at *
  clear kg kl hk hl hu hnb
  go_enter Tryz.func13, Tryz.ntmps13
  go_upto_region 1 with fail
  have hw := HW.out
  obtain ⟨W0, hW0⟩ : ∃ W0, (w.alloc (crO A x)) = W0 := ⟨_, rfl⟩
  rw [hW0] at hw ⊢
  clear hW0 HW
  go_wp2_with fail
  refine (KG.out _).mono ?_
  rintro e W1 ⟨rfl, c1⟩
  replace hw := hw.later c1
  clear c1
  have HA : Hid (DW w A x W1.heap.size Y (m + 1) D (W1.alloc (.cells #[.int .i64 1, .int .i64 Y, .int .i64 (m + 1), .int .i64 D] 60))) := ⟨hw.later ((Below.refl _ W1).alloc (Nat.le_refl _) _), DBox.new W1 1 Y (m + 1) D⟩
  clear hw
  go_upto_region 2 with fail
  have hd := HA.out
  obtain ⟨B, hB⟩ : ∃ B, W1.heap.size = B := ⟨_, rfl⟩
  obtain ⟨W2, hW2⟩ : ∃ W2, W1.alloc (.cells #[.int .i64 1, .int .i64 Y, .int .i64 (m + 1), .int .i64 D] 60) = W2 := ⟨_, rfl⟩
  rw [hW2, hB] at hd
  rw [hW2, hB]
  clear hW2 hB HA
  obtain ⟨x0, x1, x2, x3, x4, x5, x6, x7, x8, x9, x10⟩ := hd.c.bx.cells
  obtain ⟨e0, e1, e2, e3⟩ := hd.d.cells
  go_wp2_with fail
  refine (K1.out _ hd.c).mono ?_
  rintro e W3 ⟨rfl, c3⟩
  replace hd := hd.later c3
  clear c3 e0 e1 e2 e3
  clear x0 x1 x2 x3 x4 x5 x6 x7 x8 x9 x10
  cases bmo
  · obtain rfl : R = false := by rw [HR.out]; rfl
    clear HR
    go_wp2
    go_ret
    exact ⟨rfl, hd.c.be⟩
  rw [Bool.true_and] at HR
  go_upto_region 4 with fail
  have hS : DW w A x B Y (m + 1) D W3.drew := hd.later (Below.refl _ _).drew
  clear hd
  refine wp_region_noPanic ?_
  refine wp_region_linGM (S := fun X => DW w A x B Y (m + 1) D X) (R := fun _ => True) [] (by kernel_rfl) (by kernel_rfl) [(0, none, 1), (1, none, 0), (3, none, 1), (4, none, 0), (5, none, 1), (2, none, 2), (6, none, 1), (7, none, 2), (8, none, 1)] (by kernel_rfl) (by kernel_rfl) (fun _ _ _ _ _ h => h) (by exact trivial) (by exact hS) (fun ops' Q' hops hQ' => ?_)
  refine wpLinG_pure (o := { dst := some 23, op := Go.Op.fieldAddr 60 (Go.Operand.tmp 5) 1, type := 0, pos := "work.go:266", after := #[], guard := none }) (v := ?vx0) (by rw [hops]; rfl) (by first | exact trivial | rfl) ?ex0 ?hx0
  case ex0 => intro w'; go_simp; (try rfl)
  (try simp only [Act.put, List.setIfInBounds_toArray, List.set_cons_zero, List.set_cons_succ])
  refine wpLinG_read (o := { dst := some 24, op := Go.Op.load 3 (Go.Operand.tmp 23), type := 3, pos := "work.go:266", after := #[{ on := 0, ground := Go.Ground.data }], guard := none }) (v := ?vx1) (by rw [hops]; rfl) (by first | exact trivial | rfl) hS ?ex1 ?hx1
  case ex1 => intro w' hw'; obtain ⟨e0, e1, e2, e3⟩ := hw'.d.cells; go_simp; (try rfl)
  (try simp only [Act.put, List.setIfInBounds_toArray, List.set_cons_zero, List.set_cons_succ])
  refine wpLinG_pure (o := { dst := some 26, op := Go.Op.fieldAddr 60 (Go.Operand.tmp 5) 2, type := 0, pos := "work.go:266", after := #[], guard := none }) (v := ?vx2) (by rw [hops]; rfl) (by first | exact trivial | rfl) ?ex2 ?hx2
  case ex2 => intro w'; go_simp; (try rfl)
  (try simp only [Act.put, List.setIfInBounds_toArray, List.set_cons_zero, List.set_cons_succ])
  refine wpLinG_read (o := { dst := some 27, op := Go.Op.load 3 (Go.Operand.tmp 26), type := 3, pos := "work.go:266", after := #[{ on := 3, ground := Go.Ground.data }], guard := none }) (v := ?vx3) (by rw [hops]; rfl) (by first | exact trivial | rfl) hS ?ex3 ?hx3
  case ex3 => intro w' hw'; obtain ⟨e0, e1, e2, e3⟩ := hw'.d.cells; go_simp; (try rfl)
  (try simp only [Act.put, List.setIfInBounds_toArray, List.set_cons_zero, List.set_cons_succ])
  refine wpLinG_pure (o := { dst := some 28, op := Go.Op.binOp Go.BinOp.sub 3 (Go.Operand.tmp 27) (Go.Operand.const (Go.Value.int Go.IntKind.i64 1)) 3, type := 3, pos := "work.go:266", after := #[{ on := 4, ground := Go.Ground.data }], guard := none }) (v := ?vx4) (by rw [hops]; rfl) (by first | exact trivial | rfl) ?ex4 ?hx4
  case ex4 => intro w'; go_simp; (try rfl)
  (try simp only [Act.put, List.setIfInBounds_toArray, List.set_cons_zero, List.set_cons_succ])
  refine wpLinG_do (o := { dst := some 25, op := Go.Op.call { callee := Go.Callee.value (Go.Operand.func 26), args := #[Go.Operand.const (Go.Value.int Go.IntKind.i64 1), Go.Operand.tmp 24], argTypes := #[58, 3] }, type := 22, pos := "work.go:266", after := #[{ on := 1, ground := Go.Ground.data }], guard := none }) (by rw [hops]; rfl) (by first | exact trivial | rfl) (fun K hK => ?_)
  go_simp
  refine (KL.out _).mono ?_
  rintro e X4 ⟨g, len, cc, rfl, hlen, hlen2, hcell, hb⟩
  replace hS := hS.later hb
  clear hb
  have hmi : (m : Int) < len := by omega
  have hwr : IntKind.i64.wrap (m : Int) = m := by rw [IntKind.wrap_i64]; omega
  refine hK _ _ trivial hS ?_
  clear hK K
  (try simp only [Act.put, List.setIfInBounds_toArray, List.set_cons_zero, List.set_cons_succ])
  refine wpLinG_pure (o := { dst := some 29, op := Go.Op.indexAddr 22 (Go.Operand.tmp 25) (Go.Operand.tmp 28), type := 0, pos := "work.go:266", after := #[{ on := 2, ground := Go.Ground.data }, { on := 5, ground := Go.Ground.data }], guard := none }) (v := ?vx6) (by rw [hops]; rfl) (by first | exact trivial | rfl) ?ex6 ?hx6
  case ex6 => intro w'; go_simp; (try rfl)
  (try simp only [Act.put, List.setIfInBounds_toArray, List.set_cons_zero, List.set_cons_succ])
  refine wpLinG_do (o := { dst := some 30, op := Go.Op.load 3 (Go.Operand.tmp 29), type := 3, pos := "work.go:266", after := #[{ on := 6, ground := Go.Ground.data }], guard := none }) (by rw [hops]; rfl) (by first | exact trivial | rfl) (fun K hK => ?_)
  go_simp
  skip
  refine hK _ _ trivial hS ?_
  clear hK K
  (try simp only [Act.put, List.setIfInBounds_toArray, List.set_cons_zero, List.set_cons_succ])
  refine wpLinG_pure (o := { dst := some 6, op := Go.Op.assign (Go.Operand.tmp 30), type := 3, pos := "work.go:266", after := #[{ on := 7, ground := Go.Ground.data }, { on := 2, ground := Go.Ground.chain }, { on := 0, ground := Go.Ground.phase }, { on := 1, ground := Go.Ground.phase }, { on := 2, ground := Go.Ground.phase }, { on := 3, ground := Go.Ground.phase }, { on := 4, ground := Go.Ground.phase }, { on := 5, ground := Go.Ground.phase }, { on := 6, ground := Go.Ground.phase }, { on := 7, ground := Go.Ground.phase }], guard := none }) (v := ?vx8) (by rw [hops]; rfl) (by first | exact trivial | rfl) ?ex8 ?hx8
  case ex8 => intro w'; go_simp; (try rfl)
  (try simp only [Act.put, List.setIfInBounds_toArray, List.set_cons_zero, List.set_cons_succ])
  subst hQ'
  refine NoPanic.normal ?_
  clear hops hcell hmi hlen hlen2 hwr
  have hdd : day - D + D = day := by omega
  rw [hdd] at K3 K4
  have HWP := hide (fitW_parts x (day - D) L D)
  have HMP := hide (fitM_parts x (day - D) L D)
  have HBW : Hid (bW x (day - D) L D = (memB x.wd (wk (day - D + D)) || (memB x.lo (wk (day - D + D)) && decide (L < D + 7)))) := rfl
  have HBM : Hid (bM x L D = (memB x.da D || (x.last && (D == L)))) := rfl
  rw [hdd] at HWP HBW
  generalize fitW x (day - D) L D = FW at *
  generalize fitM x (day - D) L D = FM at *
  generalize bW x (day - D) L D = BW at *
  generalize bM x L D = BM at *
  generalize memB x.da D = b1 at *
  generalize memB x.wd (wk day) = b2 at *
  generalize memB x.lo (wk day) = b3 at *
  go_upto_region 5 with fail
  go_cut [7] from 31 (fun s7 wc => s7 = .bool BM ∧ DW w A x B Y (m + 1) D wc)
  case first =>
    obtain ⟨x0, x1, x2, x3, x4, x5, x6, x7, x8, x9, x10⟩ := hS.c.bx.cells
    obtain ⟨e0, e1, e2, e3⟩ := hS.d.cells
    go_wp2_with fail
    refine (K2.out _ hS.c).mono ?_
    rintro e W5 ⟨rfl, c5⟩
    replace hS := hS.later c5
    clear c5 e0 e1 e2 e3
    clear x0 x1 x2 x3 x4 x5 x6 x7 x8 x9 x10
    obtain ⟨x0, x1, x2, x3, x4, x5, x6, x7, x8, x9, x10⟩ := hS.c.bx.cells
    obtain ⟨e0, e1, e2, e3⟩ := hS.d.cells
    cases b1
    · cases hlast : x.last
      · rw [hlast] at HBM x5
        obtain rfl : BM = false := by rw [HBM.out]; rfl
        clear HBM hlast
        go_wp2
        go_meet
        case rel => exact ⟨rfl, hS⟩
      · rw [hlast] at HBM x5
        obtain rfl : BM = (D == L) := by rw [HBM.out]; rfl
        clear HBM hlast
        go_wp2
        go_meet
        case rel => exact ⟨rfl, hS⟩
    · obtain rfl : BM = true := by rw [HBM.out]; rfl
      clear HBM
      go_wp2
      go_meet
      case rel => exact ⟨rfl, hS⟩
  case rest =>
    clear hS
    obtain ⟨rfl, hd⟩ := hcut
    clear HBM
    obtain ⟨x0, x1, x2, x3, x4, x5, x6, x7, x8, x9, x10⟩ := hd.c.bx.cells
    go_wp2_with fail
    clear x0 x1 x2 x3 x4 x5 x6 x7 x8 x9 x10
    go_loopw [7, 49] (fun v i wr => ∃ k : Nat, k ≤ x.near.length ∧ i = .int .i64 k ∧ v = .bool (BM || anyN (fun k => isN (day - D) L D (x.near.getD k 0)) k) ∧ DW w A x B Y (m + 1) D wr) (fun _ i _ => x.near.length - (intOf i).toNat)
    case atStart => exact ⟨0, by omega, rfl, by simp [anyN, Crn.allB], hd⟩
    case round =>
      clear hd
      obtain ⟨k, hk, rfl, rfl, hd⟩ := hrel
      have hlen := HU.out.t.near
      by_cases hlt : k < x.near.length
      · have hki : (k : Int) < x.near.length := by omega
        obtain ⟨ad, had, hc⟩ := hd.c.cl.near k hlt
        have hnb := HU.out.t.nb k hlt
        have hst := anyN_succ (fun k => isN (day - D) L D (x.near.getD k 0)) k
        have HI : Hid (isN (day - D) L D (x.near.getD k 0) = (decide (x.near.getD k 0 ≤ L) && (nrst (day - D) L (x.near.getD k 0) == D))) := rfl
        have HN : Hid (nrst (day - D) L (x.near.getD k 0) = if wk (day - D + x.near.getD k 0) = 6 then (if x.near.getD k 0 = 1 then x.near.getD k 0 + 2 else x.near.getD k 0 - 1) else if wk (day - D + x.near.getD k 0) = 7 then (if x.near.getD k 0 = L then x.near.getD k 0 - 2 else x.near.getD k 0 + 1) else x.near.getD k 0) := rfl
        have hst2 : (BM || anyN (fun k => isN (day - D) L D (x.near.getD k 0)) (k + 1)) = ((BM || anyN (fun k => isN (day - D) L D (x.near.getD k 0)) k) || isN (day - D) L D (x.near.getD k 0)) := by rw [hst, Bool.or_assoc]
        have HST := hide hst2
        clear hst hst2
        have KW := hide (KD.out (day - D + x.near.getD k 0))
        rw [show (day - D + x.near.getD k 0 + 3) % 7 + 1 = wk (day - D + x.near.getD k 0) from rfl] at KW
        generalize isN (day - D) L D (x.near.getD k 0) = o1 at *
        generalize nrst (day - D) L (x.near.getD k 0) = nr at *
        generalize wk (day - D + x.near.getD k 0) = v at *
        generalize x.near.getD k 0 = t at *
        generalize (BM || anyN (fun k => isN (day - D) L D (x.near.getD k 0)) k) = c at *
        rw [had]
        obtain ⟨e0, e1, e2, e3⟩ := hd.d.cells
        by_cases htL : L < t
        · obtain rfl : o1 = false := by rw [HI.out, decide_eq_false (by omega)]; rfl
          clear HI HN KW
          go_wp2
          go_roundw
          case rel => exact ⟨k + 1, by omega, by go_num, by rw [HST.out, Bool.or_false], hd⟩
          case measure => simp [intOf]; omega
        · have ho : o1 = (nr == D) := by rw [HI.out, decide_eq_true (by omega), Bool.true_and]
          have htL2 : ¬ L < t := htL
          clear HI
          by_cases h6 : v = 6
          · subst h6
            by_cases h1 : t = 1
            · subst h1
              obtain rfl : nr = 3 := by rw [HN.out, if_pos rfl, if_pos rfl]; rfl
              clear HN
              subst ho
              cases c
              · go_wp2_with fail
                refine (KW.out _).mono ?_
                rintro e W6 ⟨rfl, rfl⟩
                go_wp2
                go_roundw
                case rel => exact ⟨k + 1, by omega, by go_num, by rw [HST.out]; rfl, hd⟩
                case measure => simp [intOf]; omega
              · go_wp2_with fail
                refine (KW.out _).mono ?_
                rintro e W6 ⟨rfl, rfl⟩
                go_wp2
                go_roundw
                case rel => exact ⟨k + 1, by omega, by go_num, by rw [HST.out]; rfl, hd⟩
                case measure => simp [intOf]; omega
            · obtain rfl : nr = t - 1 := by rw [HN.out, if_pos rfl, if_neg h1]
              clear HN
              subst ho
              cases c
              · go_wp2_with fail
                refine (KW.out _).mono ?_
                rintro e W6 ⟨rfl, rfl⟩
                go_wp2
                go_roundw
                case rel => exact ⟨k + 1, by omega, by go_num, by rw [HST.out]; rfl, hd⟩
                case measure => simp [intOf]; omega
              · go_wp2_with fail
                refine (KW.out _).mono ?_
                rintro e W6 ⟨rfl, rfl⟩
                go_wp2
                go_roundw
                case rel => exact ⟨k + 1, by omega, by go_num, by rw [HST.out]; rfl, hd⟩
                case measure => simp [intOf]; omega
          · by_cases h7 : v = 7
            · subst h7
              by_cases h1 : t = L
              · obtain rfl : nr = t - 2 := by rw [HN.out, if_neg h6, if_pos rfl, if_pos h1]
                subst h1
                clear HN
                subst ho
                cases c
                · go_wp2_with fail
                  refine (KW.out _).mono ?_
                  rintro e W6 ⟨rfl, rfl⟩
                  go_wp2
                  go_roundw
                  case rel => exact ⟨k + 1, by omega, by go_num, by rw [HST.out]; rfl, hd⟩
                  case measure => simp [intOf]; omega
                · go_wp2_with fail
                  refine (KW.out _).mono ?_
                  rintro e W6 ⟨rfl, rfl⟩
                  go_wp2
                  go_roundw
                  case rel => exact ⟨k + 1, by omega, by go_num, by rw [HST.out]; rfl, hd⟩
                  case measure => simp [intOf]; omega
              · obtain rfl : nr = t + 1 := by rw [HN.out, if_neg h6, if_pos rfl, if_neg h1]
                clear HN
                subst ho
                cases c
                · go_wp2_with fail
                  refine (KW.out _).mono ?_
                  rintro e W6 ⟨rfl, rfl⟩
                  go_wp2
                  go_roundw
                  case rel => exact ⟨k + 1, by omega, by go_num, by rw [HST.out]; rfl, hd⟩
                  case measure => simp [intOf]; omega
                · go_wp2_with fail
                  refine (KW.out _).mono ?_
                  rintro e W6 ⟨rfl, rfl⟩
                  go_wp2
                  go_roundw
                  case rel => exact ⟨k + 1, by omega, by go_num, by rw [HST.out]; rfl, hd⟩
                  case measure => simp [intOf]; omega
            · obtain rfl : nr = t := by rw [HN.out, if_neg h6, if_neg h7]
              clear HN
              subst ho
              cases c
              · go_wp2_with fail
                refine (KW.out _).mono ?_
                rintro e W6 ⟨rfl, rfl⟩
                go_wp2
                go_roundw
                case rel => exact ⟨k + 1, by omega, by go_num, by rw [HST.out]; rfl, hd⟩
                case measure => simp [intOf]; omega
              · go_wp2_with fail
                refine (KW.out _).mono ?_
                rintro e W6 ⟨rfl, rfl⟩
                go_wp2
                go_roundw
                case rel => exact ⟨k + 1, by omega, by go_num, by rw [HST.out]; rfl, hd⟩
                case measure => simp [intOf]; omega
      · have hkn : k = x.near.length := by omega
        have hki : (x.near.length : Int) ≤ k := by omega
        rw [hkn, ← HMP.out]
        clear HMP hk hlt hlen
        have HW2 : Hid (FW = (BW || anyN (fun k => (x.nth.getD k (0, 0)).1 == (D - 1) / 7 + 1 && (x.nth.getD k (0, 0)).2 == wk day) x.nth.length)) := HWP.out
        clear HWP
        have KV := hide (KD.out day)
        rw [show (day + 3) % 7 + 1 = wk day from rfl] at KV
        clear KD
        generalize wk day = v at *
        clear hkn hki
        go_wp2_with fail
        refine (KV.out _).mono ?_
        rintro e W7 ⟨rfl, rfl⟩
        clear KV
        go_upto_region 23 with fail
        go_cut [12] from 89 (fun s12 wc => s12 = .bool BW ∧ DW w A x B Y (m + 1) D wc)
        case first =>
          obtain ⟨x0, x1, x2, x3, x4, x5, x6, x7, x8, x9, x10⟩ := hd.c.bx.cells
          obtain ⟨e0, e1, e2, e3⟩ := hd.d.cells
          go_wp2_with fail
          refine (K3.out _ hd.c).mono ?_
          rintro e W8 ⟨rfl, c8⟩
          replace hd := hd.later c8
          clear c8 e0 e1 e2 e3
          clear x0 x1 x2 x3 x4 x5 x6 x7 x8 x9 x10
          obtain ⟨x0, x1, x2, x3, x4, x5, x6, x7, x8, x9, x10⟩ := hd.c.bx.cells
          obtain ⟨e0, e1, e2, e3⟩ := hd.d.cells
          cases b2
          · go_wp2_with fail
            refine (K4.out _ hd.c).mono ?_
            rintro e W9 ⟨rfl, c9⟩
            replace hd := hd.later c9
            clear c9 e0 e1 e2 e3
            clear x0 x1 x2 x3 x4 x5 x6 x7 x8 x9 x10
            obtain ⟨e0, e1, e2, e3⟩ := hd.d.cells
            cases b3
            · obtain rfl : BW = false := by rw [HBW.out]; rfl
              clear HBW
              go_wp2
              go_meet
              case rel => exact ⟨rfl, hd⟩
            · by_cases h7 : L < D + 7
              · obtain rfl : BW = true := by rw [HBW.out, decide_eq_true h7]; rfl
                clear HBW
                go_wp2
                go_meet
                case rel => exact ⟨rfl, hd⟩
              · obtain rfl : BW = false := by rw [HBW.out, decide_eq_false h7]; rfl
                clear HBW
                go_wp2
                go_meet
                case rel => exact ⟨by rw [decide_eq_false (by omega)], hd⟩
          · obtain rfl : BW = true := by rw [HBW.out]; rfl
            clear HBW
            go_wp2
            go_meet
            case rel => exact ⟨rfl, hd⟩
        case rest =>
          clear hd
          obtain ⟨rfl, hd⟩ := hcut
          clear HBW K1 K2 K3 K4
          obtain ⟨x0, x1, x2, x3, x4, x5, x6, x7, x8, x9, x10⟩ := hd.c.bx.cells
          go_wp2_with fail
          clear x0 x1 x2 x3 x4 x5 x6 x7 x8 x9 x10
          go_loopw [12, 109] (fun c i wr => ∃ k : Nat, k ≤ x.nth.length ∧ i = .int .i64 k ∧ c = .bool (BW || anyN (fun k => (x.nth.getD k (0, 0)).1 == (D - 1) / 7 + 1 && (x.nth.getD k (0, 0)).2 == v) k) ∧ DW w A x B Y (m + 1) D wr) (fun _ i _ => x.nth.length - (intOf i).toNat)
          case atStart => exact ⟨0, by omega, rfl, by simp [anyN, Crn.allB], hd⟩
          case round =>
            clear hd
            obtain ⟨k, hk, rfl, rfl, hd⟩ := hrel
            have hlen := HU.out.t.nth
            by_cases hlt : k < x.nth.length
            · have hki : (k : Int) < x.nth.length := by omega
              obtain ⟨ad, had, hc, hc2⟩ := hd.c.cl.nth k hlt
              have hnb := HNB.out k hlt
              have hst2 : (BW || anyN (fun k => (x.nth.getD k (0, 0)).1 == (D - 1) / 7 + 1 && (x.nth.getD k (0, 0)).2 == v) (k + 1)) = ((BW || anyN (fun k => (x.nth.getD k (0, 0)).1 == (D - 1) / 7 + 1 && (x.nth.getD k (0, 0)).2 == v) k) || ((x.nth.getD k (0, 0)).1 == (D - 1) / 7 + 1 && (x.nth.getD k (0, 0)).2 == v)) := by rw [anyN_succ, Bool.or_assoc]
              have HST := hide hst2
              clear hst2
              have HI : Hid (((x.nth.getD k (0, 0)).1 == (D - 1) / 7 + 1 && (x.nth.getD k (0, 0)).2 == v) = ((x.nth.getD k (0, 0)).1 == (D - 1) / 7 + 1 && (x.nth.getD k (0, 0)).2 == v)) := rfl
              generalize ho : ((x.nth.getD k (0, 0)).1 == (D - 1) / 7 + 1 && (x.nth.getD k (0, 0)).2 == v) = o1 at HST
              have HO := hide ho
              clear ho HI
              generalize (BW || anyN (fun k => (x.nth.getD k (0, 0)).1 == (D - 1) / 7 + 1 && (x.nth.getD k (0, 0)).2 == v) k) = c at *
              have hb := hd.later ((Below.refl _ wr).alloc (Nat.le_refl _) (.cells #[.int .i64 (x.nth.getD k (0, 0)).1, .int .i64 (x.nth.getD k (0, 0)).2] 55))
              have HB := hide hb
              clear hb
              generalize x.nth.getD k (0, 0) = n at *
              obtain ⟨n1, n2⟩ := n
              dsimp only at hc hc2 hnb HO HB
              rw [had]
              have hlB : B < wr.heap.size := hd.d.lt
              obtain ⟨e0, e1, e2, e3⟩ := hd.d.cells
              clear hd
              cases c
              · by_cases h2 : n2 = v
                · subst h2
                  by_cases h3 : 7 * (n1 - 1) < D
                  · by_cases h4 : D ≤ 7 * n1
                    · obtain rfl : o1 = true := by rw [← HO.out, show n1 = (D - 1) / 7 + 1 by omega]; simp
                      clear HO
                      go_wp2
                      go_roundw
                      case rel => exact ⟨k + 1, by omega, by go_num, by rw [HST.out]; rfl, HB.out⟩
                      case measure => simp [intOf]; omega
                    · obtain rfl : o1 = false := by rw [← HO.out]; simp; omega
                      clear HO
                      go_wp2
                      go_roundw
                      case rel => exact ⟨k + 1, by omega, by go_num, by rw [HST.out]; rfl, HB.out⟩
                      case measure => simp [intOf]; omega
                  · obtain rfl : o1 = false := by rw [← HO.out]; simp; omega
                    clear HO
                    go_wp2
                    go_roundw
                    case rel => exact ⟨k + 1, by omega, by go_num, by rw [HST.out]; rfl, HB.out⟩
                    case measure => simp [intOf]; omega
                · obtain rfl : o1 = false := by rw [← HO.out]; simp [h2]
                  clear HO
                  go_wp2
                  go_roundw
                  case rel => exact ⟨k + 1, by omega, by go_num, by rw [HST.out]; rfl, HB.out⟩
                  case measure => simp [intOf]; omega
              · clear HO
                go_wp2
                go_roundw
                case rel => exact ⟨k + 1, by omega, by go_num, by rw [HST.out]; rfl, HB.out⟩
                case measure => simp [intOf]; omega
            · have hkn : k = x.nth.length := by omega
              have hki : (x.nth.length : Int) ≤ k := by omega
              rw [hkn, ← HW2.out]
              clear HW2 hk hlt hlen hkn
              obtain ⟨x0, x1, x2, x3, x4, x5, x6, x7, x8, x9, x10⟩ := hd.c.bx.cells
              cases hany : x.any
              · rw [hany] at HR x3
                cases haw : x.anyW
                · rw [haw] at HR x7
                  obtain rfl : R = (FM || FW) := by rw [HR.out]; rfl
                  clear HR
                  cases FM <;> cases FW
                  all_goals
                    go_wp2
                    go_ret
                    exact ⟨rfl, hd.c.be⟩
                · rw [haw] at HR x7
                  obtain rfl : R = FM := by rw [HR.out]; rfl
                  clear HR
                  go_wp2
                  go_ret
                  exact ⟨rfl, hd.c.be⟩
              · rw [hany] at HR x3
                cases haw : x.anyW <;> rw [haw] at x7 HR <;> cases FW
                all_goals
                  go_wp2
                  go_ret
                  exact ⟨by rw [HR.out]; rfl, hd.c.be⟩
end Go.Proofs.YtgbbplkpepaidaaGreatDoor
