/- The reference's months, first days and rounds. -/
import Derived.Test.YtafaacliphdndaaGreatDoorMClockBack4
import Derived.Deep.RegionWith
import Derived.Deep.CutRange
namespace Go.Proofs.YtafaacliphdndaaGreatDoor
open Go.RowKit Go.Shelf

/-- v is a function of two numbers -/
def Fn2 (v : Value) (f : Int → Int → Value) (ok : Int → Int → Prop) (S : Nat → Prop) (w : World) : Prop :=
  ∃ g lb, v = fv g lb ∧ (∀ args w, (callFunc g args).run Tryz.prog w = .ok (.enter g args) w) ∧
    ∀ W y m, Since S w W → ok y m → Calls Tryz.prog g (#[.int .i64 y, .int .i64 m] ++ lb) W fun e W' => e = .returned (f y m) ∧ ∃ q, W' = W.drewN q
theorem Fn2.later {v : Value} {f : Int → Int → Value} {ok : Int → Int → Prop} {S : Nat → Prop} {w W : World} (h : Fn2 v f ok S w) (hb : Since S w W) : Fn2 v f ok S W := by
  obtain ⟨g, lb, e, en, k⟩ := h
  exact ⟨g, lb, e, en, fun W' y m hb' => k W' y m (hb.trans hb')⟩
theorem Fn2.base {v : Value} {f : Int → Int → Value} {ok : Int → Int → Prop} {S S' : Nat → Prop} {w : World} (h : Fn2 v f ok S w) (hS : ∀ k, S k → k < w.heap.size → S' k) : Fn2 v f ok S' w := by
  obtain ⟨g, lb, e, en, k⟩ := h
  exact ⟨g, lb, e, en, fun W' y m hb' => k W' y m (hb'.less hS)⟩
theorem Fn2.as {v : Value} {f f' : Int → Int → Value} {ok ok' : Int → Int → Prop} {S : Nat → Prop} {w : World} (h : Fn2 v f ok S w) (ho : ∀ y m, ok' y m → ok y m) (hf : ∀ y m, ok' y m → f y m = f' y m) : Fn2 v f' ok' S w := by
  obtain ⟨g, lb, e, en, k⟩ := h
  exact ⟨g, lb, e, en, fun W' y m hb' ho' => hf y m ho' ▸ k W' y m hb' (ho y m ho')⟩
theorem Fn2.enters {g : Nat} {lb : Array Value} {f : Int → Int → Value} {ok : Int → Int → Prop} {S : Nat → Prop} {w : World} (h : Fn2 (fv g lb) f ok S w) : ∀ args w, (callFunc g args).run Tryz.prog w = .ok (.enter g args) w := by
  obtain ⟨g', lb', e, en, k⟩ := h
  simp only [Value.func.injEq, Fn.func.injEq, true_and] at e
  obtain ⟨rfl, rfl⟩ := e
  exact en
theorem Fn2.calls {g : Nat} {lb : Array Value} {f : Int → Int → Value} {ok : Int → Int → Prop} {S : Nat → Prop} {w : World} (h : Fn2 (fv g lb) f ok S w) (W : World) (y m : Int) (hs : Since S w W) (ho : ok y m) :
    Calls Tryz.prog g (#[.int .i64 y, .int .i64 m] ++ lb) W fun e W' => e = .returned (f y m) ∧ ∃ q, W' = W.drewN q := by
  obtain ⟨g', lb', e, en, k⟩ := h
  simp only [Value.func.injEq, Fn.func.injEq, true_and] at e
  obtain ⟨rfl, rfl⟩ := e
  exact k W y m hs ho

/-- a slice over n cells from the head of block b on holds these numbers -/
def Row (L : List Int) (b : Nat) (w : World) : Prop := ∀ i (h : i < L.length), w.cell? ⟨b, i, none⟩ = some (.int .i64 L[i])
theorem Row.lt {L : List Int} {b : Nat} {w : World} (h : Row L b w) (h0 : 0 < L.length) : b < w.heap.size := by
  have := h 0 h0
  rcases Nat.lt_or_ge b w.heap.size with h1 | h1
  · exact h1
  · simp [World.cell?, Array.getElem?_eq_none h1] at this

/-! ### the functions of a steady calendar -/
theorem steady1_any (n : Nat) (a : Option Addr) (y : Int) (p : Nat) (w : World) (h1 : w.cell? ⟨p, 0, none⟩ = some (.slice a n n)) :
    Calls Tryz.prog 147 #[.int .i64 y, ptr p] w fun e w' => e = .returned (.int .i64 n) ∧ ∃ q, w' = w.drewN q := by
  go_enter Tryz.func147, Tryz.ntmps147
  go_wp2
  go_ret
  exact ⟨rfl, 0, rfl⟩
theorem steady2_any (g0 : Nat) (l0 : Array Value) (is : Int → Bool) (L : List Int) (long y m R : Int) (S : Nat → Prop) (p1 p2 p3 b : Nat) (w : World) (h1 : w.cell? ⟨p1, 0, none⟩ = some (.int .i64 long)) (h2 : w.cell? ⟨p2, 0, none⟩ = some (fv g0 l0)) (h3 : w.cell? ⟨p3, 0, none⟩ = some (.slice (some ⟨b, 0, none⟩) L.length L.length))
    (hR : Row L b w) (hL : L.length ≤ 13) (hx : ∀ x ∈ L, 0 ≤ x ∧ x ≤ 31) (hl : FnIs (fv g0 l0) (fun y => .bool (is y)) (-R) R S w) (y1 : -R ≤ y) (y2 : y ≤ R) (m1 : 1 ≤ m) (m2 : m ≤ L.length) :
    Calls Tryz.prog 148 #[.int .i64 y, .int .i64 m, ptr p1, ptr p2, ptr p3] w fun e w' => e = .returned (.int .i64 (L.getD (m - 1).toNat 0 + (if m = long ∧ is y = true then 1 else 0))) ∧ ∃ q, w' = w.drewN q := by
  have en := hl.enters
  have hk := hl.calls w y (Since.refl _ _) y1 y2
  clear hl
  obtain ⟨k, rfl⟩ : ∃ k : Nat, m = (k : Int) + 1 := ⟨(m - 1).toNat, by omega⟩
  have hk1 : k < L.length := by omega
  have hc := hR k hk1
  have hb := hx L[k] (List.getElem_mem hk1)
  have e1 : ((k : Int) + 1 - 1).toNat = k := by omega
  rw [e1, List.getD_eq_getElem?_getD, List.getElem?_eq_getElem hk1, Option.getD_some]
  clear hR hx
  generalize L[k] = x at *
  generalize hn : L.length = n at *
  clear hn
  by_cases hm : (k : Int) + 1 = long
  · subst hm
    cases hi : is y
    all_goals
      simp only [hi] at hk
      go_enter Tryz.func148, Tryz.ntmps148
      go_wp2_with (go_at_fn g0; refine hk.mono ?_; rintro e w' ⟨rfl, q, rfl⟩)
      go_ret
      exact ⟨rfl, _, rfl⟩
  · rw [if_neg (fun h => hm h.1), Int.add_zero]
    have hm2 : ((k : Int) + 1 == long) = false := by simpa using hm
    go_enter Tryz.func148, Tryz.ntmps148
    go_wp2
    go_ret
    exact ⟨rfl, 0, rfl⟩
theorem steady3_any (g1 : Nat) (l1 : Array Value) (ahead : Int → Int) (first common y R : Int) (S : Nat → Prop) (p1 p2 p3 : Nat) (w : World) (h1 : w.cell? ⟨p1, 0, none⟩ = some (.int .i64 first)) (h2 : w.cell? ⟨p2, 0, none⟩ = some (.int .i64 common)) (h3 : w.cell? ⟨p3, 1, none⟩ = some (fv g1 l1))
    (hl : FnIs (fv g1 l1) (fun y => .int .i64 (ahead y)) (-R) R S w) (hR : R ≤ 100000) (y1 : -R ≤ y) (y2 : y ≤ R) (a1 : -100000000 ≤ ahead y) (a2 : ahead y ≤ 100000000) (f1 : -10000000 ≤ first) (f2 : first ≤ 10000000) (c1 : 0 ≤ common) (c2 : common ≤ 1000) :
    Calls Tryz.prog 149 #[.int .i64 y, ptr p1, ptr p2, ptr p3] w fun e w' => e = .returned (.int .i64 (first + common * (y - 1) + ahead y)) ∧ ∃ q, w' = w.drewN q := by
  have en := hl.enters
  have hm := mul_bd common (y - 1) 1000 100001 c1 c2 (by omega) (by omega)
  have hk := hide (fun (q : Nat) (z : Int) => hl.calls (w.drewN q) z ((Since.refl _ _).drewN q))
  clear hl
  go_enter Tryz.func149, Tryz.ntmps149
  go_wp2_with fail
  go_quiet ((go_at_fn g1; exact Calls.quiet_of (hk.out _ _ (by omega) (by omega))))
  go_wp2
  go_ret
  exact ⟨rfl, _, rfl⟩

/-- a calendar: four functions -/
structure IsCalG (v0 v1 v2 v3 : Value) (leap : Int → Bool) (months : Int → Int) (len : Int → Int → Int) (ok : Int → Int → Prop) (start : Int → Int) (S : Nat → Prop) (w : World) : Prop where
  leap : FnIs v0 (fun y => .bool (leap y)) (-40000) 40000 S w
  months : FnIs v1 (fun y => .int .i64 (months y)) (-40000) 40000 S w
  len : Fn2 v2 (fun y m => .int .i64 (len y m)) ok S w
  start : FnIs v3 (fun y => .int .i64 (start y)) (-40000) 40000 S w
theorem IsCalG.later {v0 v1 v2 v3 : Value} {leap : Int → Bool} {months : Int → Int} {len : Int → Int → Int} {ok : Int → Int → Prop} {start : Int → Int} {S : Nat → Prop} {w W : World} (h : IsCalG v0 v1 v2 v3 leap months len ok start S w) (hb : Since S w W) : IsCalG v0 v1 v2 v3 leap months len ok start S W :=
  ⟨h.leap.later hb, h.months.later hb, h.len.later hb, h.start.later hb⟩
theorem IsCalG.base {v0 v1 v2 v3 : Value} {leap : Int → Bool} {months : Int → Int} {len : Int → Int → Int} {ok : Int → Int → Prop} {start : Int → Int} {S S' : Nat → Prop} {w : World} (h : IsCalG v0 v1 v2 v3 leap months len ok start S w) (hS : ∀ k, S k → k < w.heap.size → S' k) : IsCalG v0 v1 v2 v3 leap months len ok start S' w :=
  ⟨h.leap.base hS, h.months.base hS, h.len.base hS, h.start.base hS⟩

/-- what steady's loop has laid -/
structure St (first long : Int) (g0 : Nat) (l0 : Array Value) (g1 : Nat) (l1 : Array Value) (n : Nat) (b : Nat) (h : Nat) (c : Int) (w wr : World) : Prop where
  below : Below h w wr
  size : wr.heap.size = h + 6
  c0 : wr.cell? ⟨h, 0, none⟩ = some (.int .i64 first)
  c1 : wr.cell? ⟨h + 1, 0, none⟩ = some (fv g0 l0)
  c1' : wr.cell? ⟨h + 1, 1, none⟩ = some (fv g1 l1)
  c2 : wr.cell? ⟨h + 1 + 1, 0, none⟩ = some (.int .i64 long)
  c3 : wr.cell? ⟨h + 1 + 1 + 1, 0, none⟩ = some (.slice (some ⟨b, 0, none⟩) n n)
  c4 : ∀ j, j < 4 → wr.cell? ⟨h + 1 + 1 + 1 + 1, j, none⟩ = some .nilFunc ∧ wr.frozen? ⟨h + 1 + 1 + 1 + 1, j, none⟩ = false
  c5 : wr.cell? ⟨h + 1 + 1 + 1 + 1 + 1, 0, none⟩ = some (.int .i64 c)
  f5 : wr.frozen? ⟨h + 1 + 1 + 1 + 1 + 1, 0, none⟩ = false

theorem St.set {first long : Int} {g0 : Nat} {l0 : Array Value} {g1 : Nat} {l1 : Array Value} {n b h : Nat} {c : Int} {w wr : World} (s : St first long g0 l0 g1 l1 n b h c w wr) (c' : Int) :
    St first long g0 l0 g1 l1 n b h c' w (wr.setCell ⟨h + 1 + 1 + 1 + 1 + 1, 0, none⟩ (.int .i64 c')) := by
  obtain ⟨a1, a2, a3, a4, a5, a6, a7, a8, a9, a10⟩ := s
  have ne : ∀ k o, k < h + 5 → (wr.setCell ⟨h + 1 + 1 + 1 + 1 + 1, 0, none⟩ (.int .i64 c')).cell? ⟨k, o, none⟩ = wr.cell? ⟨k, o, none⟩ := fun k o hk =>
    World.cell?_of_block (w := wr) (a := ⟨k, o, none⟩) (Below.heap_setCell _ _ _ _ (by simp; omega))
  exact ⟨a1.setCell (by simp; omega) _, by simp [World.setCell, a2], (ne _ _ (by omega)).trans a3, (ne _ _ (by omega)).trans a4, (ne _ _ (by omega)).trans a5, (ne _ _ (by omega)).trans a6, (ne _ _ (by omega)).trans a7,
    fun j hj => ⟨(ne _ _ (by omega)).trans (a8 j hj).1, by rw [World.frozen?_setCell]; exact (a8 j hj).2⟩, World.cell?_setCell_same _ _ _ a9, by rw [World.frozen?_setCell]; exact a10⟩
theorem St.drew {first long : Int} {g0 : Nat} {l0 : Array Value} {g1 : Nat} {l1 : Array Value} {n b h : Nat} {c : Int} {w wr : World} (s : St first long g0 l0 g1 l1 n b h c w wr) : St first long g0 l0 g1 l1 n b h c w wr.drew := by
  obtain ⟨a1, a2, a3, a4, a5, a6, a7, a8, a9, a10⟩ := s
  exact ⟨a1.drew, a2, a3, a4, a5, a6, a7, a8, a9, a10⟩
end Go.Proofs.YtafaacliphdndaaGreatDoor
namespace Go.Proofs.YtafaacliphdndaaGreatDoor
open Go.RowKit Go.Shelf

theorem row_new' (X : World) (L : List Int) (T : TypeId) : Row L X.heap.size (X.alloc (.cells (L.map (Value.int .i64)).toArray T)) := by
  intro i hi
  rw [World.cell?_alloc_at _ _ _ _ rfl]
  simp [hi]

/-- a new slice that holds the lengths of the months of a year -/
def IsLens (c y : Int) (w : World) (e : Ending) (w' : World) : Prop :=
  ∃ b cap, e = .returned (.slice (some ⟨b, 0, none⟩) (Alm.lens c y).length cap) ∧ Row (Alm.lens c y) b w' ∧ (Alm.lens c y).length ≤ cap ∧ cap ≤ maxLen ∧ w.heap.size ≤ b ∧ Below w.heap.size w w'
theorem isLens_mk (c y : Int) (w : World) (L : List Int) (h : Alm.lens c y = L) (hn : L.length ≤ 100000) : IsLens c y w (.returned (.slice (some ⟨w.heap.size, 0, none⟩) L.length L.length)) (w.alloc (.cells (L.map (Value.int .i64)).toArray 3)) := by
  subst h
  exact ⟨w.heap.size, _, rfl, row_new' w _ _, Nat.le_refl _, by unfold maxLen; omega, Nat.le_refl _, (Below.refl _ w).alloc (Nat.le_refl _) _⟩
theorem lens_1 (y : Int) (w : World) (y1 : -100000 ≤ y) (y2 : y ≤ 100000) : Calls Tryz.prog 28 #[.int .i64 1, .int .i64 y] w (IsLens 1 y w) := by
  have hl := fun W => leapYear_any 1 y W y1 y2
  cases hi : Alm.leap 1 y
  · rw [hi] at hl
    have he : Alm.l01 1 y = 0 := by unfold Alm.l01; rw [hi]; rfl
    have He := hide (show Alm.lens 1 y = [31, 28, 31, 30, 31, 30, 31, 31, 30, 31, 30, 31] by unfold Alm.lens; rw [he]; rfl)
    clear he
    go_enter Tryz.func28, Tryz.ntmps28
    go_wp2_with (go_at_call 50; refine (hl _).mono ?_; rintro e w' ⟨rfl, rfl⟩)
    go_ret
    exact isLens_mk 1 y _ [31, 28, 31, 30, 31, 30, 31, 31, 30, 31, 30, 31] He.out (by decide)
  · rw [hi] at hl
    have he : Alm.l01 1 y = 1 := by unfold Alm.l01; rw [hi]; rfl
    have He := hide (show Alm.lens 1 y = [31, 29, 31, 30, 31, 30, 31, 31, 30, 31, 30, 31] by unfold Alm.lens; rw [he]; rfl)
    clear he
    go_enter Tryz.func28, Tryz.ntmps28
    go_wp2_with (go_at_call 50; refine (hl _).mono ?_; rintro e w' ⟨rfl, rfl⟩)
    go_ret
    exact isLens_mk 1 y _ [31, 29, 31, 30, 31, 30, 31, 31, 30, 31, 30, 31] He.out (by decide)
theorem lens_2 (y : Int) (w : World) (y1 : -100000 ≤ y) (y2 : y ≤ 100000) : Calls Tryz.prog 28 #[.int .i64 2, .int .i64 y] w (IsLens 2 y w) := by
  have hl := fun W => leapYear_any 2 y W y1 y2
  cases hi : Alm.leap 2 y
  · rw [hi] at hl
    have he : Alm.l01 2 y = 0 := by unfold Alm.l01; rw [hi]; rfl
    have He := hide (show Alm.lens 2 y = [31, 28, 31, 30, 31, 30, 31, 31, 30, 31, 30, 31] by unfold Alm.lens; rw [he]; rfl)
    clear he
    go_enter Tryz.func28, Tryz.ntmps28
    go_wp2_with (go_at_call 50; refine (hl _).mono ?_; rintro e w' ⟨rfl, rfl⟩)
    go_ret
    exact isLens_mk 2 y _ [31, 28, 31, 30, 31, 30, 31, 31, 30, 31, 30, 31] He.out (by decide)
  · rw [hi] at hl
    have he : Alm.l01 2 y = 1 := by unfold Alm.l01; rw [hi]; rfl
    have He := hide (show Alm.lens 2 y = [31, 29, 31, 30, 31, 30, 31, 31, 30, 31, 30, 31] by unfold Alm.lens; rw [he]; rfl)
    clear he
    go_enter Tryz.func28, Tryz.ntmps28
    go_wp2_with (go_at_call 50; refine (hl _).mono ?_; rintro e w' ⟨rfl, rfl⟩)
    go_ret
    exact isLens_mk 2 y _ [31, 29, 31, 30, 31, 30, 31, 31, 30, 31, 30, 31] He.out (by decide)
theorem lens_3 (y : Int) (w : World) (y1 : -100000 ≤ y) (y2 : y ≤ 100000) : Calls Tryz.prog 28 #[.int .i64 3, .int .i64 y] w (IsLens 3 y w) := by
  have hl := fun W => leapYear_any 3 y W y1 y2
  cases hi : Alm.leap 3 y
  · rw [hi] at hl
    have he : Alm.l01 3 y = 0 := by unfold Alm.l01; rw [hi]; rfl
    have He := hide (show Alm.lens 3 y = [30, 30, 30, 30, 30, 30, 30, 30, 30, 30, 30, 30, 5] by unfold Alm.lens; rw [he]; rfl)
    clear he
    go_enter Tryz.func28, Tryz.ntmps28
    go_wp2_with (go_at_call 50; refine (hl _).mono ?_; rintro e w' ⟨rfl, rfl⟩)
    go_ret
    exact isLens_mk 3 y _ [30, 30, 30, 30, 30, 30, 30, 30, 30, 30, 30, 30, 5] He.out (by decide)
  · rw [hi] at hl
    have he : Alm.l01 3 y = 1 := by unfold Alm.l01; rw [hi]; rfl
    have He := hide (show Alm.lens 3 y = [30, 30, 30, 30, 30, 30, 30, 30, 30, 30, 30, 30, 6] by unfold Alm.lens; rw [he]; rfl)
    clear he
    go_enter Tryz.func28, Tryz.ntmps28
    go_wp2_with (go_at_call 50; refine (hl _).mono ?_; rintro e w' ⟨rfl, rfl⟩)
    go_ret
    exact isLens_mk 3 y _ [30, 30, 30, 30, 30, 30, 30, 30, 30, 30, 30, 30, 6] He.out (by decide)
theorem lens_4 (y : Int) (w : World) (y1 : -100000 ≤ y) (y2 : y ≤ 100000) : Calls Tryz.prog 28 #[.int .i64 4, .int .i64 y] w (IsLens 4 y w) := by
  have hl := fun W => leapYear_any 4 y W y1 y2
  cases hi : Alm.leap 4 y
  · rw [hi] at hl
    have he : Alm.l01 4 y = 0 := by unfold Alm.l01; rw [hi]; rfl
    have He := hide (show Alm.lens 4 y = [30, 30, 30, 30, 30, 30, 30, 30, 30, 30, 30, 30, 5] by unfold Alm.lens; rw [he]; rfl)
    clear he
    go_enter Tryz.func28, Tryz.ntmps28
    go_wp2_with (go_at_call 50; refine (hl _).mono ?_; rintro e w' ⟨rfl, rfl⟩)
    go_ret
    exact isLens_mk 4 y _ [30, 30, 30, 30, 30, 30, 30, 30, 30, 30, 30, 30, 5] He.out (by decide)
  · rw [hi] at hl
    have he : Alm.l01 4 y = 1 := by unfold Alm.l01; rw [hi]; rfl
    have He := hide (show Alm.lens 4 y = [30, 30, 30, 30, 30, 30, 30, 30, 30, 30, 30, 30, 6] by unfold Alm.lens; rw [he]; rfl)
    clear he
    go_enter Tryz.func28, Tryz.ntmps28
    go_wp2_with (go_at_call 50; refine (hl _).mono ?_; rintro e w' ⟨rfl, rfl⟩)
    go_ret
    exact isLens_mk 4 y _ [30, 30, 30, 30, 30, 30, 30, 30, 30, 30, 30, 30, 6] He.out (by decide)
theorem lens_5 (y : Int) (w : World) (y1 : -100000 ≤ y) (y2 : y ≤ 100000) : Calls Tryz.prog 28 #[.int .i64 5, .int .i64 y] w (IsLens 5 y w) := by
  have hl := fun W => leapYear_any 5 y W y1 y2
  cases hi : Alm.leap 5 y
  · rw [hi] at hl
    have he : Alm.l01 5 y = 0 := by unfold Alm.l01; rw [hi]; rfl
    have He := hide (show Alm.lens 5 y = [30, 29, 30, 29, 30, 29, 30, 29, 30, 29, 30, 29] by unfold Alm.lens; rw [he]; rfl)
    clear he
    go_enter Tryz.func28, Tryz.ntmps28
    go_wp2_with (go_at_call 50; refine (hl _).mono ?_; rintro e w' ⟨rfl, rfl⟩)
    go_ret
    exact isLens_mk 5 y _ [30, 29, 30, 29, 30, 29, 30, 29, 30, 29, 30, 29] He.out (by decide)
  · rw [hi] at hl
    have he : Alm.l01 5 y = 1 := by unfold Alm.l01; rw [hi]; rfl
    have He := hide (show Alm.lens 5 y = [30, 29, 30, 29, 30, 29, 30, 29, 30, 29, 30, 30] by unfold Alm.lens; rw [he]; rfl)
    clear he
    go_enter Tryz.func28, Tryz.ntmps28
    go_wp2_with (go_at_call 50; refine (hl _).mono ?_; rintro e w' ⟨rfl, rfl⟩)
    go_ret
    exact isLens_mk 5 y _ [30, 29, 30, 29, 30, 29, 30, 29, 30, 29, 30, 30] He.out (by decide)
theorem lens_6 (y : Int) (w : World) (y1 : -100000 ≤ y) (y2 : y ≤ 100000) : Calls Tryz.prog 28 #[.int .i64 6, .int .i64 y] w (IsLens 6 y w) := by
  have hl := fun W => leapYear_any 6 y W y1 y2
  cases hi : Alm.leap 6 y
  · rw [hi] at hl
    have he : Alm.l01 6 y = 0 := by unfold Alm.l01; rw [hi]; rfl
    have He := hide (show Alm.lens 6 y = [31, 31, 31, 31, 31, 31, 30, 30, 30, 30, 30, 29] by unfold Alm.lens; rw [he]; rfl)
    clear he
    go_enter Tryz.func28, Tryz.ntmps28
    go_wp2_with (go_at_call 50; refine (hl _).mono ?_; rintro e w' ⟨rfl, rfl⟩)
    go_ret
    exact isLens_mk 6 y _ [31, 31, 31, 31, 31, 31, 30, 30, 30, 30, 30, 29] He.out (by decide)
  · rw [hi] at hl
    have he : Alm.l01 6 y = 1 := by unfold Alm.l01; rw [hi]; rfl
    have He := hide (show Alm.lens 6 y = [31, 31, 31, 31, 31, 31, 30, 30, 30, 30, 30, 30] by unfold Alm.lens; rw [he]; rfl)
    clear he
    go_enter Tryz.func28, Tryz.ntmps28
    go_wp2_with (go_at_call 50; refine (hl _).mono ?_; rintro e w' ⟨rfl, rfl⟩)
    go_ret
    exact isLens_mk 6 y _ [31, 31, 31, 31, 31, 31, 30, 30, 30, 30, 30, 30] He.out (by decide)
theorem lens_8 (y : Int) (w : World) (y1 : -100000 ≤ y) (y2 : y ≤ 100000) : Calls Tryz.prog 28 #[.int .i64 8, .int .i64 y] w (IsLens 8 y w) := by
  have hl := fun W => leapYear_any 8 y W y1 y2
  cases hi : Alm.leap 8 y
  · rw [hi] at hl
    have he : Alm.l01 8 y = 0 := by unfold Alm.l01; rw [hi]; rfl
    have He := hide (show Alm.lens 8 y = [30, 31, 31, 31, 31, 31, 30, 30, 30, 30, 30, 30] by unfold Alm.lens; rw [he]; rfl)
    clear he
    go_enter Tryz.func28, Tryz.ntmps28
    go_wp2_with (go_at_call 50; refine (hl _).mono ?_; rintro e w' ⟨rfl, rfl⟩)
    go_ret
    exact isLens_mk 8 y _ [30, 31, 31, 31, 31, 31, 30, 30, 30, 30, 30, 30] He.out (by decide)
  · rw [hi] at hl
    have he : Alm.l01 8 y = 1 := by unfold Alm.l01; rw [hi]; rfl
    have He := hide (show Alm.lens 8 y = [31, 31, 31, 31, 31, 31, 30, 30, 30, 30, 30, 30] by unfold Alm.lens; rw [he]; rfl)
    clear he
    go_enter Tryz.func28, Tryz.ntmps28
    go_wp2_with (go_at_call 50; refine (hl _).mono ?_; rintro e w' ⟨rfl, rfl⟩)
    go_ret
    exact isLens_mk 8 y _ [31, 31, 31, 31, 31, 31, 30, 30, 30, 30, 30, 30] He.out (by decide)
theorem lens_9 (y : Int) (w : World) (y1 : -100000 ≤ y) (y2 : y ≤ 100000) : Calls Tryz.prog 28 #[.int .i64 9, .int .i64 y] w (IsLens 9 y w) := by
  have hl := fun W => leapYear_any 9 y W y1 y2
  cases hi : Alm.leap 9 y
  · rw [hi] at hl
    have he : Alm.l01 9 y = 0 := by unfold Alm.l01; rw [hi]; rfl
    have He := hide (show Alm.lens 9 y = [30, 30, 30, 30, 30, 30, 30, 30, 30, 30, 30, 30, 5] by unfold Alm.lens; rw [he]; rfl)
    clear he
    go_enter Tryz.func28, Tryz.ntmps28
    go_wp2_with (go_at_call 50; refine (hl _).mono ?_; rintro e w' ⟨rfl, rfl⟩)
    go_ret
    exact isLens_mk 9 y _ [30, 30, 30, 30, 30, 30, 30, 30, 30, 30, 30, 30, 5] He.out (by decide)
  · rw [hi] at hl
    have he : Alm.l01 9 y = 1 := by unfold Alm.l01; rw [hi]; rfl
    have He := hide (show Alm.lens 9 y = [30, 30, 30, 30, 30, 30, 30, 30, 30, 30, 30, 30, 6] by unfold Alm.lens; rw [he]; rfl)
    clear he
    go_enter Tryz.func28, Tryz.ntmps28
    go_wp2_with (go_at_call 50; refine (hl _).mono ?_; rintro e w' ⟨rfl, rfl⟩)
    go_ret
    exact isLens_mk 9 y _ [30, 30, 30, 30, 30, 30, 30, 30, 30, 30, 30, 30, 6] He.out (by decide)
theorem lens_10 (y : Int) (w : World) (y1 : -100000 ≤ y) (y2 : y ≤ 100000) : Calls Tryz.prog 28 #[.int .i64 10, .int .i64 y] w (IsLens 10 y w) := by
  have hl := fun W => leapYear_any 10 y W y1 y2
  cases hi : Alm.leap 10 y
  · rw [hi] at hl
    have he : Alm.l01 10 y = 0 := by unfold Alm.l01; rw [hi]; rfl
    have He := hide (show Alm.lens 10 y = [30, 30, 30, 30, 30, 30, 30, 30, 30, 30, 30, 30, 5] by unfold Alm.lens; rw [he]; rfl)
    clear he
    go_enter Tryz.func28, Tryz.ntmps28
    go_wp2_with (go_at_call 50; refine (hl _).mono ?_; rintro e w' ⟨rfl, rfl⟩)
    go_ret
    exact isLens_mk 10 y _ [30, 30, 30, 30, 30, 30, 30, 30, 30, 30, 30, 30, 5] He.out (by decide)
  · rw [hi] at hl
    have he : Alm.l01 10 y = 1 := by unfold Alm.l01; rw [hi]; rfl
    have He := hide (show Alm.lens 10 y = [30, 30, 30, 30, 30, 30, 30, 30, 30, 30, 30, 30, 6] by unfold Alm.lens; rw [he]; rfl)
    clear he
    go_enter Tryz.func28, Tryz.ntmps28
    go_wp2_with (go_at_call 50; refine (hl _).mono ?_; rintro e w' ⟨rfl, rfl⟩)
    go_ret
    exact isLens_mk 10 y _ [30, 30, 30, 30, 30, 30, 30, 30, 30, 30, 30, 30, 6] He.out (by decide)

end Go.Proofs.YtafaacliphdndaaGreatDoor
