/- Calendars whose months have the same lengths each year, but for one. -/
import Derived.Test.YtgbbplkpepaidaaGreatDoorMCronTimes7
import Derived.Deep.RegionWith
import Derived.Deep.CutRange
namespace Go.Proofs.YtgbbplkpepaidaaGreatDoor
open Go.RowKit Go.Shelf

/-- v is a function of two numbers -/
def Fn2 (v : Value) (f : Int → Int → Value) (ok : Int → Int → Prop) (S : Nat → Prop) (w : World) : Prop :=
  ∃ g lb, v = fv g lb ∧ (∀ args w, (callFunc g args).run Tryz.prog w = .ok (.enter g args) w) ∧
    ∀ W y m, Since S w W → ok y m → Calls Tryz.prog g (#[.int .i64 y, .int .i64 m] ++ lb) W fun e W' => e = .returned (f y m) ∧ ∃ q, W' = W.drewN q
theorem Fn2.later {v : Value} {f : Int → Int → Value} {ok : Int → Int → Prop} {S : Nat → Prop} {w W : World} (h : Fn2 v f ok S w) (hb : Since S w W) : Fn2 v f ok S W := by
  obtain ⟨g, lb, e, en, k⟩ := h
  exact ⟨g, lb, e, en, fun W' y m hb' => k W' y m (hb.trans hb')⟩
theorem Fn2.base {v : Value} {f : Int → Int → Value} {ok : Int → Int → Prop} {S S' : Nat → Prop} {w : World} (h : Fn2 v f ok S w) (hS : ∀ k, S k → k < w.heap.size → S' k) : Fn2 v f ok S' w := by
  obtain ⟨g, lb, e, en, k⟩ := h
  exact ⟨g, lb, e, en, fun W' y m hb' => k W' y m (hb'.less hS)⟩
theorem Fn2.as {v : Value} {f f' : Int → Int → Value} {ok ok' : Int → Int → Prop} {S : Nat → Prop} {w : World} (h : Fn2 v f ok S w) (ho : ∀ y m, ok' y m → ok y m) (hf : ∀ y m, ok' y m → f y m = f' y m) : Fn2 v f' ok' S w := by
  obtain ⟨g, lb, e, en, k⟩ := h
  exact ⟨g, lb, e, en, fun W' y m hb' ho' => hf y m ho' ▸ k W' y m hb' (ho y m ho')⟩
theorem Fn2.enters {g : Nat} {lb : Array Value} {f : Int → Int → Value} {ok : Int → Int → Prop} {S : Nat → Prop} {w : World} (h : Fn2 (fv g lb) f ok S w) : ∀ args w, (callFunc g args).run Tryz.prog w = .ok (.enter g args) w := by
  obtain ⟨g', lb', e, en, k⟩ := h
  simp only [Value.func.injEq, Fn.func.injEq, true_and] at e
  obtain ⟨rfl, rfl⟩ := e
  exact en
theorem Fn2.calls {g : Nat} {lb : Array Value} {f : Int → Int → Value} {ok : Int → Int → Prop} {S : Nat → Prop} {w : World} (h : Fn2 (fv g lb) f ok S w) (W : World) (y m : Int) (hs : Since S w W) (ho : ok y m) :
    Calls Tryz.prog g (#[.int .i64 y, .int .i64 m] ++ lb) W fun e W' => e = .returned (f y m) ∧ ∃ q, W' = W.drewN q := by
  obtain ⟨g', lb', e, en, k⟩ := h
  simp only [Value.func.injEq, Fn.func.injEq, true_and] at e
  obtain ⟨rfl, rfl⟩ := e
  exact k W y m hs ho

/-- a slice over n cells from the head of block b on holds these numbers -/
def Row (L : List Int) (b : Nat) (w : World) : Prop := ∀ i (h : i < L.length), w.cell? ⟨b, i, none⟩ = some (.int .i64 L[i])
theorem Row.lt {L : List Int} {b : Nat} {w : World} (h : Row L b w) (h0 : 0 < L.length) : b < w.heap.size := by
  have := h 0 h0
  rcases Nat.lt_or_ge b w.heap.size with h1 | h1
  · exact h1
  · simp [World.cell?, Array.getElem?_eq_none h1] at this

/-! ### the functions of a steady calendar -/
theorem steady1_any (n : Nat) (a : Option Addr) (y : Int) (p : Nat) (w : World) (h1 : w.cell? ⟨p, 0, none⟩ = some (.slice a n n)) :
    Calls Tryz.prog 88 #[.int .i64 y, ptr p] w fun e w' => e = .returned (.int .i64 n) ∧ ∃ q, w' = w.drewN q := by
  go_enter Tryz.func88, Tryz.ntmps88
  go_wp2
  go_ret
  exact ⟨rfl, 0, rfl⟩
theorem steady2_any (g0 : Nat) (l0 : Array Value) (is : Int → Bool) (L : List Int) (long y m R : Int) (S : Nat → Prop) (p1 p2 p3 b : Nat) (w : World) (h1 : w.cell? ⟨p1, 0, none⟩ = some (.int .i64 long)) (h2 : w.cell? ⟨p2, 0, none⟩ = some (fv g0 l0)) (h3 : w.cell? ⟨p3, 0, none⟩ = some (.slice (some ⟨b, 0, none⟩) L.length L.length))
    (hR : Row L b w) (hL : L.length ≤ 13) (hx : ∀ x ∈ L, 0 ≤ x ∧ x ≤ 31) (hl : FnIs (fv g0 l0) (fun y => .bool (is y)) (-R) R S w) (y1 : -R ≤ y) (y2 : y ≤ R) (m1 : 1 ≤ m) (m2 : m ≤ L.length) :
    Calls Tryz.prog 89 #[.int .i64 y, .int .i64 m, ptr p1, ptr p2, ptr p3] w fun e w' => e = .returned (.int .i64 (L.getD (m - 1).toNat 0 + (if m = long ∧ is y = true then 1 else 0))) ∧ ∃ q, w' = w.drewN q := by
  have en := hl.enters
  have hk := hl.calls w y (Since.refl _ _) y1 y2
  clear hl
  obtain ⟨k, rfl⟩ : ∃ k : Nat, m = (k : Int) + 1 := ⟨(m - 1).toNat, by omega⟩
  have hk1 : k < L.length := by omega
  have hc := hR k hk1
  have hb := hx L[k] (List.getElem_mem hk1)
  have e1 : ((k : Int) + 1 - 1).toNat = k := by omega
  rw [e1, List.getD_eq_getElem?_getD, List.getElem?_eq_getElem hk1, Option.getD_some]
  clear hR hx
  generalize L[k] = x at *
  generalize hn : L.length = n at *
  clear hn
  by_cases hm : (k : Int) + 1 = long
  · subst hm
    cases hi : is y
    all_goals
      simp only [hi] at hk
      go_enter Tryz.func89, Tryz.ntmps89
      go_wp2_with (go_at_fn g0; refine hk.mono ?_; rintro e w' ⟨rfl, q, rfl⟩)
      go_ret
      exact ⟨rfl, _, rfl⟩
  · rw [if_neg (fun h => hm h.1), Int.add_zero]
    have hm2 : ((k : Int) + 1 == long) = false := by simpa using hm
    go_enter Tryz.func89, Tryz.ntmps89
    go_wp2
    go_ret
    exact ⟨rfl, 0, rfl⟩
theorem steady3_any (g1 : Nat) (l1 : Array Value) (ahead : Int → Int) (first common y R : Int) (S : Nat → Prop) (p1 p2 p3 : Nat) (w : World) (h1 : w.cell? ⟨p1, 0, none⟩ = some (.int .i64 first)) (h2 : w.cell? ⟨p2, 0, none⟩ = some (.int .i64 common)) (h3 : w.cell? ⟨p3, 1, none⟩ = some (fv g1 l1))
    (hl : FnIs (fv g1 l1) (fun y => .int .i64 (ahead y)) (-R) R S w) (hR : R ≤ 100000) (y1 : -R ≤ y) (y2 : y ≤ R) (a1 : -100000000 ≤ ahead y) (a2 : ahead y ≤ 100000000) (f1 : -10000000 ≤ first) (f2 : first ≤ 10000000) (c1 : 0 ≤ common) (c2 : common ≤ 1000) :
    Calls Tryz.prog 90 #[.int .i64 y, ptr p1, ptr p2, ptr p3] w fun e w' => e = .returned (.int .i64 (first + common * (y - 1) + ahead y)) ∧ ∃ q, w' = w.drewN q := by
  have en := hl.enters
  have hm := mul_bd common (y - 1) 1000 100001 c1 c2 (by omega) (by omega)
  have hk := hide (fun (q : Nat) (z : Int) => hl.calls (w.drewN q) z ((Since.refl _ _).drewN q))
  clear hl
  go_enter Tryz.func90, Tryz.ntmps90
  go_wp2_with fail
  go_quiet ((go_at_fn g1; exact Calls.quiet_of (hk.out _ _ (by omega) (by omega))))
  go_wp2
  go_ret
  exact ⟨rfl, _, rfl⟩

/-- a calendar: four functions -/
structure IsCalG (v0 v1 v2 v3 : Value) (leap : Int → Bool) (months : Int → Int) (len : Int → Int → Int) (ok : Int → Int → Prop) (start : Int → Int) (S : Nat → Prop) (w : World) : Prop where
  leap : FnIs v0 (fun y => .bool (leap y)) (-40000) 40000 S w
  months : FnIs v1 (fun y => .int .i64 (months y)) (-40000) 40000 S w
  len : Fn2 v2 (fun y m => .int .i64 (len y m)) ok S w
  start : FnIs v3 (fun y => .int .i64 (start y)) (-40000) 40000 S w
theorem IsCalG.later {v0 v1 v2 v3 : Value} {leap : Int → Bool} {months : Int → Int} {len : Int → Int → Int} {ok : Int → Int → Prop} {start : Int → Int} {S : Nat → Prop} {w W : World} (h : IsCalG v0 v1 v2 v3 leap months len ok start S w) (hb : Since S w W) : IsCalG v0 v1 v2 v3 leap months len ok start S W :=
  ⟨h.leap.later hb, h.months.later hb, h.len.later hb, h.start.later hb⟩
theorem IsCalG.base {v0 v1 v2 v3 : Value} {leap : Int → Bool} {months : Int → Int} {len : Int → Int → Int} {ok : Int → Int → Prop} {start : Int → Int} {S S' : Nat → Prop} {w : World} (h : IsCalG v0 v1 v2 v3 leap months len ok start S w) (hS : ∀ k, S k → k < w.heap.size → S' k) : IsCalG v0 v1 v2 v3 leap months len ok start S' w :=
  ⟨h.leap.base hS, h.months.base hS, h.len.base hS, h.start.base hS⟩

/-- what steady's loop has laid -/
structure St (first long : Int) (g0 : Nat) (l0 : Array Value) (g1 : Nat) (l1 : Array Value) (n : Nat) (b : Nat) (h : Nat) (c : Int) (w wr : World) : Prop where
  below : Below h w wr
  size : wr.heap.size = h + 6
  c0 : wr.cell? ⟨h, 0, none⟩ = some (.int .i64 first)
  c1 : wr.cell? ⟨h + 1, 0, none⟩ = some (fv g0 l0)
  c1' : wr.cell? ⟨h + 1, 1, none⟩ = some (fv g1 l1)
  c2 : wr.cell? ⟨h + 1 + 1, 0, none⟩ = some (.int .i64 long)
  c3 : wr.cell? ⟨h + 1 + 1 + 1, 0, none⟩ = some (.slice (some ⟨b, 0, none⟩) n n)
  c4 : ∀ j, j < 4 → wr.cell? ⟨h + 1 + 1 + 1 + 1, j, none⟩ = some .nilFunc ∧ wr.frozen? ⟨h + 1 + 1 + 1 + 1, j, none⟩ = false
  c5 : wr.cell? ⟨h + 1 + 1 + 1 + 1 + 1, 0, none⟩ = some (.int .i64 c)
  f5 : wr.frozen? ⟨h + 1 + 1 + 1 + 1 + 1, 0, none⟩ = false

theorem St.set {first long : Int} {g0 : Nat} {l0 : Array Value} {g1 : Nat} {l1 : Array Value} {n b h : Nat} {c : Int} {w wr : World} (s : St first long g0 l0 g1 l1 n b h c w wr) (c' : Int) :
    St first long g0 l0 g1 l1 n b h c' w (wr.setCell ⟨h + 1 + 1 + 1 + 1 + 1, 0, none⟩ (.int .i64 c')) := by
  obtain ⟨a1, a2, a3, a4, a5, a6, a7, a8, a9, a10⟩ := s
  have ne : ∀ k o, k < h + 5 → (wr.setCell ⟨h + 1 + 1 + 1 + 1 + 1, 0, none⟩ (.int .i64 c')).cell? ⟨k, o, none⟩ = wr.cell? ⟨k, o, none⟩ := fun k o hk =>
    World.cell?_of_block (w := wr) (a := ⟨k, o, none⟩) (Below.heap_setCell _ _ _ _ (by simp; omega))
  exact ⟨a1.setCell (by simp; omega) _, by simp [World.setCell, a2], (ne _ _ (by omega)).trans a3, (ne _ _ (by omega)).trans a4, (ne _ _ (by omega)).trans a5, (ne _ _ (by omega)).trans a6, (ne _ _ (by omega)).trans a7,
    fun j hj => ⟨(ne _ _ (by omega)).trans (a8 j hj).1, by rw [World.frozen?_setCell]; exact (a8 j hj).2⟩, World.cell?_setCell_same _ _ _ a9, by rw [World.frozen?_setCell]; exact a10⟩
theorem St.drew {first long : Int} {g0 : Nat} {l0 : Array Value} {g1 : Nat} {l1 : Array Value} {n b h : Nat} {c : Int} {w wr : World} (s : St first long g0 l0 g1 l1 n b h c w wr) : St first long g0 l0 g1 l1 n b h c w wr.drew := by
  obtain ⟨a1, a2, a3, a4, a5, a6, a7, a8, a9, a10⟩ := s
  exact ⟨a1.drew, a2, a3, a4, a5, a6, a7, a8, a9, a10⟩
end Go.Proofs.YtgbbplkpepaidaaGreatDoor
