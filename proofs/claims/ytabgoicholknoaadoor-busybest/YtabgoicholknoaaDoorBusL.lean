/- lists of numbers that rise: a number put in, lists sorted, filtered: plain mathematics. -/
import Derived.Test.YtabgoicholknoaaDoorProg
namespace Go.Proofs.YtabgoicholknoaaDoor
set_option linter.unusedVariables false
set_option linter.unusedSimpArgs false

/-- a number put into a list that rises -/
def putL : List Int → Int → List Int
  | [], n => [n]
  | x :: l, n => if x < n then x :: putL l n else if x = n then x :: l else n :: x :: l
def Asc (l : List Int) : Prop := l.Pairwise (· < ·)
theorem putL_mem : ∀ (l : List Int) (n a : Int), a ∈ putL l n ↔ a = n ∨ a ∈ l
  | [], n, a => by simp [putL]
  | x :: l, n, a => by
    rw [putL]
    split
    · rw [List.mem_cons, putL_mem l n a, List.mem_cons]; constructor <;> (intro h; rcases h with h | h | h <;> simp [h])
    · split
      · rename_i h1 h2; subst h2; simp
      · simp
theorem putL_asc : ∀ (l : List Int) (n : Int), Asc l → Asc (putL l n)
  | [], n, _ => by simp [putL, Asc]
  | x :: l, n, h => by
    have h' := List.pairwise_cons.1 h
    rw [putL]
    split
    · rename_i hx
      refine List.pairwise_cons.2 ⟨fun a ha => ?_, putL_asc l n h'.2⟩
      rcases (putL_mem l n a).1 ha with e | e
      · omega
      · exact h'.1 a e
    · split
      · exact h
      · rename_i h1 h2
        refine List.pairwise_cons.2 ⟨fun a ha => ?_, h⟩
        rcases List.mem_cons.1 ha with e | e
        · omega
        · have := h'.1 a e; omega
theorem asc_ext : ∀ (l m : List Int), Asc l → Asc m → (∀ a, a ∈ l ↔ a ∈ m) → l = m
  | [], [], _, _, _ => rfl
  | [], y :: m, _, _, h => by have := (h y).2 (by simp); simp at this
  | x :: l, [], _, _, h => by have := (h x).1 (by simp); simp at this
  | x :: l, y :: m, hl, hm, h => by
    have hl' := List.pairwise_cons.1 hl
    have hm' := List.pairwise_cons.1 hm
    have hxy : x = y := by
      rcases List.mem_cons.1 ((h x).1 (by simp)) with e | e
      · exact e
      · rcases List.mem_cons.1 ((h y).2 (by simp)) with e' | e'
        · exact e'.symm
        · have := hl'.1 y e'; have := hm'.1 x e; omega
    subst hxy
    rw [asc_ext l m hl'.2 hm'.2 fun a => ?_]
    constructor
    · intro ha
      rcases List.mem_cons.1 ((h a).1 (by simp [ha])) with e | e
      · have := hl'.1 a ha; omega
      · exact e
    · intro ha
      rcases List.mem_cons.1 ((h a).2 (by simp [ha])) with e | e
      · have := hm'.1 a ha; omega
      · exact e
/-- who of some people can't: rising -/
def msP (bad : Int → Bool) (l : List Int) : List Int := (l.filter bad).foldl putL []
theorem foldPut_mem : ∀ (l acc : List Int) (a : Int), a ∈ l.foldl putL acc ↔ a ∈ acc ∨ a ∈ l
  | [], acc, a => by simp
  | x :: l, acc, a => by
    rw [List.foldl_cons, foldPut_mem l, putL_mem]
    simp only [List.mem_cons]
    constructor
    · rintro ((h | h) | h) <;> simp [h]
    · rintro (h | h | h) <;> simp [h]
theorem foldPut_asc : ∀ (l acc : List Int), Asc acc → Asc (l.foldl putL acc)
  | [], acc, h => h
  | x :: l, acc, h => foldPut_asc l _ (putL_asc acc x h)
theorem msP_mem (bad : Int → Bool) (l : List Int) (a : Int) : a ∈ msP bad l ↔ a ∈ l ∧ bad a = true := by
  unfold msP; rw [foldPut_mem]; simp
theorem msP_asc (bad : Int → Bool) (l : List Int) : Asc (msP bad l) := foldPut_asc _ _ List.Pairwise.nil
/-- a list without repeats, sorted, is the list put together -/
theorem sorted_ms (bad : Int → Bool) (l s : List Int) (hd : l.Nodup) (hs : s.Pairwise (· ≤ ·)) (hp : s.Perm (l.filter bad)) : s = msP bad l := by
  have hn : s.Nodup := hp.nodup_iff.2 (hd.filter _)
  have ha : Asc s := by
    refine List.Pairwise.imp₂ (fun a b h1 h2 => ?_) hs hn
    omega
  refine asc_ext _ _ ha (msP_asc bad l) fun a => ?_
  rw [msP_mem, hp.mem_iff, List.mem_filter]

end Go.Proofs.YtabgoicholknoaaDoor
