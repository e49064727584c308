/-
  Plain mathematics of clocks: the greatest and the least of some, how far they are apart, what a tick does. No program in this text.
-/
import Derived.IntWalk
namespace Clo
/-- The greatest of some numbers. -/
def top : List Int → Int
  | [] => 0
  | x :: l => l.foldl max x
/-- The least of some numbers. -/
def low : List Int → Int
  | [] => 0
  | x :: l => l.foldl min x
/-- How far the first is ahead of the last. -/
def skew (l : List Int) : Int := top l - low l
theorem foldl_max (l : List Int) : ∀ x : Int, (l.foldl max x = x ∨ l.foldl max x ∈ l) ∧ x ≤ l.foldl max x ∧ ∀ y ∈ l, y ≤ l.foldl max x := by
  induction l with
  | nil => intro x; exact ⟨.inl rfl, Int.le_refl _, fun y h => by cases h⟩
  | cons a l ih =>
    intro x
    obtain ⟨h1, h2, h3⟩ := ih (max x a)
    simp only [List.foldl_cons]
    refine ⟨?_, by omega, fun y hy => ?_⟩
    · rcases h1 with h | h
      · rw [h]
        rcases Int.le_total x a with g | g
        · rw [Int.max_eq_right g]; exact .inr (List.mem_cons_self ..)
        · rw [Int.max_eq_left g]; exact .inl rfl
      · exact .inr (List.mem_cons_of_mem _ h)
    · rcases List.mem_cons.1 hy with rfl | hy
      · omega
      · exact h3 y hy
theorem foldl_min (l : List Int) : ∀ x : Int, (l.foldl min x = x ∨ l.foldl min x ∈ l) ∧ l.foldl min x ≤ x ∧ ∀ y ∈ l, l.foldl min x ≤ y := by
  induction l with
  | nil => intro x; exact ⟨.inl rfl, Int.le_refl _, fun y h => by cases h⟩
  | cons a l ih =>
    intro x
    obtain ⟨h1, h2, h3⟩ := ih (min x a)
    simp only [List.foldl_cons]
    refine ⟨?_, by omega, fun y hy => ?_⟩
    · rcases h1 with h | h
      · rw [h]
        rcases Int.le_total x a with g | g
        · rw [Int.min_eq_left g]; exact .inl rfl
        · rw [Int.min_eq_right g]; exact .inr (List.mem_cons_self ..)
      · exact .inr (List.mem_cons_of_mem _ h)
    · rcases List.mem_cons.1 hy with rfl | hy
      · omega
      · exact h3 y hy
theorem top_mem {l : List Int} (h : 0 < l.length) : top l ∈ l := by
  rcases l with _ | ⟨x, l⟩
  · simp at h
  · rcases (foldl_max l x).1 with e | e
    · show l.foldl max x ∈ x :: l
      rw [e]; exact List.mem_cons_self ..
    · exact List.mem_cons_of_mem _ e
theorem low_mem {l : List Int} (h : 0 < l.length) : low l ∈ l := by
  rcases l with _ | ⟨x, l⟩
  · simp at h
  · rcases (foldl_min l x).1 with e | e
    · show l.foldl min x ∈ x :: l
      rw [e]; exact List.mem_cons_self ..
    · exact List.mem_cons_of_mem _ e
theorem le_top {l : List Int} {x : Int} (h : x ∈ l) : x ≤ top l := by
  rcases l with _ | ⟨a, l⟩
  · cases h
  · rcases List.mem_cons.1 h with rfl | h
    · exact (foldl_max l x).2.1
    · exact (foldl_max l a).2.2 x h
theorem low_le {l : List Int} {x : Int} (h : x ∈ l) : low l ≤ x := by
  rcases l with _ | ⟨a, l⟩
  · cases h
  · rcases List.mem_cons.1 h with rfl | h
    · exact (foldl_min l x).2.1
    · exact (foldl_min l a).2.2 x h
theorem getD_mem {l : List Int} {i : Nat} (h : i < l.length) : l.getD i 0 ∈ l := by
  rw [List.getD, List.getElem?_eq_getElem h]; exact List.getElem_mem h
theorem mem_getD {l : List Int} {x : Int} (h : x ∈ l) : ∃ i, i < l.length ∧ l.getD i 0 = x := by
  obtain ⟨i, hi, rfl⟩ := List.getElem_of_mem h
  exact ⟨i, hi, by rw [List.getD, List.getElem?_eq_getElem hi]; rfl⟩
theorem top_is {l : List Int} {m : Int} (h1 : m ∈ l) (h2 : ∀ i, i < l.length → l.getD i 0 ≤ m) : top l = m := by
  have := le_top h1
  obtain ⟨i, hi, e⟩ := mem_getD (top_mem (List.length_pos_of_mem h1))
  have := h2 i hi
  omega
theorem low_is {l : List Int} {m : Int} (h1 : m ∈ l) (h2 : ∀ i, i < l.length → m ≤ l.getD i 0) : low l = m := by
  have := low_le h1
  obtain ⟨i, hi, e⟩ := mem_getD (low_mem (List.length_pos_of_mem h1))
  have := h2 i hi
  omega
theorem skew_is {l : List Int} {n : Int} {a b : Nat} (ha : a < l.length) (hb : b < l.length) (e : n = l.getD a 0 - l.getD b 0) (h : ∀ i k, i < l.length → k < l.length → l.getD i 0 - l.getD k 0 ≤ n) : skew l = n := by
  have h0 : 0 < l.length := by omega
  obtain ⟨i, hi, e1⟩ := mem_getD (top_mem h0)
  obtain ⟨k, hk, e2⟩ := mem_getD (low_mem h0)
  have h1 := h i k hi hk
  have h2 := le_top (getD_mem ha)
  have h3 := low_le (getD_mem hb)
  unfold skew
  omega
theorem skew_all {l : List Int} {i k : Nat} (hi : i < l.length) (hk : k < l.length) : l.getD i 0 - l.getD k 0 ≤ skew l := by
  have h2 := le_top (getD_mem hi)
  have h3 := low_le (getD_mem hk)
  unfold skew
  omega
theorem skew_two {l : List Int} (h0 : 0 < l.length) : ∃ a b, a < l.length ∧ b < l.length ∧ skew l = l.getD a 0 - l.getD b 0 := by
  obtain ⟨i, hi, e1⟩ := mem_getD (top_mem h0)
  obtain ⟨k, hk, e2⟩ := mem_getD (low_mem h0)
  exact ⟨i, k, hi, hk, by unfold skew; omega⟩
/-- Clocks: where they are, and the worst skew. -/
structure Cs where
  l : List Int
  w : Int
/-- What clocks keep. -/
structure Good (C : Cs) : Prop where
  n2 : 2 ≤ C.l.length
  n7 : C.l.length ≤ 7
  r : ∀ x ∈ C.l, 0 ≤ x ∧ x ≤ 1073741824
  w0 : 0 ≤ C.w
  w1 : C.w ≤ 1073741824
def new (n : Nat) : Cs := ⟨List.replicate n 0, 0⟩
theorem new_good {n : Nat} (h1 : 2 ≤ n) (h2 : n ≤ 7) : Good (new n) :=
  ⟨by simp [new]; exact h1, by simp [new]; exact h2, fun x hx => by simp [new] at hx; omega, by simp [new], by simp [new]⟩
theorem Good.at_ {C : Cs} (h : Good C) {i : Nat} (hi : i < C.l.length) : 0 ≤ C.l.getD i 0 ∧ C.l.getD i 0 ≤ 1073741824 := h.r _ (getD_mem hi)
theorem Good.skew {C : Cs} (h : Good C) : 0 ≤ skew C.l ∧ skew C.l ≤ 1073741824 := by
  have h0 : 0 < C.l.length := by have := h.n2; omega
  have h1 := h.r _ (top_mem h0)
  have h2 := h.r _ (low_mem h0)
  have h3 := low_le (top_mem h0)
  unfold Clo.skew
  omega
/-- A clock that goes on. -/
def tick (C : Cs) (i : Nat) : Cs := ⟨C.l.set i (C.l.getD i 0 + 1), max C.w (skew (C.l.set i (C.l.getD i 0 + 1)))⟩
theorem set_mem {l : List Int} {i : Nat} {y x : Int} (h : x ∈ l.set i y) : x = y ∨ x ∈ l := by
  rcases List.mem_or_eq_of_mem_set h with h | h
  · exact .inr h
  · exact .inl h
theorem Good.tick {C : Cs} (h : Good C) {i : Nat} (hi : i < C.l.length) (hl : C.l.getD i 0 ≠ 1073741824) : Good (tick C i) := by
  have hx := h.at_ hi
  have g : Good ⟨C.l.set i (C.l.getD i 0 + 1), C.w⟩ := ⟨by simpa using h.n2, by simpa using h.n7, fun x hx' => by
    rcases set_mem hx' with e | e
    · omega
    · exact h.r x e, h.w0, h.w1⟩
  have := g.skew
  have := h.w0
  have := h.w1
  exact ⟨g.n2, g.n7, g.r, by simp only [Clo.tick] at *; omega, by simp only [Clo.tick] at *; omega⟩
/-- What Tick answers, and leaves. -/
def ticked (C : Cs) (s : Int) : Cs × Int :=
  if 0 ≤ s ∧ s < (C.l.length : Int) then (if C.l.getD s.toNat 0 = 1073741824 then (C, 3) else (tick C s.toNat, 0)) else (C, 2)
theorem ticked_no {C : Cs} {s : Int} (h : ¬ (0 ≤ s ∧ s < (C.l.length : Int))) : ticked C s = (C, 2) := if_neg h
theorem ticked_full {C : Cs} {i : Nat} (h : i < C.l.length) (e : C.l.getD i 0 = 1073741824) : ticked C (i : Int) = (C, 3) := by
  unfold ticked; rw [if_pos (by omega), Int.toNat_natCast, if_pos e]
theorem ticked_ok {C : Cs} {i : Nat} (h : i < C.l.length) (e : C.l.getD i 0 ≠ 1073741824) : ticked C (i : Int) = (tick C i, 0) := by
  unfold ticked; rw [if_pos (by omega), Int.toNat_natCast, if_neg e]
theorem Good.ticked {C : Cs} (h : Good C) (s : Int) : Good (ticked C s).1 ∧ (ticked C s).1.l.length = C.l.length := by
  unfold Clo.ticked
  split
  · split
    · exact ⟨h, rfl⟩
    · rename_i g1 g2
      exact ⟨h.tick (by omega) g2, by simp [Clo.tick]⟩
  · exact ⟨h, rfl⟩
/-- What At answers. -/
def at_ (C : Cs) (s : Int) : Int × Int := if 0 ≤ s ∧ s < (C.l.length : Int) then (C.l.getD s.toNat 0, 0) else (0, 2)
theorem at_no {C : Cs} {s : Int} (h : ¬ (0 ≤ s ∧ s < (C.l.length : Int))) : at_ C s = (0, 2) := if_neg h
theorem at_ok {C : Cs} {i : Nat} (h : i < C.l.length) : at_ C (i : Int) = (C.l.getD i 0, 0) := by
  unfold at_; rw [if_pos (by omega), Int.toNat_natCast]
theorem site_split (s : Int) (n : Nat) : (∃ i : Nat, s = (i : Int) ∧ i < n) ∨ ¬ (0 ≤ s ∧ s < (n : Int)) := by
  by_cases h : 0 ≤ s ∧ s < (n : Int)
  · exact .inl ⟨s.toNat, by omega, by omega⟩
  · exact .inr h
end Clo
