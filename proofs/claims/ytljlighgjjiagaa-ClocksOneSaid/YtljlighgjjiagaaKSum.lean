/-
  Plain mathematics: what one tick makes of the sum of clocks, and of how far they are apart. No program in this text.
-/
import Derived.Test.YtljlighgjjiagaaKMath
namespace Clo
theorem getD_set {l : List Int} {i k : Nat} (hi : i < l.length) (y : Int) : (l.set i y).getD k 0 = if k = i then y else l.getD k 0 := by
  by_cases h : k = i
  · subst h
    rw [if_pos rfl, List.getD, List.getElem?_set_self hi]; rfl
  · rw [if_neg h, List.getD, List.getElem?_set_ne (fun e => h e.symm)]; rfl
theorem sum_set : ∀ {l : List Int} {i : Nat} (_ : i < l.length) (y : Int), (l.set i y).sum = l.sum - l.getD i 0 + y
  | x :: l, 0, _, y => by simp [List.getD]; omega
  | x :: l, i + 1, h, y => by
    have := sum_set (l := l) (i := i) (by simpa using h) y
    simp only [List.set_cons_succ, List.sum_cons, this]
    simp [List.getD]; omega
theorem take_next {l : List Int} {j : Nat} (hj : j < l.length) : l.take (j + 1) = l.take j ++ [l.getD j 0] := by
  rw [List.take_succ_eq_append_getElem hj, List.getD, List.getElem?_eq_getElem hj]; rfl
theorem sum_take {l : List Int} {k : Nat} (hk : k < l.length) : (l.take (k + 1)).sum = (l.take k).sum + l.getD k 0 := by
  rw [take_next hk]; simp
theorem sum_pos : ∀ {l : List Int} (_ : ∀ x ∈ l, 0 ≤ x), 0 ≤ l.sum
  | [], _ => by simp
  | x :: l, h => by
    have := sum_pos (l := l) fun y hy => h y (List.mem_cons_of_mem _ hy)
    have := h x (List.mem_cons_self ..)
    simp; omega
theorem le_sum {l : List Int} (h : ∀ x ∈ l, 0 ≤ x) {i : Nat} (hi : i < l.length) : l.getD i 0 ≤ l.sum := by
  have h1 := sum_set hi 0
  have h2 : 0 ≤ (l.set i 0).sum := sum_pos fun x hx => by
    rcases set_mem hx with e | e
    · omega
    · exact h x e
  omega
theorem sum_take_le {l : List Int} (h : ∀ x ∈ l, 0 ≤ x) (k : Nat) : 0 ≤ (l.take k).sum ∧ (l.take k).sum ≤ l.sum := by
  have h1 := sum_pos (l := l.take k) fun x hx => h x (List.mem_of_mem_take hx)
  have h2 := sum_pos (l := l.drop k) fun x hx => h x (List.mem_of_mem_drop hx)
  have h3 : l.sum = (l.take k).sum + (l.drop k).sum := by rw [← List.sum_append, List.take_append_drop]
  omega
theorem skew_step {l : List Int} {i : Nat} (hi : i < l.length) : skew (l.set i (l.getD i 0 + 1)) ≤ skew l + 1 ∧ skew l - 1 ≤ skew (l.set i (l.getD i 0 + 1)) := by
  have hl : (l.set i (l.getD i 0 + 1)).length = l.length := List.length_set
  have hg := fun k => getD_set (k := k) hi (l.getD i 0 + 1)
  have h0 : 0 < l.length := by omega
  have each : ∀ k, l.getD k 0 ≤ (l.set i (l.getD i 0 + 1)).getD k 0 ∧ (l.set i (l.getD i 0 + 1)).getD k 0 ≤ l.getD k 0 + 1 := fun k => by
    rw [hg k]
    split
    · rename_i h; subst h; omega
    · omega
  obtain ⟨a, b, ha, hb, e⟩ := skew_two (l := l) h0
  obtain ⟨a', b', ha', hb', e'⟩ := skew_two (l := l.set i (l.getD i 0 + 1)) (by omega)
  have h1 := skew_all (l := l) (i := a') (k := b') (by omega) (by omega)
  have h2 := skew_all (l := l.set i (l.getD i 0 + 1)) (i := a) (k := b) (by omega) (by omega)
  have := each a
  have := each b
  have := each a'
  have := each b'
  omega
/-- What comes of a tick where no clock is at its end. -/
theorem one_tick {C : Cs} (h : Good C) (s : Int) (hd : C.l.sum < 1073741824) :
    (∃ j : Nat, s = (j : Int) ∧ j < C.l.length ∧ ticked C s = (tick C j, 0) ∧ (tick C j).l.sum = C.l.sum + 1 ∧ (∀ k, (tick C j).l.getD k 0 = if k = j then C.l.getD k 0 + 1 else C.l.getD k 0)) ∨
    (¬ (0 ≤ s ∧ s < (C.l.length : Int)) ∧ ticked C s = (C, 2)) := by
  rcases site_split s C.l.length with ⟨j, rfl, hj⟩ | hs
  · have h1 := le_sum (fun x hx => (h.r x hx).1) hj
    refine .inl ⟨j, rfl, hj, ticked_ok hj (by omega), ?_, fun k => ?_⟩
    · show (C.l.set j (C.l.getD j 0 + 1)).sum = _
      rw [sum_set hj]; omega
    · show (C.l.set j (C.l.getD j 0 + 1)).getD k 0 = _
      rw [getD_set hj]
      split
      · rename_i h; subst h; rfl
      · rfl
  · exact .inr ⟨hs, ticked_no hs⟩
end Clo
