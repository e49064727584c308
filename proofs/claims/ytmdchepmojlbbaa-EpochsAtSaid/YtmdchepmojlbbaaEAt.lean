/-
  Plain mathematics of what a majority is at: it hangs on no order, and a number that is raised does not lower it. No program in this text.
-/
import Derived.Test.YtmdchepmojlbbaaEMath
namespace Epo
theorem most_perm {l l' : List Int} (h : l.Perm l') (n : Int) : most l n = most l' n := by
  have hl := h.length_eq
  by_cases hc : 2 ≤ n ∧ n ≤ 7 ∧ (l.length : Int) ≤ n ∧ n / 2 + 1 ≤ (l.length : Int)
  · obtain ⟨h1, h2, h3, h4⟩ := hc
    have ha := place_at (l := l) (k := (n / 2 + 1).toNat) (by omega) (by omega)
    rw [most_is h1 h2 h3 h4 ha, most_is h1 h2 (by omega) (by omega) (ha.perm h)]
  · unfold most
    rw [if_neg hc, if_neg (by omega)]
theorem count_set (m y : Int) : ∀ (l : List Int) (i : Nat), l.getD i 0 ≤ y → l.countP (fun x => decide (m ≤ x)) ≤ (l.set i y).countP (fun x => decide (m ≤ x))
  | [], _, _ => by simp
  | x :: l, 0, h => by
    simp only [List.set_cons_zero, List.countP_cons]
    have h' : x ≤ y := by simpa using h
    by_cases hm : m ≤ x
    · rw [if_pos (by simpa using hm), if_pos (by simpa using Int.le_trans hm h')]; omega
    · rw [if_neg (by simpa using hm)]; split <;> omega
  | x :: l, i + 1, h => by
    simp only [List.set_cons_succ, List.countP_cons]
    have := count_set m y l i (by simpa using h)
    omega
theorem most_raise {l : List Int} {n : Int} {i : Nat} {y : Int} (h : (most l n).2 = true) (hy : l.getD i 0 ≤ y) :
    (most (l.set i y) n).2 = true ∧ (most l n).1 ≤ (most (l.set i y) n).1 := by
  obtain ⟨⟨h1, h2⟩, h3, h4, ha⟩ := most_yes h
  have hl : (l.set i y).length = l.length := List.length_set
  have hb := place_at (l := l.set i y) (k := (n / 2 + 1).toNat) (by omega) (by omega)
  have he := most_is h1 h2 (by omega) (by omega) hb
  rw [he]
  exact ⟨rfl, hb.top (Nat.le_trans ha.many (count_set _ y l i hy))⟩
theorem above_step (l : List Int) (x : Int) (k : Nat) (hk : k < l.length) : (l.take (k + 1)).countP (fun y => decide (x < y)) = (l.take k).countP (fun y => decide (x < y)) + (if x < l.getD k 0 then 1 else 0) := by
  rw [take_step hk, List.countP_append]
  simp [List.countP_cons]
theorem back_step {l : List Int} {j : Nat} (hj : j < l.length) : (l.drop j).reverse = (l.drop (j + 1)).reverse ++ [l.getD j 0] := by
  rw [List.drop_eq_getElem_cons hj, List.reverse_cons]; simp [List.getD, hj]
end Epo
