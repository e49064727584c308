/-
  Seals in plain words: where runs of one epoch end, and how many unlike epochs a log that rises has. No program in this text.
-/
import Derived.Test.YtffjijgmjbhhoaaLsMath
namespace Go.Proofs.Ytffjijgmjbhhoaa
/-- The seal ahead of the one at a place: 0, if there is none. -/
def prevS (S : List Int) (i : Nat) : Int := if i = 0 then 0 else S.getD (i - 1) 0
def SealInv (es : List En) (S : List Int) (k : Nat) : Prop :=
  (∀ i, i < S.length → ∃ p q : Nat, prevS S i = (p : Int) ∧ S.getD i 0 = (q : Int) ∧ p < q ∧ q ≤ k ∧ (0 < p → epA es p ≠ epA es (p - 1)) ∧ ∀ j, p ≤ j → j < q → epA es j = epA es p) ∧
  ∃ p : Nat, prevS S S.length = (p : Int) ∧ p ≤ k ∧ (0 < p → sealB es p = true) ∧ ∀ j, p < j → j ≤ k → sealB es j = false
theorem prevS_next (S : List Int) (i : Nat) : prevS S (i + 1) = S.getD i 0 := rfl
theorem getD_left {S : List Int} {x : Int} {i : Nat} (h : i < S.length) : (S ++ [x]).getD i 0 = S.getD i 0 := by simp [List.getD, List.getElem?_append_left h]
theorem getD_last (S : List Int) (x : Int) : (S ++ [x]).getD S.length 0 = x := by simp [List.getD]
theorem prevS_left {S : List Int} {x : Int} {i : Nat} (h : i ≤ S.length) : prevS (S ++ [x]) i = prevS S i := by
  unfold prevS
  by_cases h0 : i = 0
  · rw [if_pos h0, if_pos h0]
  · rw [if_neg h0, if_neg h0, getD_left (by omega)]
theorem run_same {es : List En} {p q : Nat} (hq : q ≤ es.length) (h : ∀ j, p < j → j < q → sealB es j = false) : ∀ j, p ≤ j → j < q → epA es j = epA es p := by
  intro j
  induction j with
  | zero => intro h1 _; exact congrArg (epA es) (by omega)
  | succ j ih =>
    intro h1 h2
    by_cases hp : p = j + 1
    · rw [hp]
    · have hs := h (j + 1) (by omega) h2
      simp only [sealB, decide_eq_false_iff_not, not_or, ne_eq, Decidable.not_not, Nat.add_sub_cancel] at hs
      rw [hs.2]
      exact ih (by omega) (by omega)
theorem seal_inv (es : List En) : ∀ k, k ≤ es.length → SealInv es (sls es k) k
  | 0, _ => ⟨fun i hi => by simp [sls] at hi, 0, by simp [prevS, sls], Nat.le_refl _, fun h => by omega, fun j h1 h2 => by omega⟩
  | k + 1, hk => by
    obtain ⟨h1, p, hp, hpk, hps, hno⟩ := seal_inv es k (by omega)
    by_cases hs : sealB es (k + 1) = true
    · rw [sls, if_pos hs]
      refine ⟨fun i hi => ?_, k + 1, ?_, Nat.le_refl _, fun _ => hs, fun j h1 h2 => by omega⟩
      · by_cases hil : i < (sls es k).length
        · obtain ⟨a, b, e1, e2, e3, e4, e5, e6⟩ := h1 i hil
          exact ⟨a, b, by rw [prevS_left (by omega), e1], by rw [getD_left hil, e2], e3, by omega, e5, e6⟩
        · have hi' : i = (sls es k).length := by simp at hi; omega
          subst hi'
          refine ⟨p, k + 1, by rw [prevS_left (Nat.le_refl _), hp], by rw [getD_last], by omega, Nat.le_refl _, fun h0 => ?_, run_same hk fun j h1 h2 => hno j h1 (by omega)⟩
          have h := hps h0
          simp only [sealB, decide_eq_true_eq] at h
          rcases h with h | h
          · omega
          · exact h
      · rw [List.length_append, List.length_singleton, prevS_next, getD_last]
    · have hs' : sealB es (k + 1) = false := by simpa using hs
      rw [sls, if_neg hs]
      refine ⟨fun i hi => ?_, p, hp, by omega, hps, fun j h1 h2 => ?_⟩
      · obtain ⟨a, b, e1, e2, e3, e4, e5, e6⟩ := h1 i hi
        exact ⟨a, b, e1, e2, e3, by omega, e5, e6⟩
      · by_cases hj : j = k + 1
        · rw [hj]; exact hs'
        · exact hno j h1 (by omega)
theorem seal_len (es : List En) : sealB es es.length = true := by simp [sealB]
/-- The last seal is the log's end. -/
theorem seals_end (es : List En) : prevS (seals es) (seals es).length = (es.length : Int) := by
  obtain ⟨_, p, hp, hpk, _, hno⟩ := seal_inv es es.length (Nat.le_refl _)
  rw [show seals es = sls es es.length from rfl, hp]
  by_cases h : p = es.length
  · rw [h]
  · have := hno es.length (by omega) (Nat.le_refl _)
    rw [seal_len] at this
    cases this
theorem seals_at (es : List En) : ∀ i, i < (seals es).length → ∃ p q : Nat, prevS (seals es) i = (p : Int) ∧ (seals es).getD i 0 = (q : Int) ∧ p < q ∧ q ≤ es.length ∧ (0 < p → epA es p ≠ epA es (p - 1)) ∧ ∀ j, p ≤ j → j < q → epA es j = epA es p :=
  (seal_inv es es.length (Nat.le_refl _)).1
theorem seals_two {es : List En} (h : risB es = false) : 1 < (seals es).length := by
  simp only [risB, decide_eq_false_iff_not, Classical.not_forall] at h
  obtain ⟨i, hi, hlt⟩ := h
  have he := seals_end es
  rcases Nat.lt_or_ge 1 (seals es).length with h1 | h1
  · exact h1
  · rcases (show (seals es).length = 0 ∨ (seals es).length = 1 by omega) with h0 | h0
    · rw [h0] at he
      simp [prevS] at he
      omega
    · obtain ⟨p, q, e1, e2, _, _, _, e6⟩ := seals_at es 0 (by omega)
      rw [h0] at he
      rw [prevS_next] at he
      have hp : p = 0 := by simp [prevS] at e1; omega
      have hq : q = es.length := by omega
      subst hp hq
      exact absurd (by rw [e6 i (by omega) (by omega), e6 (i + 1) (by omega) (by omega)]; exact Int.le_refl _) hlt
theorem rise_mono {es : List En} (h : risB es = true) : ∀ j i, i ≤ j → j < es.length → epA es i ≤ epA es j := by
  simp only [risB, decide_eq_true_eq] at h
  intro j
  induction j with
  | zero => intro i h1 _; exact Int.le_of_eq (congrArg (epA es) (by omega))
  | succ j ih =>
    intro i h1 h2
    by_cases hi : i = j + 1
    · rw [hi]; exact Int.le_refl _
    · exact Int.le_trans (ih i (by omega) (by omega)) (h j (by omega))
/-- Whether the epoch at a place came among the first so many. -/
def cameB (es : List En) (i m : Nat) : Bool := (List.range m).any fun j => epA es j == epA es i
theorem cameB_zero (es : List En) (i : Nat) : cameB es i 0 = false := rfl
theorem cameB_next (es : List En) (i m : Nat) : cameB es i (m + 1) = (cameB es i m || (epA es m == epA es i)) := by simp [cameB, List.range_succ]
theorem cameB_is {es : List En} (h : risB es = true) {i : Nat} (h0 : 0 < i) (hi : i < es.length) : cameB es i i = !(sealB es i) := by
  by_cases hs : sealB es i = true
  · rw [hs]
    simp only [cameB, List.any_eq_false, List.mem_range, Bool.not_true, beq_iff_eq]
    intro j hj
    simp only [sealB, decide_eq_true_eq] at hs
    have h1 := rise_mono h (i - 1) j (by omega) (by omega)
    have h2 := rise_mono h i (i - 1) (by omega) hi
    rcases hs with hs | hs
    · omega
    · omega
  · have hs' : sealB es i = false := by simpa using hs
    rw [hs']
    simp only [sealB, decide_eq_false_iff_not, not_or, ne_eq, Decidable.not_not] at hs'
    simp only [cameB, Bool.not_false, List.any_eq_true, List.mem_range, beq_iff_eq]
    exact ⟨i - 1, by omega, hs'.2.symm⟩
/-- How many unlike epochs the first so many entries have. -/
def unl (es : List En) (k : Nat) : Nat := if k = 0 then 0 else (sls es (k - 1)).length + 1
theorem unl_next {es : List En} (h : risB es = true) {k : Nat} (hk : k < es.length) : unl es (k + 1) = if cameB es k k = true then unl es k else unl es k + 1 := by
  rcases Nat.eq_zero_or_pos k with h0 | h0
  · subst h0; simp [unl, cameB_zero, sls]
  · rw [cameB_is h h0 hk]
    obtain ⟨j, rfl⟩ : ∃ j, k = j + 1 := ⟨k - 1, by omega⟩
    simp only [unl, Nat.add_sub_cancel, Nat.add_eq_zero_iff, Nat.one_ne_zero, and_false, if_false]
    rw [sls]
    cases sealB es (j + 1) <;> simp
theorem unl_end (es : List En) : unl es es.length = (seals es).length := by
  unfold unl seals
  rcases Nat.eq_zero_or_pos es.length with h0 | h0
  · rw [if_pos h0, h0]; rfl
  · rw [if_neg (by omega)]
    obtain ⟨j, hj⟩ : ∃ j, es.length = j + 1 := ⟨es.length - 1, by omega⟩
    have hs := seal_len es
    rw [hj] at hs ⊢
    rw [Nat.add_sub_cancel, sls, if_pos hs]
    simp
end Go.Proofs.Ytffjijgmjbhhoaa
