/-
  Plain mathematics: rounds, in each of which all clocks go on by one, in whatever order. No program in this text.
-/
import Derived.Test.YtljlighgjjiagaaKSum
namespace Clo
/-- Behind k steps of round i, of n clocks, where 'st' tells whose turn it is. -/
structure Rd (n : Nat) (st : Nat → Nat) (i k : Nat) (C : Cs) : Prop where
  good : Good C
  len : C.l.length = n
  ahead : ∀ m, m < n → (∃ k', k' < k ∧ st k' = m) → C.l.getD m 0 = (i : Int) + 1
  behind : ∀ m, m < n → (∀ k', k' < k → st k' ≠ m) → C.l.getD m 0 = (i : Int)
  w : C.w = if i = 0 ∧ k = 0 then 0 else 1
theorem Rd.each {n : Nat} {st : Nat → Nat} {i k : Nat} {C : Cs} (h : Rd n st i k C) {m : Nat} (hm : m < n) : (i : Int) ≤ C.l.getD m 0 ∧ C.l.getD m 0 ≤ (i : Int) + 1 := by
  by_cases hx : ∃ k', k' < k ∧ st k' = m
  · rw [h.ahead m hm hx]; omega
  · rw [h.behind m hm fun k' hk e => hx ⟨k', hk, e⟩]; omega
theorem Rd.skew {n : Nat} {st : Nat → Nat} {i k : Nat} {C : Cs} (h : Rd n st i k C) : Clo.skew C.l ≤ 1 := by
  obtain ⟨a, b, ha, hb, e⟩ := skew_two (l := C.l) (by have := h.good.n2; omega)
  rw [h.len] at ha hb
  have h1 := h.each ha
  have h2 := h.each hb
  omega
theorem Rd.step {n : Nat} {st : Nat → Nat} {i k : Nat} {C : Cs} (h : Rd n st i k C) (hk : k < n) (hi : i ≤ 1000) (hst : ∀ k, k < n → st k < n) (hinj : ∀ a b, a < n → b < n → st a = st b → a = b) :
    ticked C (st k : Int) = (tick C (st k), 0) ∧ Rd n st i (k + 1) (tick C (st k)) := by
  have hsk := hst k hk
  have hsl : st k < C.l.length := by rw [h.len]; exact hsk
  have hv : C.l.getD (st k) 0 = (i : Int) := h.behind _ hsk fun k' hk' e => by have := hinj k' k (by omega) hk e; omega
  have hne : C.l.getD (st k) 0 ≠ 1073741824 := by rw [hv]; omega
  have hg := h.good.tick hsl hne
  have hget : ∀ m, (tick C (st k)).l.getD m 0 = if m = st k then (i : Int) + 1 else C.l.getD m 0 := fun m => by
    show (C.l.set (st k) (C.l.getD (st k) 0 + 1)).getD m 0 = _
    rw [getD_set hsl, hv]
  have hlen : (tick C (st k)).l.length = n := by show (C.l.set _ _).length = n; rw [List.length_set, h.len]
  have hah : ∀ m, m < n → (∃ k', k' < k + 1 ∧ st k' = m) → (tick C (st k)).l.getD m 0 = (i : Int) + 1 := fun m hm ⟨k', hk', e⟩ => by
    rw [hget]
    by_cases hms : m = st k
    · rw [if_pos hms]
    · rw [if_neg hms]
      refine h.ahead m hm ⟨k', ?_, e⟩
      rcases Nat.lt_or_ge k' k with g | g
      · exact g
      · obtain rfl : k' = k := by omega
        exact absurd e.symm hms
  have hbe : ∀ m, m < n → (∀ k', k' < k + 1 → st k' ≠ m) → (tick C (st k)).l.getD m 0 = (i : Int) := fun m hm hx => by
    rw [hget, if_neg fun e => hx k (by omega) e.symm]
    exact h.behind m hm fun k' hk' => hx k' (by omega)
  refine ⟨ticked_ok hsl hne, hg, hlen, hah, hbe, ?_⟩
  rw [if_neg (by omega)]
  have hw : (tick C (st k)).w = max C.w (Clo.skew (tick C (st k)).l) := rfl
  have hsk1 : Clo.skew (tick C (st k)).l ≤ 1 := by
    obtain ⟨a, b, ha, hb, e⟩ := skew_two (l := (tick C (st k)).l) (by have := hg.n2; omega)
    rw [hlen] at ha hb
    have each : ∀ m, m < n → (i : Int) ≤ (tick C (st k)).l.getD m 0 ∧ (tick C (st k)).l.getD m 0 ≤ (i : Int) + 1 := fun m hm => by
      have := h.each hm
      rw [hget]
      split <;> omega
    have h1 := each a ha
    have h2 := each b hb
    omega
  rw [hw, h.w]
  by_cases h0 : i = 0 ∧ k = 0
  · rw [if_pos h0]
    have hn2 := h.good.n2
    rw [h.len] at hn2
    obtain ⟨m, hm, hms⟩ : ∃ m, m < n ∧ m ≠ st k := by
      by_cases hz : st k = 0
      · exact ⟨1, by omega, by omega⟩
      · exact ⟨0, by omega, fun e => hz e.symm⟩
    have h1 := skew_all (l := (tick C (st k)).l) (i := st k) (k := m) (by rw [hlen]; exact hsk) (by rw [hlen]; exact hm)
    rw [hget, if_pos rfl, hbe m hm fun k' hk' e => hms (by
      obtain rfl : k' = k := by omega
      exact e.symm)] at h1
    omega
  · rw [if_neg h0]; omega
/-- Whose turn it is. -/
def turn (n x : Nat) (k : Nat) : Nat := if 128 ≤ x then n - 1 - (k + x) % n else (k + x) % n
theorem turn_lt {n x k : Nat} (h : 2 ≤ n) : turn n x k < n := by
  have := Nat.mod_lt (k + x) (show 0 < n by omega)
  unfold turn
  split <;> omega
theorem turn_inj {n x : Nat} (h1 : 2 ≤ n) (h2 : n ≤ 7) {a b : Nat} (ha : a < n) (hb : b < n) (e : turn n x a = turn n x b) : a = b := by
  have ga := Nat.mod_lt (a + x) (show 0 < n by omega)
  have gb := Nat.mod_lt (b + x) (show 0 < n by omega)
  have e' : (a + x) % n = (b + x) % n := by
    unfold turn at e
    split at e <;> omega
  clear e
  obtain rfl | rfl | rfl | rfl | rfl | rfl : n = 2 ∨ n = 3 ∨ n = 4 ∨ n = 5 ∨ n = 6 ∨ n = 7 := by omega
  all_goals omega
theorem turn_all {n x : Nat} (h1 : 2 ≤ n) (h2 : n ≤ 7) {m : Nat} (hm : m < n) : ∃ k, k < n ∧ turn n x k = m := by
  by_cases hx : 128 ≤ x
  · refine ⟨(n - 1 - m + (n - x % n)) % n, Nat.mod_lt _ (by omega), ?_⟩
    unfold turn
    rw [if_pos hx]
    obtain rfl | rfl | rfl | rfl | rfl | rfl : n = 2 ∨ n = 3 ∨ n = 4 ∨ n = 5 ∨ n = 6 ∨ n = 7 := by omega
    all_goals omega
  · refine ⟨(m + (n - x % n)) % n, Nat.mod_lt _ (by omega), ?_⟩
    unfold turn
    rw [if_neg hx]
    obtain rfl | rfl | rfl | rfl | rfl | rfl : n = 2 ∨ n = 3 ∨ n = 4 ∨ n = 5 ∨ n = 6 ∨ n = 7 := by omega
    all_goals omega
/-- A whole round. -/
theorem Rd.round {n x : Nat} {i : Nat} {C : Cs} (h1 : 2 ≤ n) (h2 : n ≤ 7) (h : Rd n (turn n x) i n C) (st : Nat → Nat) : Rd n st (i + 1) 0 C ∧ Clo.skew C.l = 0 := by
  have hall : ∀ m, m < n → C.l.getD m 0 = (i : Int) + 1 := fun m hm => h.ahead m hm (turn_all h1 h2 hm)
  refine ⟨⟨h.good, h.len, fun m _ ⟨k', hk, _⟩ => by omega, fun m hm _ => by rw [hall m hm]; omega, by rw [h.w, if_neg (by omega), if_neg (by omega)]⟩, ?_⟩
  refine skew_is (a := 0) (b := 0) (by rw [h.len]; omega) (by rw [h.len]; omega) (by omega) fun a b ha hb => ?_
  rw [h.len] at ha hb
  rw [hall a ha, hall b hb]; omega
theorem Rd.other {n : Nat} {st : Nat → Nat} {i : Nat} {C : Cs} (h : Rd n st i 0 C) (st' : Nat → Nat) : Rd n st' i 0 C :=
  ⟨h.good, h.len, fun _ _ ⟨k', hk, _⟩ => by omega, fun m hm _ => h.behind m hm fun k' hk => by omega, h.w⟩
theorem Rd.new {n : Nat} (h1 : 2 ≤ n) (h2 : n ≤ 7) (st : Nat → Nat) : Rd n st 0 0 (Clo.new n) :=
  ⟨new_good h1 h2, by simp [Clo.new], fun _ _ ⟨k', hk, _⟩ => by omega, fun m _ _ => by simp [Clo.new, List.getD, List.getElem?_replicate]; split <;> rfl, by simp [Clo.new]⟩
end Clo
