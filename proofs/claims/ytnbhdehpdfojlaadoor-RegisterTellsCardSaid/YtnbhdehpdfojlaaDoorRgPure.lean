/-
  What follows of registers, in plain words: nothing falls, what is committed stays, a record a second time, the one record that says all, entries in pieces. No program in this text.
-/
import Derived.Test.YtnbhdehpdfojlaaDoorRgBhd
namespace Go.Proofs.YtnbhdehpdfojlaaDoor
theorem app_some {r a : Re} {x : Rx} (h : app r x = some a) : r.may = true ∧ (beh r x).2 = true ∧ a = (beh r x).1 ∧ a.may = true := by
  unfold app at h
  split at h
  · rename_i h1
    injection h with h
    exact ⟨h1.1, h1.2.1, h.symm, by rw [← h]; exact h1.2.2⟩
  · cases h
theorem app_of {r : Re} {x : Rx} (h1 : r.may = true) (h2 : (beh r x).2 = true) (h3 : (beh r x).1.may = true) : app r x = some (beh r x).1 := by
  unfold app
  rw [if_pos ⟨h1, h2, h3⟩]
theorem logB_nil {es : List En} (h : logB es 0 = true) : es = [] := by
  rcases es with _ | ⟨e, l⟩
  · rfl
  · simp only [logB, Bool.and_eq_true, List.all_eq_true, decide_eq_true_eq] at h
    have := (h.2.2 e (by simp)).1
    omega
theorem may_zero {r : Re} (h : r.may = true) (hp : r.p = 0) : r = Re.zero := by
  obtain ⟨p, v, es, m⟩ := r
  rw [Re.may_iff] at h
  dsimp only at h hp
  obtain ⟨h1, h2, h3, h4, h5, h6⟩ := h
  have hv : v = 0 := by omega
  subst hp hv
  obtain rfl := logB_nil h4
  have hm : m = 0 := by simp at h6; omega
  subst hm
  rfl
/-- From where on entries are kept. -/
def keepN (r a : Re) : Nat := if a.v = r.v then r.es.length else r.m.toNat
/-- How a record that comes changes a register. -/
theorem app_kinds {r a : Re} {x : Rx} (h : app r x = some a) :
    (x.ki = 1 ∧ r.p < x.ep ∧ a = ⟨x.ep, r.v, r.es, r.m⟩) ∨
    (x.ki = 2 ∧ 1 ≤ x.ep ∧ r.p ≤ x.ep ∧ x.fr = frm r x.ep ∧ a = ⟨x.ep, x.ep, r.es.take (frm r x.ep) ++ x.es, r.m⟩ ∧ r.es.take r.m.toNat <+: r.es.take (frm r x.ep) ++ x.es) ∨
    (x.ki = 3 ∧ r.m < x.le ∧ a = ⟨r.p, r.v, r.es, x.le⟩) ∨
    (x.ki = 4 ∧ r.p = 0 ∧ a = ⟨x.ep, x.vi, x.es, x.le⟩) := by
  obtain ⟨h1, h2, rfl, h4⟩ := app_some h
  unfold beh at h2 h4 ⊢
  by_cases k1 : x.ki = 1
  · rw [if_pos k1] at h2 ⊢
    exact .inl ⟨k1, of_decide_eq_true h2, rfl⟩
  rw [if_neg k1] at h2 h4 ⊢
  by_cases k2 : x.ki = 2
  · rw [if_pos k2] at h2 ⊢
    by_cases c : x.ep < 1 ∨ x.ep < r.p ∨ x.fr ≠ frm r x.ep
    · rw [if_pos c] at h2; cases h2
    · rw [if_neg c] at h2 ⊢
      simp only [not_or, ne_eq, Decidable.not_not] at c
      exact .inr (.inl ⟨k2, by omega, by omega, c.2.2, rfl, pre_iff.1 h2⟩)
  rw [if_neg k2] at h2 h4 ⊢
  by_cases k3 : x.ki = 3
  · rw [if_pos k3] at h2 ⊢
    exact .inr (.inr (.inl ⟨k3, of_decide_eq_true h2, rfl⟩))
  rw [if_neg k3] at h2 h4 ⊢
  by_cases k4 : x.ki = 4
  · rw [if_pos k4] at h2 ⊢
    exact .inr (.inr (.inr ⟨k4, of_decide_eq_true h2, rfl⟩))
  rw [if_neg k4] at h2
  cases h2
theorem app_up {r a : Re} {x : Rx} (h : app r x = some a) : r.p ≤ a.p ∧ r.v ≤ a.v ∧ r.m ≤ a.m := by
  obtain ⟨ha, hr⟩ := app_may h
  have h1 := (Re.may_iff r).1 hr
  have h2 := (Re.may_iff a).1 ha
  rcases app_kinds h with ⟨_, q, rfl⟩ | ⟨_, q1, q2, _, rfl, _⟩ | ⟨_, q, rfl⟩ | ⟨_, q, rfl⟩
  · dsimp only; omega
  · dsimp only; omega
  · dsimp only; omega
  · obtain rfl := may_zero hr q
    dsimp only [Re.zero] at h2 ⊢
    omega
theorem prefix_take {l k : List En} {n : Nat} (hn : n ≤ l.length) (h : l.take n <+: k) : n ≤ k.length ∧ k.take n = l.take n := by
  have hl : (l.take n).length = n := by simp [Nat.min_eq_left hn]
  have h1 := h.length_le
  rw [hl] at h1
  refine ⟨h1, ?_⟩
  have := List.prefix_iff_eq_take.1 h
  rw [hl] at this
  exact this.symm
theorem app_keep {r a : Re} {x : Rx} (h : app r x = some a) : keepN r a ≤ a.es.length ∧ keepN r a ≤ r.es.length ∧ a.es.take (keepN r a) = r.es.take (keepN r a) := by
  obtain ⟨ha, hr⟩ := app_may h
  have h1 := (Re.may_iff r).1 hr
  have hm : r.m.toNat ≤ r.es.length := by omega
  have hk : keepN r a ≤ r.es.length := by unfold keepN; split <;> omega
  rcases app_kinds h with ⟨_, q, rfl⟩ | ⟨_, q1, q2, q3, rfl, q4⟩ | ⟨_, q, rfl⟩ | ⟨_, q, rfl⟩
  · exact ⟨hk, hk, rfl⟩
  · have : keepN r ⟨x.ep, x.ep, r.es.take (frm r x.ep) ++ x.es, r.m⟩ ≤ (r.es.take (frm r x.ep) ++ x.es).length ∧ (r.es.take (frm r x.ep) ++ x.es).take (keepN r ⟨x.ep, x.ep, r.es.take (frm r x.ep) ++ x.es, r.m⟩) = r.es.take (keepN r ⟨x.ep, x.ep, r.es.take (frm r x.ep) ++ x.es, r.m⟩) := by
      unfold keepN
      by_cases c : x.ep = r.v
      · rw [if_pos c]
        have hf : frm r x.ep = r.es.length := by unfold frm; rw [if_neg (by omega)]
        rw [hf, List.take_length]
        exact ⟨by simp, by simp⟩
      · rw [if_neg c]
        exact prefix_take hm q4
    exact ⟨this.1, hk, this.2⟩
  · exact ⟨hk, hk, rfl⟩
  · obtain rfl := may_zero hr q
    have : keepN Re.zero ⟨x.ep, x.vi, x.es, x.le⟩ = 0 := by unfold keepN; split <;> rfl
    rw [this]
    exact ⟨Nat.zero_le _, Nat.zero_le _, rfl⟩
/-- A record a second time. -/
theorem app_twice {r a b : Re} {x : Rx} (h : app r x = some a) (h' : app a x = some b) : b = a := by
  obtain ⟨ha, hr⟩ := app_may h
  rcases app_kinds h with ⟨k, q, rfl⟩ | ⟨k, q1, q2, q3, rfl, q4⟩ | ⟨k, q, rfl⟩ | ⟨k, q, rfl⟩ <;>
    rcases app_kinds h' with ⟨k', p, rfl⟩ | ⟨k', p1, p2, p3, rfl, p4⟩ | ⟨k', p, rfl⟩ | ⟨k', p, rfl⟩ <;> dsimp only at * <;> try omega
  · have hf' : frm ⟨x.ep, x.ep, r.es.take (frm r x.ep) ++ x.es, r.m⟩ x.ep = (r.es.take (frm r x.ep) ++ x.es).length := by simp [frm]
    have hfl : frm r x.ep ≤ r.es.length := by unfold frm; split <;> omega
    rw [hf'] at p3 ⊢
    have hl : (r.es.take (frm r x.ep) ++ x.es).length = frm r x.ep + x.es.length := by simp; omega
    have h0 : x.es.length = 0 := by rw [hl] at p3; omega
    obtain hn := List.eq_nil_of_length_eq_zero h0
    rw [hn, List.append_nil, List.append_nil, List.take_length]
/-- The one record that says all of a register. -/
theorem app_base {r : Re} (h : r.may = true) (st : Int) : app Re.zero ⟨4, r.p, r.v, 0, r.m, r.es⟩ = some r ∧ st = st := by
  refine ⟨?_, rfl⟩
  have e : beh Re.zero ⟨4, r.p, r.v, 0, r.m, r.es⟩ = (r, true) := by simp [beh, Re.zero]
  rw [app_of Re.zero_may (by rw [e]) (by rw [e]; exact h), e]
theorem appQ_base {r : Re} (h : r.may = true) : appQ Re.zero ⟨4, r.p, r.v, 0, r.m, r.es⟩ = (r, true) := by
  simp [appQ, (app_base h 0).1]
theorem appQ_base_not {r : Re} {x : Rx} (hp : r.p ≠ 0) (hk : x.ki = 4) : (appQ r x).2 = false := by
  cases ha : app r x with
  | none => simp [appQ, ha]
  | some a =>
    rcases app_kinds ha with ⟨k, _⟩ | ⟨k, _⟩ | ⟨k, _⟩ | ⟨_, q, _⟩
    · omega
    · omega
    · omega
    · exact absurd q hp
theorem appQ_some {r : Re} {x : Rx} {q : Re × Bool} (h : appQ r x = q) (ho : q.2 = true) : app r x = some q.1 := by
  subst h
  simp only [appQ] at ho ⊢
  cases ha : app r x with
  | none => rw [ha] at ho; cases ho
  | some a => rfl
/-- Entries of the view that is, behind its log. -/
theorem logB_more {es cs : List En} {v : Int} (h : logB es v = true) (hv : 1 ≤ v) (hc : ∀ e ∈ cs, e.ep = v ∧ e.o.may = true) (hl : es.length + cs.length ≤ 64) : logB (es ++ cs) v = true := by
  have h0 := h
  simp only [logB, Bool.and_eq_true, List.all_eq_true, decide_eq_true_eq] at h
  obtain ⟨h1, h2, h3⟩ := h
  have hall : ∀ k (hk : k < (es ++ cs).length), 1 ≤ (es ++ cs)[k].ep ∧ (es ++ cs)[k].ep ≤ v ∧ (es ++ cs)[k].o.may = true := fun k hk => by
    rcases List.mem_append.1 (List.getElem_mem hk) with hm | hm
    · have := h3 _ hm; exact ⟨this.1.1, this.1.2, this.2⟩
    · have := hc _ hm; exact ⟨by omega, by omega, this.2⟩
  refine logB_yes (by simpa using hl) (risB_all fun k hk => ?_) hall
  by_cases c : k + 1 < es.length
  · rw [List.getElem_append_left c, List.getElem_append_left (by omega)]
    simp only [risB, decide_eq_true_eq] at h2
    have := h2 k (by omega)
    rwa [epA_at (by omega), epA_at c] at this
  · have hcm : (es ++ cs)[k + 1] ∈ cs := by
      rw [List.getElem_append_right (by omega)]
      exact List.getElem_mem _
    have h4 := (hc _ hcm).1
    have h5 := (hall k (by omega)).2.1
    omega
theorem app_more {r : Re} {cs : List En} (vi le : Int) (h : r.may = true) (hv : 1 ≤ r.v) (hp : r.v = r.p) (hc : ∀ e ∈ cs, e.ep = r.v ∧ e.o.may = true) (hl : r.es.length + cs.length ≤ 64) :
    appQ r ⟨2, r.v, vi, r.es.length, le, cs⟩ = (⟨r.v, r.v, r.es ++ cs, r.m⟩, true) := by
  have h1 := (Re.may_iff r).1 h
  have hf : frm r r.v = r.es.length := by unfold frm; rw [if_neg (by omega)]
  have e : beh r ⟨2, r.v, vi, r.es.length, le, cs⟩ = (⟨r.v, r.v, r.es ++ cs, r.m⟩, true) := by
    have c : ¬ (r.v < 1 ∨ r.v < r.p ∨ (r.es.length : Int) ≠ (frm r r.v : Int)) := by
      rw [hf]; simp only [not_or, ne_eq, Decidable.not_not]; exact ⟨by omega, by omega, by trivial⟩
    unfold beh
    rw [if_neg (by decide : ¬ (2 : Int) = 1), if_pos rfl, if_neg c, hf, List.take_length]
    have : pre (r.es.take r.m.toNat) (r.es ++ cs) = true := pre_iff.2 ((List.take_prefix _ _).trans (List.prefix_append _ _))
    rw [this]
  have hm : (⟨r.v, r.v, r.es ++ cs, r.m⟩ : Re).may = true := (Re.may_iff _).2 ⟨by dsimp only; omega, Int.le_refl _, by dsimp only; omega, logB_more h1.2.2.2.1 hv hc hl, h1.2.2.2.2.1, by dsimp only; rw [List.length_append]; omega⟩
  have := app_of (r := r) (x := ⟨2, r.v, vi, r.es.length, le, cs⟩) h (by rw [e]) (by rw [e]; exact hm)
  rw [e] at this
  simp [appQ, this]
end Go.Proofs.YtnbhdehpdfojlaaDoor
