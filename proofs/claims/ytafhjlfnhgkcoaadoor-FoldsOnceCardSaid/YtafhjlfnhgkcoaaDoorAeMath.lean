/-
  Aggregates in plain words: which states may be, which events may come to them, the state behind an event, and what becomes of an order. No program in this text.
-/
import Derived.Test.YtafhjlfnhgkcoaaDoorAeOrd
namespace Go.Proofs.YtafhjlfnhgkcoaaDoor
open Go.RowKit
/-- A state. -/
structure St where
  tag : Int
  cl : Bool
  sum : Int
  ver : Int
/-- An event. -/
structure Ev where
  k : Int
  a : Int
/-- An outcome. -/
structure Oc where
  code : Int
  ver : Int
  evs : List Ev
def St.v (s : St) : Value := .agg #[.int .i64 s.tag, .bool s.cl, .int .i64 s.sum, .int .i64 s.ver]
def Ev.v (e : Ev) : Value := .agg #[.int .i64 e.k, .int .i64 e.a]
def St.zero : St := ⟨0, false, 0, 0⟩
def St.ints (s : St) : Prop := (-9223372036854775808 ≤ s.tag ∧ s.tag ≤ 9223372036854775807) ∧ (-9223372036854775808 ≤ s.sum ∧ s.sum ≤ 9223372036854775807) ∧ (-9223372036854775808 ≤ s.ver ∧ s.ver ≤ 9223372036854775807)
def Ev.ints (e : Ev) : Prop := (-9223372036854775808 ≤ e.k ∧ e.k ≤ 9223372036854775807) ∧ (-9223372036854775808 ≤ e.a ∧ e.a ≤ 9223372036854775807)
def St.may (s : St) : Bool := decide ((s.tag = 0 ∧ s.cl = false ∧ s.sum = 0 ∧ s.ver = 0) ∨
  (1 ≤ s.tag ∧ s.tag ≤ 3 ∧ -1099511627776 ≤ s.sum ∧ s.sum ≤ 1099511627776 ∧ 1 ≤ s.ver ∧ s.ver ≤ 1099511627776 ∧ (s.tag = 1 ∨ 0 ≤ s.sum) ∧ (s.cl = false ∨ s.sum = 0)))
def comes (s : St) (e : Ev) : Bool := decide (s.ver < 1099511627776 ∧ s.cl = false ∧
  ((e.k = 1 ∧ s.tag = 0 ∧ 1 ≤ e.a ∧ e.a ≤ 3) ∨ (e.k = 2 ∧ s.tag ≠ 0 ∧ 1 ≤ e.a ∧ s.sum + e.a ≤ 1099511627776) ∨
   (e.k = 3 ∧ 1 ≤ e.a ∧ ((s.tag = 1 ∧ -1099511627776 ≤ s.sum - e.a) ∨ (s.tag = 2 ∧ 0 ≤ s.sum - e.a))) ∨ (e.k = 4 ∧ s.tag ≠ 0 ∧ s.sum = 0 ∧ e.a = 0)))
def next (s : St) (e : Ev) : St := ⟨if e.k = 1 then e.a else s.tag, if e.k = 4 then true else s.cl, if e.k = 2 then s.sum + e.a else if e.k = 3 then s.sum - e.a else s.sum, s.ver + 1⟩
/-- May the event come to the state? -/
def lets (s : St) (e : Ev) : Bool := s.may && comes s e
def app (s : St) (e : Ev) : St := if lets s e then next s e else s
def apps (s : St) (l : List Ev) : St := l.foldl app s
/-- The event that an order comes to. -/
def evOf (o : Od) : Ev := ⟨o.ki, if o.ki = 4 then 0 else o.ar⟩
def decide_ (s : St) (o : Od) : Oc :=
  if s.may = false then ⟨7, 0, []⟩ else
  if o.may = false then ⟨7, s.ver, []⟩ else
  if 0 ≤ o.ex ∧ o.ex ≠ s.ver then ⟨2, s.ver, []⟩ else
  if comes s (evOf o) = false then ⟨3, s.ver, []⟩ else ⟨1, s.ver + 1, [evOf o]⟩
theorem may_iff (s : St) : s.may = true ↔ ((s.tag = 0 ∧ s.cl = false ∧ s.sum = 0 ∧ s.ver = 0) ∨
  (1 ≤ s.tag ∧ s.tag ≤ 3 ∧ -1099511627776 ≤ s.sum ∧ s.sum ≤ 1099511627776 ∧ 1 ≤ s.ver ∧ s.ver ≤ 1099511627776 ∧ (s.tag = 1 ∨ 0 ≤ s.sum) ∧ (s.cl = false ∨ s.sum = 0))) := decide_eq_true_iff
theorem comes_iff (s : St) (e : Ev) : comes s e = true ↔ (s.ver < 1099511627776 ∧ s.cl = false ∧
  ((e.k = 1 ∧ s.tag = 0 ∧ 1 ≤ e.a ∧ e.a ≤ 3) ∨ (e.k = 2 ∧ s.tag ≠ 0 ∧ 1 ≤ e.a ∧ s.sum + e.a ≤ 1099511627776) ∨
   (e.k = 3 ∧ 1 ≤ e.a ∧ ((s.tag = 1 ∧ -1099511627776 ≤ s.sum - e.a) ∨ (s.tag = 2 ∧ 0 ≤ s.sum - e.a))) ∨ (e.k = 4 ∧ s.tag ≠ 0 ∧ s.sum = 0 ∧ e.a = 0))) := decide_eq_true_iff
theorem St.ext' {s t : St} (h1 : s.tag = t.tag) (h2 : s.cl = t.cl) (h3 : s.sum = t.sum) (h4 : s.ver = t.ver) : s = t := by cases s; cases t; simp_all
theorem app_yes {s : St} {e : Ev} (h : lets s e = true) : app s e = next s e := if_pos h
theorem app_no {s : St} {e : Ev} (h : lets s e = false) : app s e = s := by unfold app; rw [h]; rfl
theorem lets_iff (s : St) (e : Ev) : lets s e = true ↔ s.may = true ∧ comes s e = true := by unfold lets; rw [Bool.and_eq_true]
theorem next_may {s : St} {e : Ev} (h : lets s e = true) : (next s e).may = true := by
  obtain ⟨hm0, hc0⟩ := (lets_iff _ _).1 h
  have hm := (may_iff _).1 hm0
  obtain ⟨h1, h2, hc⟩ := (comes_iff _ _).1 hc0
  refine (may_iff _).2 (.inr ?_)
  clear h hm0 hc0
  obtain ⟨t, c, x, v⟩ := s
  obtain ⟨k, a⟩ := e
  simp only [next] at *
  subst h2
  rcases hc with ⟨hk, hc⟩ | ⟨hk, hc⟩ | ⟨hk, hc⟩ | ⟨hk, hc⟩ <;> subst hk <;> simp at hm ⊢ <;> omega
theorem app_may {s : St} (e : Ev) (h : s.may = true) : (app s e).may = true := by
  rcases hl : lets s e with _ | _
  · rw [app_no hl]; exact h
  · rw [app_yes hl]; exact next_may hl
theorem app_ver (s : St) (e : Ev) : (app s e).ver = s.ver + (if lets s e then 1 else 0) := by
  rcases hl : lets s e with _ | _
  · rw [app_no hl]; simp
  · rw [app_yes hl]; simp [next]
theorem next_ne {s : St} {e : Ev} : (next s e) ≠ s := fun h => by have := congrArg St.ver h; simp [next] at this; omega
theorem app_closed {s : St} {e : Ev} (h : s.cl = true) : app s e = s := app_no (by
  unfold lets comes; rw [h]; simp)
theorem app_tag {s : St} {e : Ev} (h : s.tag ≠ 0) : (app s e).tag = s.tag := by
  rcases hl : lets s e with _ | _
  · rw [app_no hl]
  · rw [app_yes hl]
    obtain ⟨hm, hc⟩ := (lets_iff _ _).1 hl
    obtain ⟨h1, h2, hc⟩ := (comes_iff _ _).1 hc
    simp only [next]
    rcases hc with ⟨_, hc, _⟩ | ⟨hk, hc⟩ | ⟨hk, hc⟩ | ⟨hk, hc⟩
    · exact absurd hc h
    · simp [hk]
    · simp [hk]
    · simp [hk]
theorem app_tally {s : St} {e : Ev} (h : s.tag = 3) : s.sum ≤ (app s e).sum := by
  rcases hl : lets s e with _ | _
  · rw [app_no hl]; omega
  · rw [app_yes hl]
    obtain ⟨hm, hc⟩ := (lets_iff _ _).1 hl
    obtain ⟨h1, h2, hc⟩ := (comes_iff _ _).1 hc
    simp only [next]
    rcases hc with ⟨_, hc, _⟩ | ⟨hk, hc⟩ | ⟨hk, hc⟩ | ⟨hk, hc⟩
    · omega
    · simp [hk]; omega
    · omega
    · simp [hk]
end Go.Proofs.YtafhjlfnhgkcoaaDoor
