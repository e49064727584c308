/-
  What a site has granted, in plain words: no program.
-/
import Derived.Lib.Hide
namespace Go.Proofs.Ytopdjmjlnflhfaa.Lea
/-- The grace; of each stream the epoch of its grant, and when that is over. -/
structure Bk where
  grace : Int
  g : Int → Option (Int × Int)
def over (now : Int) : Int := min now 1073741824 + 16
def new (now : Int) (restart : Bool) : Bk := ⟨if restart then over now else 0, fun _ => none⟩
def hold (B : Bk) (s now : Int) : Int × Bool := match B.g s with
  | some (e, o) => if now < o then (e, true) else (0, false)
  | none => (0, false)
def may (B : Bk) (s e now : Int) : Bool := !decide (now < B.grace) && (!(hold B s now).2 || (hold B s now).1 == e)
def Bk.set (B : Bk) (s : Int) (x : Int × Int) : Bk := ⟨B.grace, fun t => if t = s then some x else B.g t⟩
def next (old : Option (Int × Int)) (e now : Int) : Option (Int × Int) := match old with
  | none => some (e, over now)
  | some (f, o) => if e = f then some (e, max (over now) o) else if f < e then some (e, over now) else none
def grant (B : Bk) (s e now : Int) : Bk × Int :=
  if s < 0 ∨ 4 ≤ s ∨ e < 1 then (B, 2) else match next (B.g s) e now with
  | some x => (B.set s x, 0)
  | none => (B, 0)
def least : Int := -9223372036854775808
def release (B : Bk) (s e : Int) : Bk := match B.g s with
  | some (f, _) => if f = e then B.set s (f, least) else B
  | none => B
/-- Each number of a book is one that the machine has. -/
structure Good (B : Bk) : Prop where
  grace : -9223372036854775808 ≤ B.grace ∧ B.grace ≤ 9223372036854775807
  g : ∀ s x, B.g s = some x → (1 ≤ x.1 ∧ x.1 ≤ 9223372036854775807) ∧ -9223372036854775808 ≤ x.2 ∧ x.2 ≤ 9223372036854775807
theorem over_in {now : Int} (h : -9223372036854775808 ≤ now) : -9223372036854775792 ≤ over now ∧ over now ≤ 1073741840 := by
  unfold over; omega
theorem Good.new {now : Int} (h : -9223372036854775808 ≤ now) (r : Bool) : Good (new now r) := by
  have := over_in h
  refine ⟨?_, fun s x e => by cases e⟩
  unfold Lea.new
  dsimp only
  cases r <;> simp <;> omega
theorem Good.set {B : Bk} (h : Good B) {s : Int} {x : Int × Int} (hx : (1 ≤ x.1 ∧ x.1 ≤ 9223372036854775807) ∧ -9223372036854775808 ≤ x.2 ∧ x.2 ≤ 9223372036854775807) : Good (B.set s x) := by
  refine ⟨h.grace, fun t y e => ?_⟩
  unfold Bk.set at e
  dsimp only at e
  split at e
  · injection e with e; subst e; exact hx
  · exact h.g t y e
theorem next_in {old : Option (Int × Int)} {e now : Int} {x : Int × Int} (ho : ∀ y, old = some y → -9223372036854775808 ≤ y.2 ∧ y.2 ≤ 9223372036854775807) (h1 : 1 ≤ e) (he : e ≤ 9223372036854775807) (hn : -9223372036854775808 ≤ now) (h : next old e now = some x) :
    (1 ≤ x.1 ∧ x.1 ≤ 9223372036854775807) ∧ -9223372036854775808 ≤ x.2 ∧ x.2 ≤ 9223372036854775807 := by
  have hv := over_in hn
  unfold next at h
  cases old with
  | none => injection h with h; subst h; exact ⟨⟨h1, he⟩, by dsimp only; omega, by dsimp only; omega⟩
  | some y =>
    obtain ⟨f, o⟩ := y
    have hy := ho _ rfl
    dsimp only at hy h
    by_cases c1 : e = f
    · rw [if_pos c1] at h
      injection h with h; subst h; exact ⟨⟨h1, he⟩, by dsimp only; omega, by dsimp only; omega⟩
    · rw [if_neg c1] at h
      by_cases c2 : f < e
      · rw [if_pos c2] at h
        injection h with h; subst h; exact ⟨⟨h1, he⟩, by dsimp only; omega, by dsimp only; omega⟩
      · rw [if_neg c2] at h; cases h
theorem Good.grant {B : Bk} (h : Good B) {s e now : Int} (he : e ≤ 9223372036854775807) (hn : -9223372036854775808 ≤ now) : Good (grant B s e now).1 := by
  unfold Lea.grant
  by_cases hs : s < 0 ∨ 4 ≤ s ∨ e < 1
  · rw [if_pos hs]; exact h
  · rw [if_neg hs]
    cases hx : next (B.g s) e now with
    | none => exact h
    | some x => exact h.set (next_in (fun y hy => (h.g s y hy).2) (by omega) he hn hx)
theorem Good.release {B : Bk} (h : Good B) {s e : Int} : Good (release B s e) := by
  unfold Lea.release
  cases hg : B.g s with
  | none => exact h
  | some x =>
    obtain ⟨f, o⟩ := x
    have hx := h.g s _ hg
    dsimp only at hx
    simp only
    split
    · exact h.set ⟨hx.1, by show -9223372036854775808 ≤ least; decide, by show least ≤ 9223372036854775807; decide⟩
    · exact h
theorem hold_none {B : Bk} {s : Int} (h : B.g s = none) (now : Int) : hold B s now = (0, false) := by unfold hold; rw [h]
theorem hold_some {B : Bk} {s e o : Int} (h : B.g s = some (e, o)) (now : Int) : hold B s now = if now < o then (e, true) else (0, false) := by unfold hold; rw [h]
end Go.Proofs.Ytopdjmjlnflhfaa.Lea
