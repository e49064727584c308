/-
  Streams of a book have nothing to do with one another: no program.
-/
import Derived.Test.YtopdjmjlnflhfaaBkMath
namespace Go.Proofs.Ytopdjmjlnflhfaa.Lea
/-- Two books say the same of stream a. -/
def Alike (a : Int) (B C : Bk) : Prop := B.grace = C.grace ∧ B.g a = C.g a
theorem set_g (B : Bk) (s : Int) (x : Int × Int) (t : Int) : (B.set s x).g t = if t = s then some x else B.g t := rfl
theorem grant_grace (B : Bk) (s e t : Int) : (grant B s e t).1.grace = B.grace := by
  unfold grant
  split
  · rfl
  · split <;> rfl
theorem grant_other {B : Bk} {s e t a : Int} (h : a ≠ s) : (grant B s e t).1.g a = B.g a := by
  unfold grant
  split
  · rfl
  · split
    · show (B.set s _).g a = _
      rw [set_g, if_neg h]
    · rfl
theorem grant_like {B C : Bk} {a e t : Int} (h : B.g a = C.g a) : (grant B a e t).1.g a = (grant C a e t).1.g a := by
  unfold grant
  rw [h]
  split
  · exact h
  · split
    · show (B.set a _).g a = (C.set a _).g a
      rw [set_g, set_g, if_pos rfl, if_pos rfl]
    · exact h
theorem release_grace (B : Bk) (s e : Int) : (release B s e).grace = B.grace := by
  unfold release
  split
  · split <;> rfl
  · rfl
theorem release_other {B : Bk} {s e a : Int} (h : a ≠ s) : (release B s e).g a = B.g a := by
  unfold release
  split
  · split
    · rw [set_g, if_neg h]
    · rfl
  · rfl
theorem release_like {B C : Bk} {a e : Int} (h : B.g a = C.g a) : (release B a e).g a = (release C a e).g a := by
  unfold release
  rw [h]
  split
  · split
    · rw [set_g, set_g, if_pos rfl, if_pos rfl]
    · exact h
  · exact h
section
variable {a s e t : Int} {B C : Bk}
theorem Alike.grant_off (h : Alike a B C) (hs : a ≠ s) : Alike a (grant B s e t).1 C := ⟨(grant_grace ..).trans h.1, (grant_other hs).trans h.2⟩
theorem Alike.grant_both (h : Alike a B C) : Alike a (grant B a e t).1 (grant C a e t).1 := ⟨(grant_grace ..).trans (h.1.trans (grant_grace ..).symm), grant_like h.2⟩
theorem Alike.release_off (h : Alike a B C) (hs : a ≠ s) : Alike a (release B s e) C := ⟨(release_grace ..).trans h.1, (release_other hs).trans h.2⟩
theorem Alike.release_both (h : Alike a B C) : Alike a (release B a e) (release C a e) := ⟨(release_grace ..).trans (h.1.trans (release_grace ..).symm), release_like h.2⟩
theorem Alike.hold (h : Alike a B C) : hold B a t = hold C a t := by unfold Lea.hold; rw [h.2]
theorem Alike.may (h : Alike a B C) : may B a e t = may C a e t := by unfold Lea.may; rw [h.hold, h.1]
end
end Go.Proofs.Ytopdjmjlnflhfaa.Lea
