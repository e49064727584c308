/-
  A slice of acts that is handed in.
-/
import Derived.Test.YtceldekbkffhpaaDAct
import Derived.Deep.Slices
namespace Go.Proofs.Ytceldekbkffhpaa
open Go.ChangeShapes Go.WideShapes Go.ChangeAt Go.RowKit
instance actInh : Inhabited ActV := ⟨⟨0, ⟨#[]⟩, ⟨#[]⟩, ⟨#[]⟩, 0, none, 0, 0⟩⟩
theorem open_acts {H : Type} {enc : TypeId × Value → H} {w : World} {sp : Nat → Bool} {fuel : Nat} {cs : List Value} {y : DataW H × List MemPlace} (h : DataW.trod enc Try.prog w 0 sp true fuel 22 cs = some y) :
    ∃ A n c l, cs = [.slice A n c] ∧ l.length = n ∧ Acts w (.slice A n c) l ∧ ∀ x ∈ l, ActAt w x := by
  rcases Go.Deep.open_slice Try.underlying22 h with ⟨rfl, _⟩ | ⟨a, len, cap, m, n, D, Pl, rfl, _, hl, hm, hmm, _, hx⟩
  · exact ⟨none, 0, 0, [], rfl, rfl, ⟨none, 0, rfl, Nat.le_refl _, Nat.zero_le _, fun h => by simp at h⟩, fun x hx => (List.not_mem_nil hx).elim⟩
  · have hlm : len ≤ m := by rw [hmm]; split <;> omega
    have each : ∀ i, i < len → ∃ x : ActV, (∀ j, j < 6 → w.cell? (a.add (i * 6 + j)) = x.val.cells.toList[j]?) ∧ ActAt w x := by
      intro i hi
      obtain ⟨cs', h1, h2⟩ := hx i (by omega)
      rw [cellsAct] at h1
      obtain ⟨_, hlen, hcell⟩ := World.cells?_some h1
      obtain ⟨x, rfl, hat⟩ := open_act h2
      refine ⟨x, fun j hj => ?_, hat⟩
      have e := hcell j hj
      rw [Go.Deep.add_add] at e
      exact e
    obtain ⟨X, hX⟩ := Go.Deep.choose_lt each
    have hln : ((List.range len).map X).length = len := by simp
    refine ⟨some a, len, cap, (List.range len).map X, rfl, hln, ⟨some a, cap, by rw [hln], by omega, hm, fun h0 => ?_⟩, fun x hx => ?_⟩
    · rw [hln] at h0
      obtain ⟨b, o, spot⟩ := a
      have hc0 := (hX 0 h0).1 0 (by omega)
      have hspot : spot = none := by
        have := World.cell?_spot (hc0.trans (rfl : (X 0).val.cells.toList[0]? = some (.int .u8 (X 0).k)))
        simpa [Addr.add] using this
      subst hspot
      refine ⟨b, o, rfl, block_lt_of_cell ((by rw [add_plain] at hc0; exact hc0.trans (rfl : (X 0).val.cells.toList[0]? = some (.int .u8 (X 0).k))) : w.cell? ⟨b, o + (0 * 6 + 0), none⟩ = some _), fun j hj => ?_⟩
      have hj' : j < len := by rw [hln] at hj; exact hj
      have hxj : ((List.range len).map X)[j] = X j := by simp
      rw [hxj]
      have g := (hX j hj').1
      have q0 := g 0 (by omega); have q1 := g 1 (by omega); have q2 := g 2 (by omega); have q3 := g 3 (by omega); have q4 := g 4 (by omega); have q5 := g 5 (by omega)
      rw [add_plain] at q0 q1 q2 q3 q4 q5
      exact ⟨q0, q1, q2, q3, q4, q5⟩
    · obtain ⟨i, hi, rfl⟩ := List.mem_map.1 hx
      exact (hX i (List.mem_range.1 hi)).2
end Go.Proofs.Ytceldekbkffhpaa
