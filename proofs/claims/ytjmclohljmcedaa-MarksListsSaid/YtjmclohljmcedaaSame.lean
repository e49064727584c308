/-
  The contract of SameInts at two slices that read alike.
-/
import Derived.Test.YtjmclohljmcedaaRGetAll
import Derived.BigQuiet
import Derived.WalkSmall
namespace Go.Proofs.Ytjmclohljmcedaa
open Go.RowKit
/-- Nothing that lies in memory has changed. -/
def Still (w w' : World) : Prop := ∀ B, Below B w w'
theorem Still.refl (w : World) : Still w w := fun B => Below.refl B w
theorem Still.drew {w w' : World} (h : Still w w') : Still w w'.drew := fun B => (h B).drew
theorem Still.drewN {w w' : World} (h : Still w w') (n : Nat) : Still w (w'.drewN n) := fun B => ⟨(h B).os, (h B).tape, (h B).output, (h B).size, (h B).block⟩
theorem Still.cell {w w' : World} (h : Still w w') (a : Addr) : w'.cell? a = w.cell? a := (h (a.block + 1)).cell (by omega)
theorem Still.owns {w w' : World} {base : Nat} {e : TypeId} {size n : Nat} {v : Value} {xs : List Value} (h : Still w w') (ho : w.ownsRow base e size v n xs) : w'.ownsRow base e size v n xs := by
  refine ⟨ho.1, ?_⟩
  rcases ho.2 with h' | ⟨g, cap, cur, h1, h2, h3, h4⟩
  · exact .inl h'
  · exact .inr ⟨g, cap, cur, h1, h2, ((h (g + 1)).block g (by omega)).trans h3, h4⟩
theorem Still.below {w w' : World} (h : Still w w') (B : Nat) : Below B w w' := h B
theorem Ints.own {w : World} {base : Nat} {v : Value} {l : List Int} (h : intRow w base v l) : Ints w w.heap.size v l := by
  rcases h.2 with ⟨rfl, h0⟩ | ⟨g, cap, cur, rfl, h2, h3, h4, h5, h6, h7⟩
  · have : l = [] := List.eq_nil_of_length_eq_zero h0
    subst this
    exact ⟨none, 0, rfl, by simp, fun h => by simp at h⟩
  · have hlt : g < w.heap.size := by
      rcases Nat.lt_or_ge g w.heap.size with h | h
      · exact h
      · rw [Array.getElem?_eq_none h] at h3; cases h3
    refine ⟨_, cap, rfl, h4, fun _ => ⟨g, 0, rfl, hlt, fun j hj => ?_⟩⟩
    rw [Nat.zero_add, World.ownsRow.cellAt h j (by omega)]
    simp [hj]
theorem Ints.still {w w' : World} {B : Nat} {v : Value} {l : List Int} (h : Ints w B v l) (hs : Still w w') : Ints w' B v l := h.keep (hs B) (Nat.le_refl _)
set_option maxRecDepth 100000 in
set_option maxHeartbeats 1000000 in
theorem same_any (va vb : Value) (l : List Int) (B B' : Nat) (w : World) (ha : Ints w B va l) (hb : Ints w B' vb l) (hl : l.length ≤ 1000000) :
    Calls Try.prog 22 #[va, vb] w fun e w' => e = .returned (.bool true) ∧ Still w w' := by
  obtain ⟨A, ca, rfl, hca, hA⟩ := ha
  obtain ⟨A', cb, rfl, hcb, hA'⟩ := hb
  have HA := Lib.hid hA
  have HB := Lib.hid hA'
  clear hA hA'
  go_enter Try.func22, Try.ntmps22
  go_wp2
  go_loopw [5] (fun i wr => ∃ k : Nat, k ≤ l.length ∧ i = .int .i64 k ∧ Still w wr) (fun i _ => l.length - (intOf i).toNat)
  case atStart => exact ⟨0, Nat.zero_le _, rfl, Still.refl _⟩
  case round =>
    obtain ⟨k, hk, rfl, hst⟩ := hrel
    by_cases hlt : k < l.length
    · obtain ⟨b1, o1, rfl, _, c1⟩ := HA.out (by omega)
      obtain ⟨b2, o2, rfl, _, c2⟩ := HB.out (by omega)
      have d1 := (hst.cell ⟨b1, o1 + k, none⟩).trans (c1 k hlt)
      have d2 := (hst.cell ⟨b2, o2 + k, none⟩).trans (c2 k hlt)
      clear c1 c2
      generalize l.getD k 0 = n at *
      go_wp2
      go_quiet (fail)
      go_wp2
      go_roundw
      case rel => exact ⟨k + 1, by omega, by go_num, hst.drewN _⟩
      case measure => simp [intOf]; omega
    · go_wp2
      go_ret
      exact ⟨rfl, hst⟩
end Go.Proofs.Ytjmclohljmcedaa
