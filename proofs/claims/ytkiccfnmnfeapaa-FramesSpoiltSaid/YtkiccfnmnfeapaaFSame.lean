/-
  The contract of SameTexts at two slices that read alike.
-/
import Derived.Test.YtkiccfnmnfeapaaFWhole
import Derived.BigQuiet
import Derived.WalkSmall
namespace Go.Proofs.Ytkiccfnmnfeapaa
open Go.RowKit
/-- A slice value that reads as these texts, below block B. -/
def Texts (w : World) (B : Nat) (v : Value) (ls : List (List UInt8)) : Prop := ∃ (A : Option Addr) (c : Nat), v = .slice A ls.length c ∧ ls.length ≤ c ∧ (0 < ls.length → ∃ b off, A = some ⟨b, off, none⟩ ∧ b < B ∧ ∀ j, j < ls.length → w.cell? ⟨b, off + j, none⟩ = some (textV (ls.getD j [])))
theorem Texts.keep {w w' : World} {B B' : Nat} {v : Value} {ls : List (List UInt8)} (h : Texts w B v ls) (hb : Below B w w') (hB : B ≤ B') : Texts w' B' v ls := by
  obtain ⟨A, c, rfl, hc, h⟩ := h
  refine ⟨A, c, rfl, hc, fun h0 => ?_⟩
  obtain ⟨b, off, rfl, hlt, hcell⟩ := h h0
  exact ⟨b, off, rfl, by omega, fun j hj => (hb.cell (p := ⟨b, off + j, none⟩) hlt).trans (hcell j hj)⟩
/-- Nothing that lies in memory has changed. -/
def Still (w w' : World) : Prop := ∀ B, Below B w w'
theorem Still.refl (w : World) : Still w w := fun B => Below.refl B w
theorem Still.drewN {w w' : World} (h : Still w w') (n : Nat) : Still w (w'.drewN n) := fun B => ⟨(h B).os, (h B).tape, (h B).output, (h B).size, (h B).block⟩
theorem Still.cell {w w' : World} (h : Still w w') (a : Addr) : w'.cell? a = w.cell? a := (h (a.block + 1)).cell (by omega)
theorem Still.owns {w w' : World} {base : Nat} {e : TypeId} {size n : Nat} {v : Value} {xs : List Value} (h : Still w w') (ho : w.ownsRow base e size v n xs) : w'.ownsRow base e size v n xs := by
  refine ⟨ho.1, ?_⟩
  rcases ho.2 with h' | ⟨g, cap, cur, h1, h2, h3, h4⟩
  · exact .inl h'
  · exact .inr ⟨g, cap, cur, h1, h2, ((h (g + 1)).block g (by omega)).trans h3, h4⟩
theorem Texts.own {w : World} {base : Nat} {v : Value} {ls : List (List UInt8)} (h : textRow w base v ls) : Texts w w.heap.size v ls := by
  rcases h.2 with ⟨rfl, h0⟩ | ⟨g, cap, cur, rfl, h2, h3, h4, h5, h6, h7⟩
  · have : ls = [] := List.eq_nil_of_length_eq_zero h0
    subst this
    exact ⟨none, 0, rfl, by simp, fun h => by simp at h⟩
  · have hlt : g < w.heap.size := by
      rcases Nat.lt_or_ge g w.heap.size with h | h
      · exact h
      · rw [Array.getElem?_eq_none h] at h3; cases h3
    refine ⟨_, cap, rfl, h4, fun _ => ⟨g, 0, rfl, hlt, fun j hj => ?_⟩⟩
    rw [Nat.zero_add, World.ownsRow.cellAt h j (by omega)]
    simp [hj]
theorem Texts.still {w w' : World} {B : Nat} {v : Value} {ls : List (List UInt8)} (h : Texts w B v ls) (hs : Still w w') : Texts w' B v ls := h.keep (hs B) (Nat.le_refl _)
set_option maxRecDepth 100000 in
set_option maxHeartbeats 1000000 in
theorem same_any (va vb : Value) (ls : List (List UInt8)) (B B' : Nat) (w : World) (ha : Texts w B va ls) (hb : Texts w B' vb ls) (hl : ls.length ≤ 1000000) :
    Calls Try.prog 17 #[va, vb] w fun e w' => e = .returned (.bool true) ∧ Still w w' := by
  obtain ⟨A, ca, rfl, hca, hA⟩ := ha
  obtain ⟨A', cb, rfl, hcb, hA'⟩ := hb
  have HA := Lib.hid hA
  have HB := Lib.hid hA'
  clear hA hA'
  go_enter Try.func17, Try.ntmps17
  go_wp2
  go_loopw [5] (fun i wr => ∃ k : Nat, k ≤ ls.length ∧ i = .int .i64 k ∧ Still w wr) (fun i _ => ls.length - (intOf i).toNat)
  case atStart => exact ⟨0, Nat.zero_le _, rfl, Still.refl _⟩
  case round =>
    obtain ⟨k, hk, rfl, hst⟩ := hrel
    by_cases hlt : k < ls.length
    · obtain ⟨b1, o1, rfl, _, c1⟩ := HA.out (by omega)
      obtain ⟨b2, o2, rfl, _, c2⟩ := HB.out (by omega)
      have d1 := (hst.cell ⟨b1, o1 + k, none⟩).trans (c1 k hlt)
      have d2 := (hst.cell ⟨b2, o2 + k, none⟩).trans (c2 k hlt)
      clear c1 c2
      unfold textV at d1 d2
      generalize ls.getD k [] = t at *
      go_wp2
      go_quiet (fail)
      go_wp2
      go_roundw
      case rel => exact ⟨k + 1, by omega, by go_num, hst.drewN _⟩
      case measure => simp [intOf]; omega
    · go_wp2
      go_ret
      exact ⟨rfl, hst⟩
end Go.Proofs.Ytkiccfnmnfeapaa
