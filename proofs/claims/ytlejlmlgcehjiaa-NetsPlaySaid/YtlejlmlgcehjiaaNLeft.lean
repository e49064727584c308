/-
  Messages that All told, from a place on: what stands while those ahead of it are written over.
-/
import Derived.Test.YtlejlmlgcehjiaaNFree
namespace Go.Proofs.Ytlejlmlgcehjiaa
open Go.RowKit
theorem frozen_same {X Y : World} {g o : Nat} (h : Y.heap[g]? = X.heap[g]?) : Y.frozen? ⟨g, o, none⟩ = X.frozen? ⟨g, o, none⟩ := by
  simp only [World.frozen?, h]
theorem cell_same0 {X Y : World} {g o : Nat} (h : Y.heap[g]? = X.heap[g]?) : Y.cell? ⟨g, o, none⟩ = X.cell? ⟨g, o, none⟩ := by
  simp only [World.cell?, h]
/-- The messages of a row from place j on. -/
def Lft (w : World) (A : Option Addr) (ms : List MM) (j : Nat) : Prop :=
  ∀ q (h : q < ms.length), j ≤ q → ∃ g, A = some ⟨g, 0, none⟩ ∧ g < w.heap.size ∧ (∀ o, w.frozen? ⟨g, o, none⟩ = false) ∧ (∀ t, t < 18 → w.cell? ⟨g, q * 18 + t, none⟩ = (mcells ms[q].h ms[q].v)[t]?) ∧ EOwn w 0 ms[q].v ms[q].es
section
variable {w w' : World} {A : Option Addr} {n c j : Nat} {ms : List MM} {S : Nat → Prop}
theorem Lft.first (h : Mails w (.slice A n c) ms) : Lft w A ms 0 := by
  intro q hq _
  obtain ⟨g, c', hv, h1, h2, h3, h4, h5⟩ := h.at_ hq
  injection hv with e1 _ _
  exact ⟨g, e1, h3, h5, h4, h.own _ (List.getElem_mem hq)⟩
theorem Lft.foot (h : Lft w A ms j) (hf : Foot S w w') (hg : ∀ g, A = some ⟨g, 0, none⟩ → ¬ S g) (hn : ∀ q (hq : q < ms.length), j ≤ q → ∀ k, ms[q].v.ownBlock = some k → ¬ S k) : Lft w' A ms j := by
  intro q hq hj
  obtain ⟨g, e, h1, h2, h3, h4⟩ := h q hq hj
  have hb := hf.block g h1 (hg g e)
  exact ⟨g, e, Nat.lt_of_lt_of_le h1 hf.size, fun o => (frozen_same hb).trans (h2 o), fun t ht => (cell_same0 hb).trans (h3 t ht), h4.foot hf (hn q hq hj)⟩
theorem Lft.below (h : Lft w A ms j) (hb : Below w.heap.size w w') : Lft w' A ms j := h.foot (below_foot hb : Foot (fun _ => False) w w') (fun _ _ e => e) fun _ _ _ _ _ e => e
theorem Lft.next (h : Lft w A ms j) : Lft w A ms (j + 1) := fun q hq hj => h q hq (by omega)
/-- A head's cell written, of the message ahead. -/
theorem Lft.set {g : Nat} (u : Value) (h : Lft w (some ⟨g, 0, none⟩) ms (j + 1)) (ho : ∀ m ∈ ms, m.v.ownBlock ≠ some g) : Lft (w.setCell ⟨g, j * 18, none⟩ u) (some ⟨g, 0, none⟩) ms (j + 1) := by
  intro q hq hj
  obtain ⟨g', e, h1, h2, h3, h4⟩ := h q hq hj
  injection e with e
  injection e with e _ _
  subst e
  refine ⟨g, rfl, Nat.lt_of_lt_of_le h1 (Foot.set (fun k => k = g) w ⟨g, j * 18, none⟩ u rfl).size, fun o => ?_, fun t ht => ?_, h4.foot (Foot.set (fun k => k = g) w _ _ rfl) fun k hk e => ho _ (List.getElem_mem hq) (e ▸ hk)⟩
  · rw [World.frozen?_setCell]; exact h2 o
  · have hne : (⟨g, j * 18, none⟩ : Addr) ≠ ⟨g, q * 18 + t, none⟩ := by intro e; injection e with _ e _; omega
    exact (World.cell?_setCell_other (h := hne) ..).trans (h3 t ht)
end
end Go.Proofs.Ytlejlmlgcehjiaa
