/-
  A slice of bytes that is handed in.
-/
import Derived.Test.YtljlighgjjiagaaEInts
namespace Go.Proofs.Ytljlighgjjiagaa
open Go.ChangeShapes Go.WideShapes Go.ChangeAt Go.RowKit
/-- A slice of bytes that reads so. -/
def Bys (w : World) (v : Value) (l : List Nat) : Prop := ∃ A c, v = .slice A l.length c ∧ l.length ≤ c ∧ c ≤ maxLen ∧ (A = none → l.length = 0 ∧ c = 0) ∧ (0 < l.length → ∃ b off, A = some ⟨b, off, none⟩ ∧ b < w.heap.size ∧ ∀ j, j < l.length → w.cell? ⟨b, off + j, none⟩ = some (.int .u8 (l.getD j 0 : Nat)) ∧ l.getD j 0 < 256)
theorem cellsU8 : Try.prog.cellsOf 5 = 1 := by kernel_rfl
theorem open_bys {H : Type} {enc : TypeId × Value → H} {w : World} {sp : Nat → Bool} {fuel : Nat} {cs : List Value} {y : DataW H × List MemPlace} (h : DataW.trod enc Try.prog w 0 sp true fuel 45 cs = some y) :
    ∃ A n c, cs = [.slice A n c] ∧ ∃ l, l.length = n ∧ Bys w (.slice A n c) l := by
  rcases open_ints Try.underlying45 Try.underlying5 cellsU8 h with ⟨rfl, _⟩ | ⟨a, len, cap, zs, rfl, _, hl, hm, hz, _, hcell, hwf⟩
  · exact ⟨none, 0, 0, rfl, [], rfl, none, 0, rfl, Nat.le_refl _, Nat.zero_le _, fun _ => ⟨rfl, rfl⟩, fun h => by simp at h⟩
  · have hzl : len ≤ zs.length := by rw [hz]; split <;> omega
    have hlen : ((zs.take len).map Int.toNat).length = len := by rw [List.length_map, List.length_take]; omega
    refine ⟨some a, len, cap, rfl, (zs.take len).map Int.toNat, hlen, some a, cap, by rw [hlen], by omega, hm, fun e => (by cases e), fun h0 => ?_⟩
    have h0' : 0 < zs.length := by omega
    obtain ⟨b, off, rfl, hc⟩ := ints_at hcell h0'
    refine ⟨b, off, rfl, World.block_lt_of_cell? w _ (hc 0 h0'), fun j hj => ?_⟩
    have hjl : j < len := by omega
    have hjz : j < zs.length := by omega
    have e : ((zs.take len).map Int.toNat).getD j 0 = (zs.getD j 0).toNat := by
      simp only [List.getD, List.getElem?_map, List.getElem?_take_of_lt hjl, List.getElem?_eq_getElem hjz]; rfl
    have hw := hwf (zs.getD j 0) (by rw [List.getD, List.getElem?_eq_getElem hjz]; exact List.getElem_mem hjz)
    simp [Lit.wf, IntKind.min, IntKind.max, IntKind.signed, IntKind.bits] at hw
    rw [e, hc j hjz]
    obtain ⟨g1, g2⟩ : 0 ≤ zs.getD j 0 ∧ zs.getD j 0 < 256 := by simp only [List.getD]; omega
    refine ⟨?_, by omega⟩
    congr 2
    omega
end Go.Proofs.Ytljlighgjjiagaa
