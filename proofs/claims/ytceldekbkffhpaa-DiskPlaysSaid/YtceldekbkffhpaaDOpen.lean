/-
  An act that is handed in: its cells, and what they lead to.
-/
import Derived.Test.YtceldekbkffhpaaDGreat
import Derived.ProofKit
import Derived.OpenShut
import Derived.ShutString
import Derived.ChangeSame
namespace Go.Proofs.Ytceldekbkffhpaa
open Go.ChangeShapes Go.WideShapes Go.ChangeAt Go.RowKit
theorem cellsAct : Try.prog.cellsOf 34 = 6 := by kernel_rfl
theorem cellsU8 : Try.prog.cellsOf 5 = 1 := by kernel_rfl
theorem cellsStr : Try.prog.cellsOf 9 = 1 := by kernel_rfl
theorem cellsInt : Try.prog.cellsOf 3 = 1 := by kernel_rfl
theorem cellsInts : Try.prog.cellsOf 32 = 1 := by kernel_rfl
structure ActAt (w : World) (x : ActV) : Prop where
  k : (Lit.int .u8 x.k).wf = true
  n : (Lit.int .i64 x.n).wf = true
  keep : ∃ l, l.length = x.kl ∧ Ints w (.slice x.ka x.kl x.kc) l
theorem open_keep {H : Type} {enc : TypeId × Value → H} {w : World} {sp : Nat → Bool} {fuel : Nat} {cs : List Value} {y : DataW H × List MemPlace} (h : DataW.trod enc Try.prog w 0 sp true fuel 32 cs = some y) :
    ∃ A n c, cs = [.slice A n c] ∧ ∃ l, l.length = n ∧ Ints w (.slice A n c) l := by
  rcases open_ints Try.underlying32 Try.underlying3 cellsInt h with ⟨rfl, _⟩ | ⟨a, len, cap, zs, rfl, _, hl, hm, hz, _, hcell, _⟩
  · exact ⟨none, 0, 0, rfl, [], rfl, none, 0, rfl, Nat.le_refl _, Nat.zero_le _, fun _ => ⟨rfl, rfl⟩, fun h => by simp at h⟩
  · have hzl : len ≤ zs.length := by rw [hz]; split <;> omega
    have hlen : (zs.take len).length = len := by rw [List.length_take]; omega
    refine ⟨some a, len, cap, rfl, zs.take len, hlen, some a, cap, by rw [hlen], by omega, hm, fun e => (by cases e), fun h0 => ?_⟩
    obtain ⟨b, off, rfl, hc⟩ := ints_at hcell (by omega)
    refine ⟨b, off, rfl, World.block_lt_of_cell? w _ (hc 0 (by omega)), fun j hj => ?_⟩
    rw [hc j (by omega)]
    have e : (zs.take len).getD j 0 = zs.getD j 0 := by
      simp only [List.getD]
      rw [List.getElem?_take_of_lt (by omega)]
    rw [e]
set_option maxRecDepth 100000 in
theorem open_act {H : Type} {enc : TypeId × Value → H} {w : World} {sp : Nat → Bool} {fuel : Nat} {cs : List Value} {y : DataW H × List MemPlace} (h : DataW.trod enc Try.prog w 0 sp true fuel 34 cs = some y) :
    ∃ x : ActV, cs = x.val.cells.toList ∧ ActAt w x := by
  obtain ⟨xs, n, _, _, hl, hlen, hf⟩ := DataW.trod_struct Try.underlying34 h
  rw [cellsAct] at hl
  match cs, hl with
  | [c0, c1, c2, c3, c4, c5], _ =>
    match xs, hlen with
    | [y0, y1, y2, y3, y4, y5], _ =>
      have g0 := hf 0 _ rfl
      have g1 := hf 1 _ rfl
      have g2 := hf 2 _ rfl
      have g3 := hf 3 _ rfl
      have g4 := hf 4 _ rfl
      have g5 := hf 5 _ rfl
      simp only [List.getElem?_cons_zero, List.getElem?_cons_succ] at g0 g1 g2 g3 g4 g5
      obtain ⟨k, e0, _, w0⟩ := DataW.trod_int Try.underlying5 g0
      obtain ⟨nm, e1, _, _⟩ := DataW.trod_string Try.underlying9 g1
      obtain ⟨ot, e2, _, _⟩ := DataW.trod_string Try.underlying9 g2
      obtain ⟨dt, e3, _, _⟩ := DataW.trod_string Try.underlying9 g3
      obtain ⟨m, e4, _, w4⟩ := DataW.trod_int Try.underlying3 g4
      obtain ⟨A, l, c, e5, hk⟩ := open_keep g5
      injection e0 with e0; injection e1 with e1; injection e2 with e2; injection e3 with e3; injection e4 with e4; injection e5 with e5
      subst e0 e1 e2 e3 e4 e5
      exact ⟨⟨k, nm, ot, dt, m, A, l, c⟩, rfl, w0, w4, hk⟩
end Go.Proofs.Ytceldekbkffhpaa
