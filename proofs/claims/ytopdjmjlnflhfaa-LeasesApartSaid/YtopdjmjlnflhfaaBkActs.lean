/-
  A slice of acts that is handed in.
-/
import Derived.Test.YtopdjmjlnflhfaaBkArr
import Derived.Deep.Slices
import Derived.WalkKit
namespace Go.Proofs.Ytopdjmjlnflhfaa
open Go.ChangeShapes Go.WideShapes Go.ChangeAt Go.RowKit
/-- An act: its kind, stream, epoch, tick. -/
structure LA where
  k : Int
  s : Int
  e : Int
  t : Int
instance laInh : Inhabited LA := ⟨⟨0, 0, 0, 0⟩⟩
structure LA.Wf (x : LA) : Prop where
  k0 : 0 ≤ x.k
  k1 : x.k < 256
  s : (Lit.int .i64 x.s).wf = true
  e : (Lit.int .i64 x.e).wf = true
  t : (Lit.int .i64 x.t).wf = true
/-- A slice that reads as these acts. -/
def LActs (w : World) (v : Value) (l : List LA) : Prop := ∃ A c, v = .slice A l.length c ∧ l.length ≤ c ∧ c ≤ maxLen ∧
  (0 < l.length → ∃ b o, A = some ⟨b, o, none⟩ ∧ b < w.heap.size ∧ ∀ j (hj : j < l.length), w.cell? ⟨b, o + j * 4, none⟩ = some (.int .u8 l[j].k) ∧ w.cell? ⟨b, o + j * 4 + 1, none⟩ = some (.int .i64 l[j].s) ∧
    w.cell? ⟨b, o + j * 4 + 2, none⟩ = some (.int .i64 l[j].e) ∧ w.cell? ⟨b, o + j * 4 + 3, none⟩ = some (.int .i64 l[j].t))
theorem cellsLA : Try.prog.cellsOf 38 = 4 := by kernel_rfl
theorem cellsU8 : Try.prog.cellsOf 5 = 1 := by kernel_rfl
set_option maxRecDepth 100000 in
theorem open_la {H : Type} {enc : TypeId × Value → H} {w : World} {sp : Nat → Bool} {fuel : Nat} {cs : List Value} {y : DataW H × List MemPlace} (h : DataW.trod enc Try.prog w 0 sp true fuel 38 cs = some y) :
    ∃ x : LA, cs = [.int .u8 x.k, .int .i64 x.s, .int .i64 x.e, .int .i64 x.t] ∧ x.Wf := by
  obtain ⟨xs, n, _, _, hl, hlen, hf⟩ := DataW.trod_struct Try.underlying38 h
  rw [cellsLA] at hl
  match cs, hl with
  | [c0, c1, c2, c3], _ =>
    match xs, hlen with
    | [y0, y1, y2, y3], _ =>
      have g0 := hf 0 _ rfl
      have g1 := hf 1 _ rfl
      have g2 := hf 2 _ rfl
      have g3 := hf 3 _ rfl
      simp only [List.getElem?_cons_zero, List.getElem?_cons_succ] at g0 g1 g2 g3
      obtain ⟨k, e0, _, w0⟩ := DataW.trod_int Try.underlying5 g0
      obtain ⟨s, e1, _, w1⟩ := DataW.trod_int Try.underlying3 g1
      obtain ⟨e, e2, _, w2⟩ := DataW.trod_int Try.underlying3 g2
      obtain ⟨t, e3, _, w3⟩ := DataW.trod_int Try.underlying3 g3
      injection e0 with e0; injection e1 with e1; injection e2 with e2; injection e3 with e3
      subst e0 e1 e2 e3
      have hk : 0 ≤ k ∧ k < 256 := by simp [Lit.wf, IntKind.min, IntKind.max, IntKind.signed, IntKind.bits] at w0; omega
      exact ⟨⟨k, s, e, t⟩, rfl, hk.1, hk.2, w1, w2, w3⟩
theorem open_las {H : Type} {enc : TypeId × Value → H} {w : World} {sp : Nat → Bool} {fuel : Nat} {cs : List Value} {y : DataW H × List MemPlace} (h : DataW.trod enc Try.prog w 0 sp true fuel 36 cs = some y) :
    ∃ A n c l, cs = [.slice A n c] ∧ l.length = n ∧ LActs w (.slice A n c) l ∧ ∀ x ∈ l, LA.Wf x := by
  rcases Go.Deep.open_slice Try.underlying36 h with ⟨rfl, _⟩ | ⟨a, len, cap, m, n, D, Pl, rfl, _, hl, hm, hmm, _, hx⟩
  · exact ⟨none, 0, 0, [], rfl, rfl, ⟨none, 0, rfl, Nat.le_refl _, Nat.zero_le _, fun h => by simp at h⟩, fun x hx => (List.not_mem_nil hx).elim⟩
  · have hlm : len ≤ m := by rw [hmm]; split <;> omega
    have each : ∀ i, i < len → ∃ x : LA, (w.cell? (a.add (i * 4 + 0)) = some (.int .u8 x.k) ∧ w.cell? (a.add (i * 4 + 1)) = some (.int .i64 x.s) ∧ w.cell? (a.add (i * 4 + 2)) = some (.int .i64 x.e) ∧ w.cell? (a.add (i * 4 + 3)) = some (.int .i64 x.t)) ∧ x.Wf := by
      intro i hi
      obtain ⟨cs', h1, h2⟩ := hx i (by omega)
      rw [cellsLA] at h1
      obtain ⟨_, hlen, hcell⟩ := World.cells?_some h1
      obtain ⟨x, rfl, hat⟩ := open_la h2
      have e := fun j hj => hcell j hj
      simp only [Go.Deep.add_add] at e
      exact ⟨x, ⟨e 0 (by omega), e 1 (by omega), e 2 (by omega), e 3 (by omega)⟩, hat⟩
    obtain ⟨X, hX⟩ := Go.Deep.choose_lt each
    have hln : ((List.range len).map X).length = len := by simp
    refine ⟨some a, len, cap, (List.range len).map X, rfl, hln, ⟨some a, cap, by rw [hln], by omega, hm, fun h0 => ?_⟩, fun x hx => ?_⟩
    · rw [hln] at h0
      obtain ⟨b, o, spot⟩ := a
      have hc0 := (hX 0 h0).1.1
      have hspot : spot = none := by
        have := World.cell?_spot hc0
        simpa [Addr.add] using this
      subst hspot
      have ad : ∀ k, (⟨b, o, none⟩ : Addr).add k = ⟨b, o + k, none⟩ := fun k => by simp [Addr.add]
      refine ⟨b, o, rfl, World.block_lt_of_cell? w _ (by rw [ad] at hc0; exact hc0), fun j hj => ?_⟩
      have hj' : j < len := by rw [hln] at hj; exact hj
      have hxj : ((List.range len).map X)[j] = X j := by simp
      rw [hxj]
      have g := (hX j hj').1
      simp only [ad, Nat.add_zero] at g
      simpa only [Nat.add_assoc] using g
    · obtain ⟨i, hi, rfl⟩ := List.mem_map.1 hx
      exact (hX i (List.mem_range.1 hi)).2
end Go.Proofs.Ytopdjmjlnflhfaa
