/-
  Single steps of the region that lays a message's entries in a row of the law's own.
-/
import Derived.Test.YtlejlmlgcehjiaaNMade
import Derived.Test.YtlejlmlgcehjiaaKLast
namespace Go.Proofs.Ytlejlmlgcehjiaa
open Go.RowKit
section
variable {ops : Array Oper} {o : Oper} {a : Act} {w : World} {K : Act → World → Prop} {Q : Exit → Act → World → Prop} {E : Prop}
/-- A row that is made, in new memory. -/
theorem step_make_own (hg : o.guard = none) (x y : Operand) (hop : o.op = Op.makeSlice 30 x y) {base n : Nat} (hn : n ≤ 100000) (hb : base ≤ w.heap.size) (hx : a.eval x = .int .i64 0) (hy : a.eval y = .int .i64 (n : Int))
    (hK : ∀ (g : Nat) (w' : World), w'.ownsRow base 40 6 (.slice (some ⟨g, 0, none⟩) 0 n) 0 [] → w.heap.size ≤ g → Below w.heap.size w w' → K (a.put o.dst (.slice (some ⟨g, 0, none⟩) 0 n)) w') :
    if Region.wanted o (yielded ops a.tmps) = true then Oper.wp Try.prog o a w K Q else E := by
  rw [if_pos (by simp [Region.wanted, hg])]
  unfold Oper.wp
  simp only [execOp, hop, Sem.run_bind, Sem.run_pure]
  rw [hx, hy, emade_run w n hn]
  exact hK w.heap.size _ (emade_own w hn rfl hb) (Nat.le_refl _) ((Below.refl _ _).alloc (Nat.le_refl _) _)
/-- The literal's row of one entry. -/
theorem step_lit70 (hg : o.guard = none) (parts : Array (Nat × Operand)) (hop : o.op = Op.buildSlice 30 1 parts) (hp : parts.map (fun (i, x) => (i, a.eval x)) = #[(0, .agg #[.int .i64 (-70), .int .i64 0, .int .i64 0, .int .i64 0, .int .i64 0, .int .i64 0])])
    (hK : ∀ (g : Nat) (w' : World), w'.heap[g]? = some (.cells #[.int .i64 (-70), .int .i64 0, .int .i64 0, .int .i64 0, .int .i64 0, .int .i64 0] 40 (0, 0)) → w.heap.size ≤ g → Below w.heap.size w w' → K (a.put o.dst (.slice (some ⟨g, 0, none⟩) 1 1)) w') :
    if Region.wanted o (yielded ops a.tmps) = true then Oper.wp Try.prog o a w K Q else E := by
  rw [if_pos (by simp [Region.wanted, hg])]
  unfold Oper.wp
  simp only [execOp, hop, Sem.run_bind, Sem.run_pure]
  rw [hp, show (Instr.buildSlice 30 1 #[(0, .agg #[.int .i64 (-70), .int .i64 0, .int .i64 0, .int .i64 0, .int .i64 0, .int .i64 0])]).run Try.prog w = _ from build_70 w]
  exact hK w.heap.size _ (heap_alloc_new w _) (Nat.le_refl _) ((Below.refl _ _).alloc (Nat.le_refl _) _)
end
theorem ents_lit {X : World} {g : Nat} (h : X.heap[g]? = some (.cells #[.int .i64 (-70), .int .i64 0, .int .i64 0, .int .i64 0, .int .i64 0, .int .i64 0] 40 (0, 0))) : Ents X (.slice (some ⟨g, 0, none⟩) 1 1) [e70] :=
  EOwn.ents (base := 0) ⟨rfl, .inr ⟨g, 1, _, rfl, Nat.zero_le _, h, Nat.le_refl _, by decide, rfl, by simp [ecs, ecells, e70]⟩⟩
theorem below_grown0 {w w' : World} {n : Nat} (hb : Below n w w') (hn : w.heap.size ≤ n) : w.grownBy w' none := ⟨hb.os, hb.tape, hb.output, hb.size, fun q hq _ => hb.block q (by omega)⟩
theorem own_keep {X Y : World} {base n : Nat} {v : Value} {xs : List Value} (h : X.ownsRow base 40 6 v n xs) (hb : Below X.heap.size X Y) : Y.ownsRow base 40 6 v n xs :=
  h.kept (below_grown0 hb (Nat.le_refl _)) (Classical.or_iff_not_imp_left.2 fun h => h)
theorem heap_keep {X Y : World} {g : Nat} {b : Obj} {fr : Nat × Nat} {c : Array Value} {t : TypeId} (_ : b = .cells c t fr) (h : X.heap[g]? = some b) (hb : Below X.heap.size X Y) : Y.heap[g]? = some b := (hb.block g (by
  rcases Nat.lt_or_ge g X.heap.size with hl | hl
  · exact hl
  · rw [Array.getElem?_eq_none hl] at h; cases h)).trans h
theorem heap_grown {X Y : World} {row : Option Nat} {g : Nat} {b : Obj} (h : X.heap[g]? = some b) (hg : X.grownBy Y row) (hn : row ≠ some g) : Y.heap[g]? = some b := ((Foot.grown hg).block g (by
  rcases Nat.lt_or_ge g X.heap.size with hl | hl
  · exact hl
  · rw [Array.getElem?_eq_none hl] at h; cases h) hn).trans h
end Go.Proofs.Ytlejlmlgcehjiaa
