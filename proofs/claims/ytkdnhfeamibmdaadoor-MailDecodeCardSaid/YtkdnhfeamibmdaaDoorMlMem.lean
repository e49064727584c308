/-
  Messages as they stand in memory; what lies in the package-level variables.
-/
import Derived.Test.YtkdnhfeamibmdaaDoorMlMath
import Derived.Deep.WholeRow
import Derived.Laws.ResultCell
namespace Go.Proofs.YtkdnhfeamibmdaaDoor
open Go.RowKit
/-- A message's cells: its entries lie in v. -/
def Ml.cells (m : Ml) (v : Value) : List Value :=
  [.int .i64 m.ki, .int .i64 m.fr, .int .i64 m.tt, .int .i64 m.st, .int .i64 m.ep, .int .i64 m.vi, .int .i64 m.ba, .int .i64 m.le, .int .i64 m.sp, v,
   .int .i64 m.o.id, .int .i64 m.o.st, .int .i64 m.o.ex, .int .i64 m.o.ki, .int .i64 m.o.ar, .int .i64 m.ai, .int .i64 m.ac, .int .i64 m.av]
def Ml.v (m : Ml) (v : Value) : Value := .agg (m.cells v).toArray
/-- A message's box. -/
def MlBox (w : World) (b : Nat) (m : Ml) (v : Value) : Prop := w.heap[b]? = some (.cells (m.cells v).toArray 45 (0, 0))
theorem MlBox.cell {w : World} {b : Nat} {m : Ml} {v : Value} (h : MlBox w b m v) (j : Nat) : w.cell? ⟨b, j, none⟩ = (m.cells v)[j]? := by
  rw [cell_of_row w b j _ _ _ h]; simp
theorem MlBox.lt {w : World} {b : Nat} {m : Ml} {v : Value} (h : MlBox w b m v) : b < w.heap.size := (Array.getElem?_eq_some_iff.1 h).1
theorem MlBox.bel {n : Nat} {w w' : World} {b : Nat} {m : Ml} {v : Value} (h : MlBox w b m v) (hb : Below n w w') (hn : b < n) : MlBox w' b m v := (hb.block b hn).trans h
theorem MlBox.new (w : World) (m : Ml) (v : Value) : MlBox (w.alloc (.cells (m.cells v).toArray 45)) w.heap.size m v := heap_alloc_new _ _
/-- The table of the kinds' fields lies in memory as the program's text has it. -/
def Kinds (w : World) : Prop := 6 < w.heap.size ∧ ∀ i, i < 11 → w.cell? ⟨6, i, none⟩ = ([0, 35, 119, 3, 123, 51, 19, 128, 257, 3, 3] : List Int)[i]?.map (Value.int .u64)
def masksL : List Value := [.int .u64 1, .int .i64 0, .int .i64 3, .int .u64 2, .int .i64 1, .int .i64 1048576, .int .u64 4, .int .i64 0, .int .i64 1048576, .int .u64 8, .int .i64 0, .int .i64 64, .int .u64 16, .int .i64 0, .int .i64 64, .int .u64 32, .int .i64 0, .int .i64 1073741824]
/-- The table of what is asked of a message's numbers lies in memory as the program's text has it. -/
def Masks (w : World) : Prop := 7 < w.heap.size ∧ ∀ i, i < 18 → w.cell? ⟨7, i, none⟩ = masksL[i]?
theorem Kinds.keep {w w' : World} (h : Kinds w) (hb : Below w.heap.size w w') : Kinds w' := ⟨Nat.lt_of_lt_of_le h.1 hb.size, fun i hi => (hb.cell (p := ⟨6, i, none⟩) h.1).trans (h.2 i hi)⟩
theorem Masks.keep {w w' : World} (h : Masks w) (hb : Below w.heap.size w w') : Masks w' := ⟨Nat.lt_of_lt_of_le h.1 hb.size, fun i hi => (hb.cell (p := ⟨7, i, none⟩) h.1).trans (h.2 i hi)⟩
section
variable {P : Program}
/-- A load whose run is known, in the walk. -/
theorem wpList_load_run {ops : Array Oper} {rest : List Oper} {o : Oper} {a : Act} {w : World} {Q : Exit → Act → World → Prop} (hgd : o.guard = none) (ty : TypeId) (x : Operand) (ho : o.op = .load ty x)
    (ad : Addr) (hx : a.eval x = .pointer (some ad)) {v : Value} (hr : (loadVar ty ad).run P w = .ok v w) (h : wpList P ops Q rest (a.put o.dst v) w) : wpList P ops Q (o :: rest) a w :=
  wpList_plain hgd fun K hK => by
    unfold Oper.wp execOp
    simp only [ho, hx, Instr.loadAt, Instr.sureAddr, Sem.run_bind, Sem.run_pure, Result.andThen_ok, hr]
    exact hK _ _ h
/-- A guarded load whose run is known. -/
theorem wpList_load_want {ops : Array Oper} {rest : List Oper} {o : Oper} {a : Act} {w : World} {Q : Exit → Act → World → Prop} (hw : Region.wanted o (yielded ops a.tmps) = true) (ty : TypeId) (x : Operand) (ho : o.op = .load ty x)
    (ad : Addr) (hx : a.eval x = .pointer (some ad)) {v : Value} (hr : (loadVar ty ad).run P w = .ok v w) (h : wpList P ops Q rest (a.put o.dst v) w) : wpList P ops Q (o :: rest) a w := by
  show (if Region.wanted o (yielded ops a.tmps) then o.wp P a w (wpList P ops Q rest) Q ∨ (o.asks P a w ∧ LetsOut Q) else wpList P ops Q rest (a.put o.dst undef) w)
  rw [if_pos hw]
  left
  unfold Oper.wp execOp
  simp only [ho, hx, Instr.loadAt, Instr.sureAddr, Sem.run_bind, Sem.run_pure, Result.andThen_ok, hr]
  exact h
end
/-- A box loaded whole. -/
theorem MlBox.load {w : World} {b : Nat} {m : Ml} {v : Value} (h : MlBox w b m v) : (loadVar 45 ⟨b, 0, none⟩).run Tryd.prog w = .ok (m.v v) w :=
  run_loadVar_row w b _ _ (m.cells v).toArray _ _ h Tryd.underlying45 rfl (by kernel_rfl)
theorem masks_size : (Tryd.prog.info? 123).map (fun i => i.size) = some 18 := by kernel_rfl
theorem Masks.load {w : World} (h : Masks w) : (loadVar 123 ⟨7, 0, none⟩).run Tryd.prog w = .ok (.agg masksL.toArray) w := by
  have hl := run_loadCells_list (P := Tryd.prog) w ⟨7, 0, none⟩ masksL (fun j u hu => by
    have hj : j < 18 := (List.getElem?_eq_some_iff.1 hu).1
    rw [Addr.add_lit, Nat.zero_add, h.2 j hj]; exact hu)
  have hagg : (isAgg 123).run Tryd.prog w = .ok true w := by
    unfold isAgg
    rw [Sem.run_bind, run_underlying Tryd.underlying123 w]
    rfl
  have hi := masks_size
  cases hq : Tryd.prog.info? 123 with
  | none => rw [hq] at hi; cases hi
  | some i =>
    rw [hq] at hi
    have hz : i.size = 18 := Option.some.inj hi
    rw [show masksL.length = 18 from rfl] at hl
    simp [loadVar, Sem.run_bind, hagg, sizeOf, typeInfo, hq, hz, hl]
structure AskM (w : World) : Prop where
  rc : AskR w
  kinds : Kinds w
  masks : Masks w
theorem AskM.keep {w w' : World} (h : AskM w) (hb : Below w.heap.size w w') : AskM w' := ⟨h.rc.keep hb, h.kinds.keep hb, h.masks.keep hb⟩
theorem AskM.keepN {n : Nat} {w w' : World} (h : AskM w) (hb : Below n w w') (hn : w.heap.size ≤ n) : AskM w' := h.keep (hb.mono hn)
end Go.Proofs.YtkdnhfeamibmdaaDoor
