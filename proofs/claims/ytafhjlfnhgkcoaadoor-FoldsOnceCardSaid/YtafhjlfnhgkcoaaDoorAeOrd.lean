/-
  Orders in plain words, without their bytes: which may be; and what is asked of the fields, as it lies in memory.
-/
import Derived.Test.YtafhjlfnhgkcoaaDoorRows
import Derived.WalkKit
import Derived.WalkSpells
import Derived.WalkLawsBesides
import Derived.Lib.Hide
import Derived.Below
import Derived.OwnWalk
import Derived.Laws.OwnMore
import Derived.Laws.BytesArg
import Derived.IntWalk
namespace Go.Proofs.YtafhjlfnhgkcoaaDoor
open Go.RowKit
theorem ret_int {k : IntKind} {a b : Int} (h : a = b) : Ending.returned (.int k a) = .returned (.int k b) := by rw [h]
theorem ret_bool {a b : Bool} (h : a = b) : Ending.returned (.bool a) = .returned (.bool b) := by rw [h]
/-- An order. -/
structure Od where
  id : Int
  st : Int
  ex : Int
  ki : Int
  ar : Int
  deriving DecidableEq
def Od.l (o : Od) : List Int := [o.id, o.st, o.ex, o.ki, o.ar]
def Od.v (o : Od) : Value := .agg #[.int .i64 o.id, .int .i64 o.st, .int .i64 o.ex, .int .i64 o.ki, .int .i64 o.ar]
def Od.ints (o : Od) : Prop := ∀ n ∈ o.l, -9223372036854775808 ≤ n ∧ n ≤ 9223372036854775807
def Od.may (o : Od) : Bool := decide (1 ≤ o.id ∧ o.id ≤ 2147483647 ∧ 0 ≤ o.st ∧ o.st ≤ 3 ∧ -1 ≤ o.ex ∧ o.ex ≤ 2147483647 ∧ 1 ≤ o.ki ∧ o.ki ≤ 4 ∧ -1048576 ≤ o.ar ∧ o.ar ≤ 1048576)
/-- What Check answers. -/
def Od.err (o : Od) : Int := if o.may then 0 else 2
def Od.none : Od := ⟨0, 0, 0, 0, 0⟩

/-- What is asked of the fields lies in memory as the program's text has it. -/
def Asked (w : World) : Prop := w.cell? ⟨0, 0, none⟩ = some (.int .i64 1) ∧ w.cell? ⟨0, 1, none⟩ = some (.int .i64 2147483647) ∧
  w.cell? ⟨0, 2, none⟩ = some (.int .i64 0) ∧ w.cell? ⟨0, 3, none⟩ = some (.int .i64 3) ∧
  w.cell? ⟨0, 4, none⟩ = some (.int .i64 (-1)) ∧ w.cell? ⟨0, 5, none⟩ = some (.int .i64 2147483647) ∧
  w.cell? ⟨0, 6, none⟩ = some (.int .i64 1) ∧ w.cell? ⟨0, 7, none⟩ = some (.int .i64 4) ∧
  w.cell? ⟨0, 8, none⟩ = some (.int .i64 (-1048576)) ∧ w.cell? ⟨0, 9, none⟩ = some (.int .i64 1048576) ∧ 0 < w.heap.size
theorem Asked.keep {w w' : World} (h : Asked w) (hb : Below w.heap.size w w') : Asked w' := by
  obtain ⟨h0, h1, h2, h3, h4, h5, h6, h7, h8, h9, hz⟩ := h
  have hs := hb.size
  refine ⟨?_, ?_, ?_, ?_, ?_, ?_, ?_, ?_, ?_, ?_, by omega⟩ <;> (rw [hb.cell hz]; assumption)
end Go.Proofs.YtafhjlfnhgkcoaaDoor
