/-
  Orders in plain words: which may be, their bytes, and what is read of a text. And what is asked of the fields, as it lies in memory.
-/
import Derived.Test.YtkdnhfeamibmdaaDoorPut
import Derived.Test.YtkdnhfeamibmdaaDoorGet
namespace Go.Proofs.YtkdnhfeamibmdaaDoor
open Go.RowKit
open Go.Lib (uvarint zigzag unzigzag uvarint_small uvarint_big)
/-- An order. -/
structure Od where
  id : Int
  st : Int
  ex : Int
  ki : Int
  ar : Int
  deriving DecidableEq
def Od.l (o : Od) : List Int := [o.id, o.st, o.ex, o.ki, o.ar]
def Od.v (o : Od) : Value := .agg #[.int .i64 o.id, .int .i64 o.st, .int .i64 o.ex, .int .i64 o.ki, .int .i64 o.ar]
def Od.ints (o : Od) : Prop := ∀ n ∈ o.l, -9223372036854775808 ≤ n ∧ n ≤ 9223372036854775807
def Od.may (o : Od) : Bool := decide (1 ≤ o.id ∧ o.id ≤ 2147483647 ∧ 0 ≤ o.st ∧ o.st ≤ 3 ∧ -1 ≤ o.ex ∧ o.ex ≤ 2147483647 ∧ 1 ≤ o.ki ∧ o.ki ≤ 4 ∧ -1048576 ≤ o.ar ∧ o.ar ≤ 1048576)
def Od.enc (o : Od) : List UInt8 := mark o.id ++ (mark o.st ++ (mark o.ex ++ (mark o.ki ++ mark o.ar)))
/-- What Check answers. -/
def Od.err (o : Od) : Int := if o.may then 0 else 2
def Od.encR (o : Od) : Value := if o.may then .tuple #[.string ⟨o.enc.toArray⟩, .int .i64 0] else .tuple #[.string ⟨#[]⟩, .int .i64 2]
def Od.none : Od := ⟨0, 0, 0, 0, 0⟩

/-- So many marks, one behind the other, at a place: their ints, and the place behind them. -/
def gots : Nat → List UInt8 → Int → Option (List Int × Int)
  | 0, _, a => some ([], a)
  | k + 1, l, a => match got l a with
    | .none => .none
    | some (n, b) => (gots k l b).map fun p => (n :: p.1, p.2)
def odOf (l : List Int) : Od := ⟨l.getD 0 0, l.getD 1 0, l.getD 2 0, l.getD 3 0, l.getD 4 0⟩
/-- What is read of a whole text. -/
def decO (l : List UInt8) : Option Od := match gots 5 l 0 with
  | .none => .none
  | some (ns, k) => if k = l.length ∧ (odOf ns).may = true then some (odOf ns) else .none
def decR (l : List UInt8) : Value := match decO l with
  | .none => .tuple #[Od.none.v, .int .i64 30]
  | some o => .tuple #[o.v, .int .i64 0]

theorem gots_len : ∀ (k : Nat) (l : List UInt8) (a : Int) (ns : List Int) (b : Int), gots k l a = some (ns, b) → ns.length = k
  | 0, l, a, ns, b, h => by simp [gots] at h; simp [h.1.symm]
  | k + 1, l, a, ns, b, h => by
    simp only [gots] at h
    split at h
    · cases h
    · rename_i n c hg
      obtain ⟨p, hp, he⟩ := Option.map_eq_some_iff.1 h
      simp only [Prod.mk.injEq] at he
      obtain ⟨rfl, rfl⟩ := he
      simp [gots_len k l c p.1 p.2 hp]

theorem gots_nat : ∀ {k : Nat} {l : List UInt8} {a : Nat} {ns : List Int} {b : Int}, gots k l a = some (ns, b) → ∃ j : Nat, b = j
  | 0, l, a, ns, b, h => by simp [gots] at h; exact ⟨a, h.2.symm⟩
  | k + 1, l, a, ns, b, h => by
    simp only [gots] at h
    split at h
    · cases h
    · rename_i n c hg
      obtain ⟨p, hp, he⟩ := Option.map_eq_some_iff.1 h
      simp only [Prod.mk.injEq] at he
      obtain ⟨rfl, rfl⟩ := he
      exact gots_nat (ns := p.1) hp
/-- What is asked of the fields lies in memory as the program's text has it. -/
def Asked (w : World) : Prop := w.cell? ⟨8, 0, none⟩ = some (.int .i64 1) ∧ w.cell? ⟨8, 1, none⟩ = some (.int .i64 2147483647) ∧
  w.cell? ⟨8, 2, none⟩ = some (.int .i64 0) ∧ w.cell? ⟨8, 3, none⟩ = some (.int .i64 3) ∧
  w.cell? ⟨8, 4, none⟩ = some (.int .i64 (-1)) ∧ w.cell? ⟨8, 5, none⟩ = some (.int .i64 2147483647) ∧
  w.cell? ⟨8, 6, none⟩ = some (.int .i64 1) ∧ w.cell? ⟨8, 7, none⟩ = some (.int .i64 4) ∧
  w.cell? ⟨8, 8, none⟩ = some (.int .i64 (-1048576)) ∧ w.cell? ⟨8, 9, none⟩ = some (.int .i64 1048576) ∧ 8 < w.heap.size
theorem Asked.keep {w w' : World} (h : Asked w) (hb : Below w.heap.size w w') : Asked w' := by
  obtain ⟨h0, h1, h2, h3, h4, h5, h6, h7, h8, h9, hz⟩ := h
  have hs := hb.size
  refine ⟨?_, ?_, ?_, ?_, ?_, ?_, ?_, ?_, ?_, ?_, by omega⟩ <;> (rw [hb.cell hz]; assumption)
end Go.Proofs.YtkdnhfeamibmdaaDoor
