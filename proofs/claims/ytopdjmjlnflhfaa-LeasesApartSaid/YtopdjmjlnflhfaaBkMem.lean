/-
  A book in memory: the head, and the map of its grants.
-/
import Derived.Test.YtopdjmjlnflhfaaBkMath
import Derived.Test.YtopdjmjlnflhfaaFoot
import Derived.Test.YtopdjmjlnflhfaaDQuiet
import Derived.Maps.OwnSet
import Derived.Maps.Views
namespace Go.Proofs.Ytopdjmjlnflhfaa
open Go.RowKit Go.Sort Go.Maps
def gkey (s : Int) : Lit := .int .i64 s
theorem int_key : Keyed Try.prog 3 := int_keyed Try.underlying3
theorem keyOf_s {s : Int} (h : (Lit.int .i64 s).wf = true) : keyOf Try.prog 3 (.int .i64 s) = some (gkey s) := keyOf_int_mk Try.underlying3 h
theorem gkey_ne {a b : Int} (h : a ≠ b) : gkey a ≠ gkey b := fun e => h (by injection e)
/-- How a grant reads. -/
def gElem : Value → Option (DataW Unit × List MemPlace)
  | .agg cs => match cs.toList with
    | [.int .i64 e, .int .i64 o] => some (.agg [.lit (.int .i64 e), .lit (.int .i64 o)], [])
    | _ => none
  | _ => none
theorem gElem_mk (e o : Int) : gElem (.agg #[.int .i64 e, .int .i64 o]) = some (.agg [.lit (.int .i64 e), .lit (.int .i64 o)], []) := rfl
theorem gElem_inv {v : Value} {z : DataW Unit × List MemPlace} (h : gElem v = some z) : ∃ e o, v = .agg #[.int .i64 e, .int .i64 o] ∧ z = (.agg [.lit (.int .i64 e), .lit (.int .i64 o)], []) := by
  unfold gElem at h
  split at h
  · rename_i cs
    split at h
    · rename_i e o hc
      obtain ⟨l⟩ := cs
      simp at hc
      subst hc
      injection h with h
      exact ⟨e, o, rfl, h.symm⟩
    · cases h
  · cases h
/-- The map says what was granted. -/
def Says (D : DataW Unit) (g : Int → Option (Int × Int)) : Prop := ∀ s : Int, match g s with
  | some x => Maps.has D (gkey s) = true ∧ ∀ z, D.atKey (gkey s) z = .agg [.lit (.int .i64 x.1), .lit (.int .i64 x.2)]
  | none => Maps.has D (gkey s) = false
theorem says_none : Says (.map []) fun _ => none := fun _ => rfl
theorem Says.put {D : DataW Unit} {B : Lea.Bk} (h : Says D B.g) (hm : IsMap D) {s : Int} (hs : (Lit.int .i64 s).wf = true) (x : Int × Int) : Says (D.put (gkey s) (.agg [.lit (.int .i64 x.1), .lit (.int .i64 x.2)])) (B.set s x).g := fun t => by
  have hk : WideAt.IsKeyLit (gkey s) := int_key.key (keyOf_s hs)
  unfold Lea.Bk.set
  dsimp only
  by_cases e : t = s
  · subst e
    rw [if_pos rfl]
    exact ⟨has_put_same hm hk _, fun z => atKey_put_same hm hk _ z⟩
  · rw [if_neg e]
    have h1 := h t
    cases hg : B.g t with
    | some y =>
      rw [hg] at h1
      exact ⟨by rw [has_put_other (gkey_ne e)]; exact h1.1, fun z => by rw [atKey_put_other (gkey_ne e)]; exact h1.2 z⟩
    | none =>
      rw [hg] at h1
      dsimp only at h1 ⊢
      rw [has_put_other (gkey_ne e)]; exact h1
/-- The pointer to block p holds the book B, whose grants lie in the map of block m; at most n were put there. -/
structure IsBk (w : World) (p m n : Nat) (B : Lea.Bk) : Prop where
  head : w.heap[p]? = some (.cells #[.int .i64 B.grace, .map (some m)] 31 (0, 0))
  map : ∃ D, w.ownsMap Try.prog 3 gElem m n D ∧ Says D B.g
  good : Lea.Good B
theorem IsBk.lt {w : World} {p m n : Nat} {B : Lea.Bk} (h : IsBk w p m n B) : p < w.heap.size := lt_of_block h.head
theorem IsBk.mlt {w : World} {p m n : Nat} {B : Lea.Bk} (h : IsBk w p m n B) : m < w.heap.size := by obtain ⟨D, hD, _⟩ := h.map; exact hD.lt
theorem IsBk.ne {w : World} {p m n : Nat} {B : Lea.Bk} (h : IsBk w p m n B) : p ≠ m := by
  obtain ⟨D, ⟨es, cl, hb, _⟩, _⟩ := h.map
  rintro rfl
  rw [h.head] at hb
  cases hb
theorem owns_block {w w' : World} {m n : Nat} {D : DataW Unit} {k : TypeId} (h : w.ownsMap Try.prog k gElem m n D) (hb : w'.heap[m]? = w.heap[m]?) : w'.ownsMap Try.prog k gElem m n D := by
  obtain ⟨es, cl, h1, h2⟩ := h
  exact ⟨es, cl, hb.trans h1, h2⟩
theorem IsBk.kept {w w' : World} {p m n : Nat} {B : Lea.Bk} (h : IsBk w p m n B) (hp : w'.heap[p]? = w.heap[p]?) (hm : w'.heap[m]? = w.heap[m]?) : IsBk w' p m n B := by
  obtain ⟨D, hD, hs⟩ := h.map
  exact ⟨hp.trans h.head, ⟨D, owns_block hD hm, hs⟩, h.good⟩
theorem IsBk.below {w w' : World} {p m n : Nat} {B : Lea.Bk} (h : IsBk w p m n B) (hb : Below w.heap.size w w') : IsBk w' p m n B := h.kept (hb.block p h.lt) (hb.block m h.mlt)
theorem IsBk.foot {w w' : World} {p m n : Nat} {B : Lea.Bk} {S : Nat → Prop} (h : IsBk w p m n B) (hb : Foot S w w') (hp : ¬ S p) (hm : ¬ S m) : IsBk w' p m n B := h.kept (hb.block p h.lt hp) (hb.block m h.mlt hm)
theorem IsBk.more {w : World} {p m n k : Nat} {B : Lea.Bk} (h : IsBk w p m n B) (hk : n ≤ k) : IsBk w p m k B := by
  obtain ⟨D, hD, hs⟩ := h.map
  exact ⟨h.head, ⟨D, hD.mono hk, hs⟩, h.good⟩
theorem IsBk.grace {w : World} {p m n : Nat} {B : Lea.Bk} (h : IsBk w p m n B) : w.cell? ⟨p, 0, none⟩ = some (.int .i64 B.grace) := by
  rw [cell_of_row w p _ _ _ _ h.head]; rfl
theorem IsBk.ptr {w : World} {p m n : Nat} {B : Lea.Bk} (h : IsBk w p m n B) : w.cell? ⟨p, 1, none⟩ = some (.map (some m)) := by
  rw [cell_of_row w p _ _ _ _ h.head]; rfl
theorem zero_grant (w : World) : (zeroValue 41).run Try.prog w = .ok (.agg #[.int .i64 0, .int .i64 0]) w := by kernel_rfl
section
variable {w : World} {p m n : Nat} {B : Lea.Bk} {s : Int}
theorem IsBk.ok_some (h : IsBk w p m n B) (hs : (Lit.int .i64 s).wf = true) {e o : Int} (hg : B.g s = some (e, o)) :
    (Instr.lookup 29 (.map (some m)) (.int .i64 s) true).run Try.prog w = .ok (.tuple #[.agg #[.int .i64 e, .int .i64 o], .bool true]) w := by
  obtain ⟨D, hD, hS⟩ := h.map
  obtain ⟨v, ps, hrun, hv⟩ := hD.look_ok int_key Try.underlying29 (zero_grant w) (gElem_mk 0 0) (keyOf_s hs)
  have h1 := hS s
  rw [hg] at h1
  rw [h1.2] at hv
  obtain ⟨e', o', rfl, hz⟩ := gElem_inv hv
  simp at hz
  obtain ⟨⟨rfl, rfl⟩, _⟩ := hz
  rw [hrun, h1.1]
theorem IsBk.ok_none (h : IsBk w p m n B) (hs : (Lit.int .i64 s).wf = true) (hg : B.g s = none) :
    (Instr.lookup 29 (.map (some m)) (.int .i64 s) true).run Try.prog w = .ok (.tuple #[.agg #[.int .i64 0, .int .i64 0], .bool false]) w := by
  obtain ⟨D, hD, hS⟩ := h.map
  obtain ⟨v, ps, hrun, hv⟩ := hD.look_ok int_key Try.underlying29 (zero_grant w) (gElem_mk 0 0) (keyOf_s hs)
  have h1 := hS s
  rw [hg] at h1
  rw [atKey_of_not_has h1] at hv
  obtain ⟨e', o', rfl, hz⟩ := gElem_inv hv
  simp at hz
  obtain ⟨⟨rfl, rfl⟩, _⟩ := hz
  rw [hrun, h1]
theorem IsBk.at_some (h : IsBk w p m n B) (hs : (Lit.int .i64 s).wf = true) {e o : Int} (hg : B.g s = some (e, o)) :
    (Instr.lookup 29 (.map (some m)) (.int .i64 s) false).run Try.prog w = .ok (.agg #[.int .i64 e, .int .i64 o]) w := by
  obtain ⟨D, hD, hS⟩ := h.map
  obtain ⟨v, ps, hrun, hv⟩ := hD.lookup int_key Try.underlying29 (zero_grant w) (gElem_mk 0 0) (keyOf_s hs)
  have h1 := hS s
  rw [hg] at h1
  rw [h1.2] at hv
  obtain ⟨e', o', rfl, hz⟩ := gElem_inv hv
  simp at hz
  obtain ⟨⟨rfl, rfl⟩, _⟩ := hz
  rw [hrun]
theorem IsBk.at_none (h : IsBk w p m n B) (hs : (Lit.int .i64 s).wf = true) (hg : B.g s = none) :
    (Instr.lookup 29 (.map (some m)) (.int .i64 s) false).run Try.prog w = .ok (.agg #[.int .i64 0, .int .i64 0]) w := by
  obtain ⟨D, hD, hS⟩ := h.map
  obtain ⟨v, ps, hrun, hv⟩ := hD.lookup int_key Try.underlying29 (zero_grant w) (gElem_mk 0 0) (keyOf_s hs)
  have h1 := hS s
  rw [hg] at h1
  rw [atKey_of_not_has h1] at hv
  obtain ⟨e', o', rfl, hz⟩ := gElem_inv hv
  simp at hz
  obtain ⟨⟨rfl, rfl⟩, _⟩ := hz
  rw [hrun]
end
section
variable {P : Program} {ops : Array Oper} {rest : List Oper} {o : Oper} {a : Act} {w w' : World} {Q : Exit → Act → World → Prop}
/-- A look-up whose run is known, in the walk. -/
theorem wpList_lookup_known (hgd : o.guard = none) (t : TypeId) (m x : Operand) (c : Bool) (ho : o.op = .lookup t m x c) (vm vx v : Value) (hm : a.eval m = vm) (hx : a.eval x = vx) (hr : (Instr.lookup t vm vx c).run P w = .ok v w)
    (h : wpList P ops Q rest (a.put o.dst v) w) : wpList P ops Q (o :: rest) a w :=
  wpList_plain hgd fun K hK => by
    unfold Oper.wp
    simp [execOp, ho, hm, hx, hr, Result.andThen]
    exact hK _ _ h
end
/-- What a call leaves that changes a book. -/
def Bks (w : World) (p m n : Nat) (r : Int) (B' : Lea.Bk) (e : Ending) (w' : World) : Prop := e = .returned (.int .i64 r) ∧ IsBk w' p m n B' ∧ Foot (fun k => k = m) w w'
end Go.Proofs.Ytopdjmjlnflhfaa
