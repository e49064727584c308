/-
  Which orders may be; what is asked of their fields, as it lies in memory; registers and records in plain words, which may be, and what becomes of a register by a record.
-/
import Derived.Test.YtnbhdehpdfojlaaDoorLsMath
namespace Go.Proofs.YtnbhdehpdfojlaaDoor
open Go.RowKit
def Od.may (o : Od) : Bool := decide (1 ≤ o.id ∧ o.id ≤ 2147483647 ∧ 0 ≤ o.st ∧ o.st ≤ 3 ∧ -1 ≤ o.ex ∧ o.ex ≤ 2147483647 ∧ 1 ≤ o.ki ∧ o.ki ≤ 4 ∧ -1048576 ≤ o.ar ∧ o.ar ≤ 1048576)
/-- What Check answers. -/
def Od.err (o : Od) : Int := if o.may then 0 else 2
def Od.none : Od := ⟨0, 0, 0, 0, 0⟩
theorem Od.err_may (o : Od) : (o.err = 0) ↔ o.may = true := by unfold Od.err; cases o.may <;> simp
/-- What is asked of the fields lies in memory as the program's text has it. -/
def Asked (w : World) : Prop := w.cell? ⟨0, 0, none⟩ = some (.int .i64 1) ∧ w.cell? ⟨0, 1, none⟩ = some (.int .i64 2147483647) ∧
  w.cell? ⟨0, 2, none⟩ = some (.int .i64 0) ∧ w.cell? ⟨0, 3, none⟩ = some (.int .i64 3) ∧
  w.cell? ⟨0, 4, none⟩ = some (.int .i64 (-1)) ∧ w.cell? ⟨0, 5, none⟩ = some (.int .i64 2147483647) ∧
  w.cell? ⟨0, 6, none⟩ = some (.int .i64 1) ∧ w.cell? ⟨0, 7, none⟩ = some (.int .i64 4) ∧
  w.cell? ⟨0, 8, none⟩ = some (.int .i64 (-1048576)) ∧ w.cell? ⟨0, 9, none⟩ = some (.int .i64 1048576) ∧ 0 < w.heap.size
theorem Asked.keep {w w' : World} (h : Asked w) (hb : Below w.heap.size w w') : Asked w' := by
  obtain ⟨h0, h1, h2, h3, h4, h5, h6, h7, h8, h9, hz⟩ := h
  have hs := hb.size
  refine ⟨?_, ?_, ?_, ?_, ?_, ?_, ?_, ?_, ?_, ?_, by omega⟩ <;> (rw [hb.cell hz]; assumption)
theorem Asked.keepN {n : Nat} {w w' : World} (h : Asked w) (hb : Below n w w') (hn : w.heap.size ≤ n) : Asked w' := h.keep (hb.mono hn)
/-- Whether entries may be the log of a register of a view. -/
def logB (es : List En) (v : Int) : Bool := decide (es.length ≤ 64) && (risB es && es.all fun e => decide (1 ≤ e.ep ∧ e.ep ≤ v) && e.o.may)
/-- A register. -/
structure Re where
  p : Int
  v : Int
  es : List En
  m : Int
  deriving DecidableEq
def Re.zero : Re := ⟨0, 0, [], 0⟩
/-- Whether it may be. -/
def Re.may (r : Re) : Bool := decide (0 ≤ r.v) && (decide (r.v ≤ r.p) && (decide (r.p ≤ 1048576) && (logB r.es r.v && (decide (0 ≤ r.m) && decide (r.m ≤ r.es.length)))))
theorem Re.may_iff (r : Re) : r.may = true ↔ 0 ≤ r.v ∧ r.v ≤ r.p ∧ r.p ≤ 1048576 ∧ logB r.es r.v = true ∧ 0 ≤ r.m ∧ r.m ≤ r.es.length := by simp [Re.may]
/-- What is looked at of a record. -/
structure Rx where
  ki : Int
  ep : Int
  vi : Int
  fr : Int
  le : Int
  es : List En
  deriving DecidableEq
/-- From where on a log is put together. -/
def frm (r : Re) (e : Int) : Nat := if r.v < e then 0 else r.es.length
/-- What a record makes of a register that may be, and whether its kind is to come there. -/
def beh (r : Re) (x : Rx) : Re × Bool :=
  if x.ki = 1 then (⟨x.ep, r.v, r.es, r.m⟩, decide (r.p < x.ep))
  else if x.ki = 2 then
    if x.ep < 1 ∨ x.ep < r.p ∨ x.fr ≠ frm r x.ep then (Re.zero, false)
    else (⟨x.ep, x.ep, r.es.take (frm r x.ep) ++ x.es, r.m⟩, pre (r.es.take r.m.toNat) (r.es.take (frm r x.ep) ++ x.es))
  else if x.ki = 3 then (⟨r.p, r.v, r.es, x.le⟩, decide (r.m < x.le))
  else if x.ki = 4 then (⟨x.ep, x.vi, x.es, x.le⟩, decide (r.p = 0))
  else (Re.zero, false)
/-- The register behind the record, if that may come. -/
def app (r : Re) (x : Rx) : Option Re := if r.may = true ∧ (beh r x).2 = true ∧ (beh r x).1.may = true then some (beh r x).1 else none
theorem app_may {r r' : Re} {x : Rx} (h : app r x = some r') : r'.may = true ∧ r.may = true := by
  unfold app at h
  split at h
  · rename_i h1; injection h with h; subst h; exact ⟨h1.2.2, h1.1⟩
  · cases h
theorem Re.zero_may : Re.zero.may = true := by decide
/-- Behind records, those that may not come left out. -/
def behs (l : List Rx) : Re := l.foldl (fun r x => (app r x).getD r) Re.zero
theorem behs_snoc (l : List Rx) (x : Rx) : behs (l ++ [x]) = (app (behs l) x).getD (behs l) := by simp [behs]
theorem behs_may : ∀ l : List Rx, (behs l).may = true := by
  intro l
  rw [behs]
  suffices h : ∀ (l : List Rx) (r : Re), r.may = true → (l.foldl (fun r x => (app r x).getD r) r).may = true from h l _ Re.zero_may
  intro l
  induction l with
  | nil => intro r h; exact h
  | cons x l ih =>
    intro r h
    rw [List.foldl_cons]
    refine ih _ ?_
    cases ha : app r x with
    | none => exact h
    | some r' => exact (app_may ha).1
theorem logB_le {es : List En} {v : Int} (h : logB es v = true) : es.length ≤ 64 := by simp [logB] at h; exact h.1
theorem logB_mono {es : List En} {v v' : Int} (h : logB es v = true) (hv : v ≤ v') : logB es v' = true := by
  simp only [logB, Bool.and_eq_true, List.all_eq_true, decide_eq_true_eq] at h ⊢
  exact ⟨h.1, h.2.1, fun e he => ⟨⟨(h.2.2 e he).1.1, by have := (h.2.2 e he).1.2; omega⟩, (h.2.2 e he).2⟩⟩
end Go.Proofs.YtnbhdehpdfojlaaDoor
