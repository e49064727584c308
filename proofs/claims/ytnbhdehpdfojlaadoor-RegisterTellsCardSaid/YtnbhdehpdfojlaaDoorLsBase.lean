/-
  Entries and logs in plain words, and as they stand in memory; what a call leaves.
-/
import Derived.Test.YtnbhdehpdfojlaaDoorRows
import Derived.WalkKit
import Derived.WalkSpells
import Derived.WalkLawsBesides
import Derived.Lib.Hide
import Derived.Below
import Derived.OwnWalk
import Derived.Laws.OwnMore
import Derived.IntWalk
import Derived.Lib.LaidTab
import Derived.OpenShut
import Derived.Deep.Slices
import Derived.Deep.QuietTactic
import Derived.BigQuiet
import Derived.Lib.QuietBelow
import Derived.Laws.EntriesVeiled
namespace Go.Proofs.YtnbhdehpdfojlaaDoor
open Go.RowKit
theorem ret_int {k : IntKind} {a b : Int} (h : a = b) : Ending.returned (.int k a) = .returned (.int k b) := by rw [h]
theorem ret_bool {a b : Bool} (h : a = b) : Ending.returned (.bool a) = .returned (.bool b) := by rw [h]
/-- An order. -/
structure Od where
  id : Int
  st : Int
  ex : Int
  ki : Int
  ar : Int
  deriving DecidableEq
def Od.l (o : Od) : List Int := [o.id, o.st, o.ex, o.ki, o.ar]
def Od.v (o : Od) : Value := .agg #[.int .i64 o.id, .int .i64 o.st, .int .i64 o.ex, .int .i64 o.ki, .int .i64 o.ar]
def Od.ints (o : Od) : Prop := ∀ n ∈ o.l, -9223372036854775808 ≤ n ∧ n ≤ 9223372036854775807
/-- An entry. -/
structure En where
  ep : Int
  o : Od
  deriving DecidableEq
def En.l (e : En) : List Int := e.ep :: e.o.l
def IntsOk (l : List Int) : Prop := ∀ n ∈ l, -9223372036854775808 ≤ n ∧ n ≤ 9223372036854775807
def NumPost (v : Value) (w : World) (e : Ending) (w' : World) : Prop := e = .returned v ∧ Below w.heap.size w w'
theorem below_drewN {w w' : World} {n : Nat} (h : Below n w w') (k : Nat) : Below n w (w'.drewN k) := ⟨h.os, h.tape, h.output, h.size, h.block⟩
/-- A slice of n elements whose cells read as these ints, in blocks below B. -/
def RdB (B : Nat) (w : World) (v : Value) (n : Nat) (xs : List Int) : Prop :=
  ∃ A c, v = .slice A n c ∧ n ≤ c ∧ c ≤ maxLen ∧ (A = none → n = 0 ∧ c = 0) ∧ (0 < n → ∃ b o, A = some ⟨b, o, none⟩ ∧ b < B ∧ ∀ j x, xs[j]? = some x → w.cell? ⟨b, o + j, none⟩ = some (.int .i64 x))
theorem RdB.below {B B' n : Nat} {w w' : World} {v : Value} {xs : List Int} (h : RdB B w v n xs) (hb : Below B' w w') (hB : B ≤ B') : RdB B w' v n xs := by
  obtain ⟨A, c, h1, h2, h3, h4, h5⟩ := h
  refine ⟨A, c, h1, h2, h3, h4, fun h0 => ?_⟩
  obtain ⟨b, o, rfl, hl, hc⟩ := h5 h0
  exact ⟨b, o, rfl, hl, fun j x hx => (hb.cell (p := ⟨b, o + j, none⟩) (Nat.lt_of_lt_of_le hl hB)).trans (hc j x hx)⟩
theorem RdB.mono {B B' n : Nat} {w : World} {v : Value} {xs : List Int} (h : RdB B w v n xs) (hB : B ≤ B') : RdB B' w v n xs := by
  obtain ⟨A, c, h1, h2, h3, h4, h5⟩ := h
  refine ⟨A, c, h1, h2, h3, h4, fun h0 => ?_⟩
  obtain ⟨b, o, rfl, hl, hc⟩ := h5 h0
  exact ⟨b, o, rfl, Nat.lt_of_lt_of_le hl hB, hc⟩
theorem RdB.len {B n : Nat} {w : World} {v : Value} {xs : List Int} (h : RdB B w v n xs) : ∃ A c, v = .slice A n c ∧ n ≤ c ∧ c ≤ maxLen ∧ (A = none → n = 0 ∧ c = 0) := by
  obtain ⟨A, c, h1, h2, h3, h4, _⟩ := h
  exact ⟨A, c, h1, h2, h3, h4⟩
theorem flat_at {k : Nat} : ∀ {rows : List (List Int)}, (∀ r ∈ rows, r.length = k) → ∀ {i : Nat} (hi : i < rows.length) {j : Nat}, j < k → rows.flatten[i * k + j]? = rows[i][j]?
  | [], _, i, hi, _, _ => by simp at hi
  | r :: rows, h, 0, _, j, hj => by
    rw [List.flatten_cons, Nat.zero_mul, Nat.zero_add, List.getElem?_append_left (by rw [h r (by simp)]; exact hj)]
    rfl
  | r :: rows, h, i + 1, hi, j, hj => by
    have hr := h r (by simp)
    rw [List.flatten_cons, List.getElem?_append_right (by rw [hr, Nat.succ_mul]; omega), hr, show (i + 1) * k + j - k = i * k + j by rw [Nat.succ_mul]; omega,
      flat_at (rows := rows) (fun x hx => h x (by simp [hx])) (by simpa using hi) hj]
    rfl
theorem flatten_len {α : Type} {k : Nat} : ∀ {rows : List (List α)}, (∀ r ∈ rows, r.length = k) → rows.flatten.length = rows.length * k
  | [], _ => by simp
  | r :: rows, h => by
    rw [List.flatten_cons, List.length_append, h r (by simp), flatten_len (rows := rows) fun x hx => h x (by simp [hx]), List.length_cons, Nat.succ_mul]
    omega
/-- A slice that reads as these entries, in blocks below B. -/
def EsB (B : Nat) (w : World) (v : Value) (es : List En) : Prop := RdB B w v es.length (es.map En.l).flatten
theorem EsB.cells {B : Nat} {w : World} {v : Value} {es : List En} (h : EsB B w v es) {k : Nat} (hk : k < es.length) : ∃ b o c, v = .slice (some ⟨b, o, none⟩) es.length c ∧ b < B ∧
    w.cell? ⟨b, o + k * 6, none⟩ = some (.int .i64 es[k].ep) ∧ w.cell? ⟨b, o + k * 6 + 1, none⟩ = some (.int .i64 es[k].o.id) ∧ w.cell? ⟨b, o + k * 6 + 2, none⟩ = some (.int .i64 es[k].o.st) ∧
    w.cell? ⟨b, o + k * 6 + 3, none⟩ = some (.int .i64 es[k].o.ex) ∧ w.cell? ⟨b, o + k * 6 + 4, none⟩ = some (.int .i64 es[k].o.ki) ∧ w.cell? ⟨b, o + k * 6 + 5, none⟩ = some (.int .i64 es[k].o.ar) := by
  obtain ⟨A, c, rfl, _, _, _, h5⟩ := h
  obtain ⟨b, o, rfl, hl, hc⟩ := h5 (by omega)
  have hr : ∀ r ∈ es.map En.l, r.length = 6 := fun x hx => by obtain ⟨e, _, rfl⟩ := List.mem_map.1 hx; rfl
  have at_ : ∀ j, j < 6 → (es.map En.l).flatten[k * 6 + j]? = es[k].l[j]? := fun j hj => by
    rw [flat_at hr (by simpa using hk) hj, List.getElem_map]
  refine ⟨b, o, c, rfl, hl, ?_, ?_, ?_, ?_, ?_, ?_⟩
  · exact hc (k * 6) _ (at_ 0 (by omega))
  · rw [Nat.add_assoc]; exact hc (k * 6 + 1) _ (at_ 1 (by omega))
  · rw [Nat.add_assoc]; exact hc (k * 6 + 2) _ (at_ 2 (by omega))
  · rw [Nat.add_assoc]; exact hc (k * 6 + 3) _ (at_ 3 (by omega))
  · rw [Nat.add_assoc]; exact hc (k * 6 + 4) _ (at_ 4 (by omega))
  · rw [Nat.add_assoc]; exact hc (k * 6 + 5) _ (at_ 5 (by omega))
theorem EsB.take {B : Nat} {w : World} {A : Option Addr} {n c : Nat} {es : List En} (h : EsB B w (.slice A n c) es) {i : Nat} (hi : i ≤ es.length) : EsB B w (.slice A i c) (es.take i) := by
  obtain ⟨A', c', hv, h2, h3, h4, h5⟩ := h
  injection hv with e1 _ e3
  subst e1 e3
  have hl : (es.take i).length = i := by simp [Nat.min_eq_left hi]
  refine ⟨A, c, by rw [hl], by omega, h3, fun e => ?_, fun h0 => ?_⟩
  · have := h4 e; omega
  · obtain ⟨b, o, rfl, hl', hc⟩ := h5 (by omega)
    refine ⟨b, o, rfl, hl', fun j x hx => hc j x ?_⟩
    have hf : (es.map En.l).flatten = ((es.take i).map En.l).flatten ++ ((es.drop i).map En.l).flatten := by
      rw [← List.flatten_append, ← List.map_append, List.take_append_drop]
    rw [hf, List.getElem?_append_left (List.getElem?_eq_some_iff.1 hx).1]
    exact hx
/-- All memory as it was. -/
def Still (w w' : World) : Prop := ∀ B, Below B w w'
theorem Still.refl (w : World) : Still w w := fun B => Below.refl B w
theorem Still.drewN {w w' : World} (h : Still w w') (n : Nat) : Still w (w'.drewN n) := fun B => ⟨(h B).os, (h B).tape, (h B).output, (h B).size, (h B).block⟩
theorem Still.cell {w w' : World} (h : Still w w') (a : Addr) : w'.cell? a = w.cell? a := (h (a.block + 1)).cell (by omega)
theorem block_lt_of_cell {w : World} {a : Addr} {v : Value} (h : w.cell? a = some v) : a.block < w.heap.size := World.block_lt_of_cell? w _ h
theorem cell_heap {w w' : World} {b j : Nat} (h : w'.heap[b]? = w.heap[b]?) : w'.cell? ⟨b, j, none⟩ = w.cell? ⟨b, j, none⟩ := by simp [World.cell?, h]
theorem below_grown {w w' : World} {n : Nat} (hb : Below n w w') (hn : w.heap.size ≤ n) : w.grownBy w' none := ⟨hb.os, hb.tape, hb.output, hb.size, fun q hq _ => hb.block q (by omega)⟩
theorem below_grow {w w' : World} {row : Option Nat} {B : Nat} (h : w.grownBy w' row) (hB : ∀ q, q < B → row ≠ some q) (hz : B ≤ w.heap.size) : Below B w w' :=
  ⟨h.os, h.tape, h.output, h.size, fun q hq => h.block q (by omega) (fun e => hB q hq e.symm)⟩
end Go.Proofs.YtnbhdehpdfojlaaDoor
