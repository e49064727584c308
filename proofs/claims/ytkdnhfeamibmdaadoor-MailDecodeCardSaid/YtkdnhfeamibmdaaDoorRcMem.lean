/-
  Records as they stand in memory: slices that read as entries, as spots; what is asked of the fields.
-/
import Derived.Test.YtkdnhfeamibmdaaDoorRcMath
import Derived.Lib.Builder
namespace Go.Proofs.YtkdnhfeamibmdaaDoor
open Go.RowKit
/-- A slice of n elements whose cells read as these ints, in blocks below B. -/
def RdB (B : Nat) (w : World) (v : Value) (n : Nat) (xs : List Int) : Prop :=
  ∃ A c, v = .slice A n c ∧ n ≤ c ∧ c ≤ maxLen ∧ (A = none → n = 0 ∧ c = 0) ∧ (0 < n → ∃ b o, A = some ⟨b, o, none⟩ ∧ b < B ∧ ∀ j x, xs[j]? = some x → w.cell? ⟨b, o + j, none⟩ = some (.int .i64 x))
theorem RdB.below {B B' n : Nat} {w w' : World} {v : Value} {xs : List Int} (h : RdB B w v n xs) (hb : Below B' w w') (hB : B ≤ B') : RdB B w' v n xs := by
  obtain ⟨A, c, h1, h2, h3, h4, h5⟩ := h
  refine ⟨A, c, h1, h2, h3, h4, fun h0 => ?_⟩
  obtain ⟨b, o, rfl, hl, hc⟩ := h5 h0
  exact ⟨b, o, rfl, hl, fun j x hx => (hb.cell (p := ⟨b, o + j, none⟩) (Nat.lt_of_lt_of_le hl hB)).trans (hc j x hx)⟩
theorem RdB.mono {B B' n : Nat} {w : World} {v : Value} {xs : List Int} (h : RdB B w v n xs) (hB : B ≤ B') : RdB B' w v n xs := by
  obtain ⟨A, c, h1, h2, h3, h4, h5⟩ := h
  refine ⟨A, c, h1, h2, h3, h4, fun h0 => ?_⟩
  obtain ⟨b, o, rfl, hl, hc⟩ := h5 h0
  exact ⟨b, o, rfl, Nat.lt_of_lt_of_le hl hB, hc⟩
theorem RdB.len {B n : Nat} {w : World} {v : Value} {xs : List Int} (h : RdB B w v n xs) : ∃ A c, v = .slice A n c ∧ n ≤ c ∧ c ≤ maxLen ∧ (A = none → n = 0 ∧ c = 0) := by
  obtain ⟨A, c, h1, h2, h3, h4, _⟩ := h
  exact ⟨A, c, h1, h2, h3, h4⟩
theorem flat_at {k : Nat} : ∀ {rows : List (List Int)}, (∀ r ∈ rows, r.length = k) → ∀ {i : Nat} (hi : i < rows.length) {j : Nat}, j < k → rows.flatten[i * k + j]? = rows[i][j]?
  | [], _, i, hi, _, _ => by simp at hi
  | r :: rows, h, 0, _, j, hj => by
    rw [List.flatten_cons, Nat.zero_mul, Nat.zero_add, List.getElem?_append_left (by rw [h r (by simp)]; exact hj)]
    rfl
  | r :: rows, h, i + 1, hi, j, hj => by
    have hr := h r (by simp)
    rw [List.flatten_cons, List.getElem?_append_right (by rw [hr, Nat.succ_mul]; omega), hr, show (i + 1) * k + j - k = i * k + j by rw [Nat.succ_mul]; omega,
      flat_at (rows := rows) (fun x hx => h x (by simp [hx])) (by simpa using hi) hj]
    rfl
def EsB (B : Nat) (w : World) (v : Value) (es : List En) : Prop := RdB B w v es.length (es.map En.l).flatten
def FdB (B : Nat) (w : World) (v : Value) (fd : List Sp) : Prop := RdB B w v fd.length (fd.map Sp.l).flatten
theorem EsB.cells {B : Nat} {w : World} {v : Value} {es : List En} (h : EsB B w v es) {k : Nat} (hk : k < es.length) : ∃ b o c, v = .slice (some ⟨b, o, none⟩) es.length c ∧ b < B ∧
    w.cell? ⟨b, o + k * 6, none⟩ = some (.int .i64 es[k].ep) ∧ w.cell? ⟨b, o + k * 6 + 1, none⟩ = some (.int .i64 es[k].o.id) ∧ w.cell? ⟨b, o + k * 6 + 2, none⟩ = some (.int .i64 es[k].o.st) ∧
    w.cell? ⟨b, o + k * 6 + 3, none⟩ = some (.int .i64 es[k].o.ex) ∧ w.cell? ⟨b, o + k * 6 + 4, none⟩ = some (.int .i64 es[k].o.ki) ∧ w.cell? ⟨b, o + k * 6 + 5, none⟩ = some (.int .i64 es[k].o.ar) := by
  obtain ⟨A, c, rfl, _, _, _, h5⟩ := h
  obtain ⟨b, o, rfl, hl, hc⟩ := h5 (by omega)
  have hr : ∀ r ∈ es.map En.l, r.length = 6 := fun x hx => by obtain ⟨e, _, rfl⟩ := List.mem_map.1 hx; rfl
  have at_ : ∀ j, j < 6 → (es.map En.l).flatten[k * 6 + j]? = es[k].l[j]? := fun j hj => by
    rw [flat_at hr (by simpa using hk) hj, List.getElem_map]
  refine ⟨b, o, c, rfl, hl, ?_, ?_, ?_, ?_, ?_, ?_⟩
  · exact hc (k * 6) _ (at_ 0 (by omega))
  · rw [Nat.add_assoc]; exact hc (k * 6 + 1) _ (at_ 1 (by omega))
  · rw [Nat.add_assoc]; exact hc (k * 6 + 2) _ (at_ 2 (by omega))
  · rw [Nat.add_assoc]; exact hc (k * 6 + 3) _ (at_ 3 (by omega))
  · rw [Nat.add_assoc]; exact hc (k * 6 + 4) _ (at_ 4 (by omega))
  · rw [Nat.add_assoc]; exact hc (k * 6 + 5) _ (at_ 5 (by omega))
theorem FdB.cells {B : Nat} {w : World} {v : Value} {fd : List Sp} (h : FdB B w v fd) {k : Nat} (hk : k < fd.length) : ∃ b o c, v = .slice (some ⟨b, o, none⟩) fd.length c ∧ b < B ∧
    w.cell? ⟨b, o + k * 2, none⟩ = some (.int .i64 fd[k].st) ∧ w.cell? ⟨b, o + k * 2 + 1, none⟩ = some (.int .i64 fd[k].ix) := by
  obtain ⟨A, c, rfl, _, _, _, h5⟩ := h
  obtain ⟨b, o, rfl, hl, hc⟩ := h5 (by omega)
  have hr : ∀ r ∈ fd.map Sp.l, r.length = 2 := fun x hx => by obtain ⟨e, _, rfl⟩ := List.mem_map.1 hx; rfl
  have at_ : ∀ j, j < 2 → (fd.map Sp.l).flatten[k * 2 + j]? = fd[k].l[j]? := fun j hj => by
    rw [flat_at hr (by simpa using hk) hj, List.getElem_map]
  refine ⟨b, o, c, rfl, hl, ?_, ?_⟩
  · exact hc (k * 2) _ (at_ 0 (by omega))
  · rw [Nat.add_assoc]; exact hc (k * 2 + 1) _ (at_ 1 (by omega))
/-- A record's value: its lists lie in ve, vf. -/
def Rec.v (r : Rec) (ve vf : Value) : Value := .agg #[.int .i64 r.ki, .int .i64 r.st, .int .i64 r.ep, .int .i64 r.vi, .int .i64 r.fr, .int .i64 r.le, ve, vf]
/-- The package-level variables lie in memory as the program's text has them. -/
def AskR (w : World) : Prop := Asked w ∧
  (w.cell? ⟨0, 0, none⟩ = some (.int .i64 0) ∧ w.cell? ⟨0, 1, none⟩ = some (.int .i64 3)) ∧
  (w.cell? ⟨1, 0, none⟩ = some (.int .i64 1) ∧ w.cell? ⟨1, 1, none⟩ = some (.int .i64 1048576)) ∧
  (w.cell? ⟨3, 0, none⟩ = some (.int .i64 0) ∧ w.cell? ⟨3, 1, none⟩ = some (.int .i64 1048576)) ∧
  (w.cell? ⟨2, 0, none⟩ = some (.int .i64 0) ∧ w.cell? ⟨2, 1, none⟩ = some (.int .i64 64)) ∧
  (w.cell? ⟨5, 0, none⟩ = some (.int .i64 0) ∧ w.cell? ⟨5, 1, none⟩ = some (.int .i64 63)) ∧
  (w.cell? ⟨4, 0, none⟩ = some (.int .i64 0) ∧ w.cell? ⟨4, 1, none⟩ = some (.int .i64 256)) ∧
  (0 < w.heap.size ∧ 1 < w.heap.size ∧ 3 < w.heap.size ∧ 2 < w.heap.size ∧ 5 < w.heap.size ∧ 4 < w.heap.size)
theorem AskR.keep {w w' : World} (h : AskR w) (hb : Below w.heap.size w w') : AskR w' := by
  obtain ⟨h0, ⟨a1, b1⟩, ⟨a2, b2⟩, ⟨a3, b3⟩, ⟨a4, b4⟩, ⟨a5, b5⟩, ⟨a6, b6⟩, hz⟩ := h
  have hs := hb.size
  refine ⟨h0.keep hb, ⟨?_, ?_⟩, ⟨?_, ?_⟩, ⟨?_, ?_⟩, ⟨?_, ?_⟩, ⟨?_, ?_⟩, ⟨?_, ?_⟩, by omega⟩ <;> (refine (hb.cell ?_).trans ?_ <;> first | assumption | (dsimp only; omega))
theorem AskR.keepN {n : Nat} {w w' : World} (h : AskR w) (hb : Below n w w') (hn : w.heap.size ≤ n) : AskR w' := h.keep (hb.mono hn)
end Go.Proofs.YtkdnhfeamibmdaaDoor
