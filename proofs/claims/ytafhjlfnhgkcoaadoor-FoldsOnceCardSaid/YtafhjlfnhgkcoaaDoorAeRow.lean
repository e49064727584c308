/-
  Rows of events as they stand in memory.
-/
import Derived.Test.YtafhjlfnhgkcoaaDoorAeMath
import Derived.Lib.LaidTab
import Derived.OpenShut
import Derived.Deep.Slices
namespace Go.Proofs.YtafhjlfnhgkcoaaDoor
open Go.RowKit
/-- A slice of n elements whose cells read as these ints, in blocks below B. -/
def RdB (B : Nat) (w : World) (v : Value) (n : Nat) (xs : List Int) : Prop :=
  ∃ A c, v = .slice A n c ∧ n ≤ c ∧ c ≤ maxLen ∧ (A = none → n = 0 ∧ c = 0) ∧ (0 < n → ∃ b o, A = some ⟨b, o, none⟩ ∧ b < B ∧ ∀ j x, xs[j]? = some x → w.cell? ⟨b, o + j, none⟩ = some (.int .i64 x))
theorem RdB.below {B B' n : Nat} {w w' : World} {v : Value} {xs : List Int} (h : RdB B w v n xs) (hb : Below B' w w') (hB : B ≤ B') : RdB B w' v n xs := by
  obtain ⟨A, c, h1, h2, h3, h4, h5⟩ := h
  refine ⟨A, c, h1, h2, h3, h4, fun h0 => ?_⟩
  obtain ⟨b, o, rfl, hl, hc⟩ := h5 h0
  exact ⟨b, o, rfl, hl, fun j x hx => (hb.cell (p := ⟨b, o + j, none⟩) (Nat.lt_of_lt_of_le hl hB)).trans (hc j x hx)⟩
theorem RdB.mono {B B' n : Nat} {w : World} {v : Value} {xs : List Int} (h : RdB B w v n xs) (hB : B ≤ B') : RdB B' w v n xs := by
  obtain ⟨A, c, h1, h2, h3, h4, h5⟩ := h
  refine ⟨A, c, h1, h2, h3, h4, fun h0 => ?_⟩
  obtain ⟨b, o, rfl, hl, hc⟩ := h5 h0
  exact ⟨b, o, rfl, Nat.lt_of_lt_of_le hl hB, hc⟩
theorem RdB.len {B n : Nat} {w : World} {v : Value} {xs : List Int} (h : RdB B w v n xs) : ∃ A c, v = .slice A n c ∧ n ≤ c ∧ c ≤ maxLen ∧ (A = none → n = 0 ∧ c = 0) := by
  obtain ⟨A, c, h1, h2, h3, h4, _⟩ := h
  exact ⟨A, c, h1, h2, h3, h4⟩
theorem flat_at {k : Nat} : ∀ {rows : List (List Int)}, (∀ r ∈ rows, r.length = k) → ∀ {i : Nat} (hi : i < rows.length) {j : Nat}, j < k → rows.flatten[i * k + j]? = rows[i][j]?
  | [], _, i, hi, _, _ => by simp at hi
  | r :: rows, h, 0, _, j, hj => by
    rw [List.flatten_cons, Nat.zero_mul, Nat.zero_add, List.getElem?_append_left (by rw [h r (by simp)]; exact hj)]
    rfl
  | r :: rows, h, i + 1, hi, j, hj => by
    have hr := h r (by simp)
    rw [List.flatten_cons, List.getElem?_append_right (by rw [hr, Nat.succ_mul]; omega), hr, show (i + 1) * k + j - k = i * k + j by rw [Nat.succ_mul]; omega,
      flat_at (rows := rows) (fun x hx => h x (by simp [hx])) (by simpa using hi) hj]
    rfl
def Ev.l (e : Ev) : List Int := [e.k, e.a]
def VsB (B : Nat) (w : World) (v : Value) (es : List Ev) : Prop := RdB B w v es.length (es.map Ev.l).flatten
theorem VsB.cells {B : Nat} {w : World} {v : Value} {fd : List Ev} (h : VsB B w v fd) {k : Nat} (hk : k < fd.length) : ∃ b o c, v = .slice (some ⟨b, o, none⟩) fd.length c ∧ b < B ∧
    w.cell? ⟨b, o + k * 2, none⟩ = some (.int .i64 fd[k].k) ∧ w.cell? ⟨b, o + k * 2 + 1, none⟩ = some (.int .i64 fd[k].a) := by
  obtain ⟨A, c, rfl, _, _, _, h5⟩ := h
  obtain ⟨b, o, rfl, hl, hc⟩ := h5 (by omega)
  have hr : ∀ r ∈ fd.map Ev.l, r.length = 2 := fun x hx => by obtain ⟨e, _, rfl⟩ := List.mem_map.1 hx; rfl
  have at_ : ∀ j, j < 2 → (fd.map Ev.l).flatten[k * 2 + j]? = fd[k].l[j]? := fun j hj => by
    rw [flat_at hr (by simpa using hk) hj, List.getElem_map]
  refine ⟨b, o, c, rfl, hl, ?_, ?_⟩
  · exact hc (k * 2) _ (at_ 0 (by omega))
  · rw [Nat.add_assoc]; exact hc (k * 2 + 1) _ (at_ 1 (by omega))
theorem flatten_len {α : Type} {k : Nat} : ∀ {rows : List (List α)}, (∀ r ∈ rows, r.length = k) → rows.flatten.length = rows.length * k
  | [], _ => by simp
  | r :: rows, h => by
    rw [List.flatten_cons, List.length_append, h r (by simp), flatten_len (rows := rows) fun x hx => h x (by simp [hx]), List.length_cons, Nat.succ_mul]
    omega
end Go.Proofs.YtafhjlfnhgkcoaaDoor
