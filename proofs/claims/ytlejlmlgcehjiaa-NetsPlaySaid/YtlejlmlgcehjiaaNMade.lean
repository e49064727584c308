/-
  A row of entries made, and filled, in a region that draws its order.
-/
import Derived.Test.YtlejlmlgcehjiaaNTwo
namespace Go.Proofs.Ytlejlmlgcehjiaa
open Go.RowKit
section
variable {ops : Array Oper} {o : Oper} {a : Act} {w : World} {K : Act → World → Prop} {Q : Exit → Act → World → Prop} {E : Prop}
theorem step_ents (hg : o.guard = none) (d x : Operand) (hop : o.op = Op.call { callee := Callee.builtin Builtin.append, args := #[d, x], argTypes := #[30, 30] }) (hty : o.type = 30)
    {base n N : Nat} {v ka : Value} {xs : List Value} {es : List Net.Ent} (hN : n + es.length = N) (hd : a.eval d = v) (hx : a.eval x = ka) (ho : w.ownsRow base 40 6 v n xs) (hk : Ents w ka es) (hb : base ≤ w.heap.size) (hnl : N ≤ 1000000)
    (h : ∀ A c w', w'.ownsRow base 40 6 (.slice A N c) N (xs ++ ecs es) → w.grownBy w' v.ownBlock → K (a.put o.dst (.slice A N c)) w') :
    if Region.wanted o (yielded ops a.tmps) = true then Oper.wp Try.prog o a w K Q else E := by
  subst hN
  obtain ⟨A, c, w', hr, ho', hg'⟩ := run_append_ents ho hk hb hnl
  exact step_append_known hg d x 30 30 hop v ka hd hx (by rw [hty]; exact hr) (h A c w' ho' hg')
def ezero : Value := .agg #[.int .i64 0, .int .i64 0, .int .i64 0, .int .i64 0, .int .i64 0, .int .i64 0]
def ezs (n : Nat) : Array Value := madeCells ezero.cells (n * 6)
theorem emade_run (X : World) (n : Nat) (hn : n ≤ 100000) : (Instr.makeSlice 30 (.int .i64 0) (.int .i64 (n : Int))).run Try.prog X = .ok (.slice (some ⟨X.heap.size, 0, none⟩) 0 n) (X.alloc (.cells (ezs n) 40)) := by
  obtain ⟨i0, hi0, hz0, hz1, hz2⟩ := info_parts Try.info_entry
  have h := run_makeSlice (P := Try.prog) X 30 40 i0 ezero Try.underlying30 hi0 hz0 .i64 .i64 0 (n : Int) (Int.le_refl _) (by omega) (by rw [hz1]; omega) (by rw [hz2]; omega) (by omega)
  rw [hz1] at h
  exact h
theorem emade_own (X : World) {base g n : Nat} (hn : n ≤ 100000) (hg : X.heap.size = g) (hb : base ≤ g) : (X.alloc (.cells (ezs n) 40)).ownsRow base 40 6 (.slice (some ⟨g, 0, none⟩) 0 n) 0 [] := by
  subst hg
  refine ⟨rfl, .inr ⟨X.heap.size, n, ezs n, rfl, hb, heap_alloc_new X _, Nat.zero_le _, Nat.le_trans hn (by decide), ?_, rfl⟩⟩
  simp [ezs, madeCells, ezero, Value.cells]
def e70 : Net.Ent := ⟨-70, 0, 0, 0, 0, 0⟩
theorem ents_70 (X : World) {g : Nat} (hg : X.heap.size = g) : Ents (X.alloc (.cells #[.int .i64 (-70), .int .i64 0, .int .i64 0, .int .i64 0, .int .i64 0, .int .i64 0] 40)) (.slice (some ⟨g, 0, none⟩) 1 1) [e70] := by
  subst hg
  refine EOwn.ents (base := 0) ⟨rfl, .inr ⟨X.heap.size, 1, _, rfl, Nat.zero_le _, heap_alloc_new X _, Nat.le_refl _, by decide, rfl, ?_⟩⟩
  simp [ecs, ecells, e70]
theorem build_70 (X : World) : (Instr.buildSlice 30 1 #[(0, .agg (ecells e70).toArray)]).run Try.prog X = .ok (.slice (some ⟨X.heap.size, 0, none⟩) 1 1) (X.alloc (.cells (ecells e70).toArray 40)) := by kernel_rfl
theorem eown_shape {base N c : Nat} {A : Option Addr} {xs : List Value} (h : w.ownsRow base 40 6 (.slice A N c) N xs) (hn : 0 < N) : ∃ g, A = some ⟨g, 0, none⟩ ∧ base ≤ g ∧ g < w.heap.size ∧ N ≤ c ∧ c ≤ maxLen := by
  rcases h.2 with ⟨_, h0⟩ | ⟨g, cap, cur, hv, hb, hg, hnc, hcm, _⟩
  · omega
  · injection hv with h1 _ h3
    subst h1
    subst h3
    exact ⟨g, rfl, hb, lt_of_block hg, hnc, hcm⟩
theorem grown_bel {W X Y : World} {row : Option Nat} (h : Below W.heap.size W X) (hg : X.grownBy Y row) (hr : ∀ j, row = some j → W.heap.size ≤ j) : Below W.heap.size W Y := h.grown hg h.size hr
/-- All but the last entry of a row of one's own; the last one's first cell. -/
theorem cut_last {base c g : Nat} {es : List Net.Ent} {e : Net.Ent} (h : w.ownsRow base 40 6 (.slice (some ⟨g, 0, none⟩) (es.length + 1) c) (es.length + 1) (ecs es ++ ecs [e])) : EOwn w base (.slice (some ⟨g, 0, none⟩) es.length c) es ∧ w.cell? ⟨g, es.length * 6, none⟩ = some (.int .i64 e.ep) ∧ es.length + 1 ≤ c ∧ c ≤ maxLen := by
  have h' := h
  rcases h.2 with ⟨_, h0⟩ | ⟨g', cap, cur, hv, hb, hg, hnc, hcm, hcs, ht⟩
  · omega
  · injection hv with h1 _ h3
    injection h1 with h1
    injection h1 with h1 _ _
    subst h1 h3
    have hl := ecs_len es
    refine ⟨⟨hl, .inr ⟨g, c, cur, rfl, hb, hg, by omega, hcm, hcs, ?_⟩⟩, ?_, hnc, hcm⟩
    · have h2 := congrArg (List.take (es.length * 6)) ht
      rw [List.take_take, Nat.min_eq_left (by omega), List.take_left' hl] at h2
      exact h2
    · have h3 := World.ownsRow.cellAt h' (es.length * 6) (by omega)
      rw [List.getElem?_append_right (by omega), hl, Nat.sub_self] at h3
      exact h3
end
end Go.Proofs.Ytlejlmlgcehjiaa
