/-
  Same, behind and works of the statements.
-/
import Derived.Test.YtafhjlfnhgkcoaaDoorAeRDec
namespace Go.Proofs.YtafhjlfnhgkcoaaDoor
open Go.RowKit Go.Sort
theorem two_blocks {w w4 : World} {s e : Array Value} {ts te : TypeId} (h : w4 = (w.alloc (.cells s ts)).alloc (.cells e te)) :
    w4.heap.size = w.heap.size + 1 + 1 ∧ Below w.heap.size w w4 ∧ w4.heap[w.heap.size]? = some (.cells s ts (0, 0)) ∧ w4.heap[w.heap.size + 1]? = some (.cells e te (0, 0)) := by
  subst h
  refine ⟨by simp, ((Below.refl _ _).alloc (Nat.le_refl _) _).alloc (by simp) _, ?_, ?_⟩
  · exact ((Below.refl _ _).alloc (Nat.le_refl _) _ : Below (w.alloc (.cells s ts)).heap.size (w.alloc (.cells s ts)) _).block _ (by simp) |>.trans (heap_alloc_new _ _)
  · show ((w.heap.push _).push _)[_]? = _
    simp [Array.getElem_push]
set_option maxRecDepth 100000 in
set_option maxHeartbeats 1000000 in
theorem same_nil (c v : Int) (w : World) : Calls Tryd.prog 19 #[.agg #[.int .i64 c, .int .i64 v, .slice none 0 0], .agg #[.int .i64 c, .int .i64 v, .slice none 0 0]] w (NumPost (.bool true) w) := by
  go_enter Tryd.func19, Tryd.ntmps19
  go_wp2_with fail
  refine wp_loop_rounds 1 ?_
  rw [rounds_succ]
  go_wp2_with fail
  go_ret
  exact ⟨rfl, by repeat' (first | (with_reducible assumption) | (with_reducible exact Below.refl _ _) | (with_reducible refine Below.alloc ?_ ?_ _) | go_size)⟩
set_option maxRecDepth 100000 in
set_option maxHeartbeats 1000000 in
theorem same_one (c v k a : Int) (g g' : Nat) (w : World) (h : w.heap[g]? = some (.cells #[.int .i64 k, .int .i64 a] 35 (0, 0))) (h' : w.heap[g']? = some (.cells #[.int .i64 k, .int .i64 a] 35 (0, 0))) :
    Calls Tryd.prog 19 #[.agg #[.int .i64 c, .int .i64 v, .slice (some ⟨g, 0, none⟩) 1 1], .agg #[.int .i64 c, .int .i64 v, .slice (some ⟨g', 0, none⟩) 1 1]] w (NumPost (.bool true) w) := by
  obtain ⟨w4, HW⟩ : ∃ w4, Hid (w4 = (w.alloc (.cells #[.int .i64 c, .int .i64 v, .slice (some ⟨g, 0, none⟩) 1 1] 33)).alloc (.cells #[.int .i64 c, .int .i64 v, .slice (some ⟨g', 0, none⟩) 1 1] 33)) := ⟨_, Lib.hid rfl⟩
  obtain ⟨hz4, hb4, hs4, he4⟩ := two_blocks HW.out
  have hg : g < w.heap.size := lt_of_block h
  have hg' : g' < w.heap.size := lt_of_block h'
  have k4 := (hb4.block g hg).trans h
  have k4' := (hb4.block g' hg').trans h'
  have a0 : w4.cell? ⟨w.heap.size, 0, none⟩ = some (.int .i64 c) := by rw [Lib.cell_of_heap hs4]; rfl
  have a1 : w4.cell? ⟨w.heap.size, 1, none⟩ = some (.int .i64 v) := by rw [Lib.cell_of_heap hs4]; rfl
  have a2 : w4.cell? ⟨w.heap.size, 2, none⟩ = some (.slice (some ⟨g, 0, none⟩) 1 1) := by rw [Lib.cell_of_heap hs4]; rfl
  have b0 : w4.cell? ⟨w.heap.size + 1, 0, none⟩ = some (.int .i64 c) := by rw [Lib.cell_of_heap he4]; rfl
  have b1 : w4.cell? ⟨w.heap.size + 1, 1, none⟩ = some (.int .i64 v) := by rw [Lib.cell_of_heap he4]; rfl
  have b2 : w4.cell? ⟨w.heap.size + 1, 2, none⟩ = some (.slice (some ⟨g', 0, none⟩) 1 1) := by rw [Lib.cell_of_heap he4]; rfl
  have c0 : w4.cell? ⟨g, 0, none⟩ = some (.int .i64 k) := by rw [Lib.cell_of_heap k4]; rfl
  have c1 : w4.cell? ⟨g, 1, none⟩ = some (.int .i64 a) := by rw [Lib.cell_of_heap k4]; rfl
  have d0 : w4.cell? ⟨g', 0, none⟩ = some (.int .i64 k) := by rw [Lib.cell_of_heap k4']; rfl
  have d1 : w4.cell? ⟨g', 1, none⟩ = some (.int .i64 a) := by rw [Lib.cell_of_heap k4']; rfl
  clear hs4 he4 k4 k4' h h' hg hg' hz4
  go_enter Tryd.func19, Tryd.ntmps19
  go_wp2_with (rw [← HW.out])
  refine wp_loop_rounds 2 ?_
  rw [rounds_succ]
  go_wp2_with (rw [← HW.out])
  go_quiet (fail)
  go_wp2_with fail
  rw [rounds_succ]
  go_wp2_with fail
  go_ret
  exact ⟨rfl, by repeat' (first | (with_reducible assumption) | (with_reducible exact Below.refl _ _) | (with_reducible refine below_drewN ?_ _) | (with_reducible refine Below.alloc ?_ ?_ _) | go_size)⟩
theorem EvS.nil {w : World} {b : Nat} {V : Value} (h : EvS w b V []) : V = .slice none 0 0 := by
  rcases h with ⟨-, h⟩ | ⟨_, _, h, _⟩
  · exact h
  · cases h
theorem EvS.one {w : World} {b : Nat} {V : Value} {e : Ev} (h : EvS w b V [e]) : ∃ g, V = .slice (some ⟨g, 0, none⟩) 1 1 ∧ b ≤ g ∧ g < w.heap.size ∧ w.heap[g]? = some (.cells #[.int .i64 e.k, .int .i64 e.a] 35 (0, 0)) := by
  rcases h with ⟨h, -⟩ | ⟨_, g, h, hv, hb, hg⟩
  · cases h
  · injection h with h
    subst h
    exact ⟨g, hv, hb, lt_of_block hg, hg⟩
end Go.Proofs.YtafhjlfnhgkcoaaDoor
