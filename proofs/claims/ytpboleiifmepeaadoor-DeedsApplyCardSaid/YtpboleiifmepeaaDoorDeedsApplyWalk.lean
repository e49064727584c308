/-
  The walk of the law DeedsApply: it returns true and writes nothing that was there.
-/
import Derived.Test.YtpboleiifmepeaaDoorAeTail
namespace Go.Proofs.YtpboleiifmepeaaDoor.deedsApplyW
open Go.RowKit Go.Sort
set_option maxRecDepth 100000 in
set_option maxHeartbeats 4000000 in
theorem walk (s : St) (ev : Ev) (w : World) (hA : Asked w) (_ : s.ints) (_ : ev.ints) : Calls Tryd.prog 4 #[s.v, ev.v] w (fun e w' => e = .returned (.bool true) ∧ Below w.heap.size w w') := by
  have h1 := fun X => apply_any s ev X
  have h2 := fun X => rapply_any s ev X
  generalize app s ev = r at *
  obtain ⟨t', c', x', v'⟩ := r
  obtain ⟨t, c, x, v⟩ := s
  obtain ⟨k, a⟩ := ev
  simp only [St.v, Ev.v] at *
  obtain ⟨w1, HX1⟩ : ∃ W : World, Hid (W = (w.alloc (.cells #[.int .i64 t, .bool c, .int .i64 x, .int .i64 v] 23)).alloc (.cells #[.int .i64 k, .int .i64 a] 32)) := ⟨_, Lib.hid rfl⟩
  obtain ⟨hz1, hb1, h_s1, h_e1⟩ := two_blocks HX1.out
  have hA1 : ∀ d os, Asked (grow (redrawn w1 d) os) := fun d os => hA.keep (hb1.trans ((below_regrown w1 d os).mono hb1.size))
  have q0 : w1.cell? ⟨w.heap.size, 0, none⟩ = some (.int .i64 t) := by rw [Lib.cell_of_heap h_s1]; rfl
  have q1 : w1.cell? ⟨w.heap.size, 1, none⟩ = some (.bool c) := by rw [Lib.cell_of_heap h_s1]; rfl
  have q2 : w1.cell? ⟨w.heap.size, 2, none⟩ = some (.int .i64 x) := by rw [Lib.cell_of_heap h_s1]; rfl
  have q3 : w1.cell? ⟨w.heap.size, 3, none⟩ = some (.int .i64 v) := by rw [Lib.cell_of_heap h_s1]; rfl
  have q4 : w1.cell? ⟨w.heap.size + 1, 0, none⟩ = some (.int .i64 k) := by rw [Lib.cell_of_heap h_e1]; rfl
  have q5 : w1.cell? ⟨w.heap.size + 1, 1, none⟩ = some (.int .i64 a) := by rw [Lib.cell_of_heap h_e1]; rfl
  have k0 : ∀ d' os, (grow (redrawn w1 d') os).cell? ⟨w.heap.size, 0, none⟩ = some (.int .i64 t) := fun d' os => cell_regrown q0 d' os
  have k1 : ∀ d' os, (grow (redrawn w1 d') os).cell? ⟨w.heap.size, 1, none⟩ = some (.bool c) := fun d' os => cell_regrown q1 d' os
  have k2 : ∀ d' os, (grow (redrawn w1 d') os).cell? ⟨w.heap.size, 2, none⟩ = some (.int .i64 x) := fun d' os => cell_regrown q2 d' os
  have k3 : ∀ d' os, (grow (redrawn w1 d') os).cell? ⟨w.heap.size, 3, none⟩ = some (.int .i64 v) := fun d' os => cell_regrown q3 d' os
  have k4 : ∀ d' os, (grow (redrawn w1 d') os).cell? ⟨w.heap.size + 1, 0, none⟩ = some (.int .i64 k) := fun d' os => cell_regrown q4 d' os
  have k5 : ∀ d' os, (grow (redrawn w1 d') os).cell? ⟨w.heap.size + 1, 1, none⟩ = some (.int .i64 a) := fun d' os => cell_regrown q5 d' os
  have c0 : ∀ d' os, Calls Tryd.prog 13 #[.agg #[.int .i64 t, .bool c, .int .i64 x, .int .i64 v], .agg #[.int .i64 k, .int .i64 a]] (grow (redrawn w1 d') os) fun e w'' => e = .returned (.agg #[.int .i64 t', .bool c', .int .i64 x', .int .i64 v']) ∧ ∃ p : Regrown, w'' = grow (redrawn w1 p.d) p.os := fun d' os => Calls.regrown_of (h1 _)
  have c1 : ∀ d' os, Calls Tryd.prog 14 #[.agg #[.int .i64 t, .bool c, .int .i64 x, .int .i64 v], .agg #[.int .i64 k, .int .i64 a]] (grow (redrawn w1 d') os) fun e w'' => e = .returned (.agg #[.int .i64 t', .bool c', .int .i64 x', .int .i64 v']) ∧ ∃ p : Regrown, w'' = grow (redrawn w1 p.d) p.os := fun d' os => Calls.regrown_of (h2 _)
  have c2 : ∀ d' os, Calls Tryd.prog 12 #[] (grow (redrawn w1 d') os) fun e w'' => e = .returned (.bool true) ∧ ∃ p : Regrown, w'' = grow (redrawn w1 p.d) p.os := fun d' os => Calls.regrown_of (aeWorks_any _ (hA1 d' os))
  clear h1 h2 hA hA1 q0 q1 q2 q3 q4 q5 h_s1 h_e1
  go_enter Tryd.func4, Tryd.ntmps4
  go_wp2_with fail
  rw [← HX1.out]
  refine wp_region_quiet_below (by kernel_rfl) (by kernel_rfl) ?_
  repeat (go_big_quiet_step (first | with_reducible exact c0 _ _ | with_reducible exact c1 _ _ | with_reducible exact c2 _ _))
  refine wpQuiet_nil ?_
  intro _ hw'
  obtain ⟨⟨dq, osq⟩, hw''⟩ := hw'
  subst hw''
  have hbq := below_regrown w1 dq osq
  generalize grow (redrawn w1 dq) osq = u2 at *
  clear k0 k1 k2 k3 k4 k5 c0 c1 c2
  go_wp2_with fail
  go_ret
  exact ⟨rfl, hb1.trans (hbq.mono hb1.size)⟩
end Go.Proofs.YtpboleiifmepeaaDoor.deedsApplyW
