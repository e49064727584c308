/-
  Check of package orders: by the table of what is asked of the fields.
-/
import Derived.Test.YtnbhdehpdfojlaaDoorRgOrd
import Derived.Lib.QuietBelow
import Derived.BigQuiet
import Derived.LoopN
import Derived.Laws.Rows
import Derived.Handy
namespace Go.Proofs.YtnbhdehpdfojlaaDoor
open Go.RowKit
set_option maxRecDepth 100000 in
set_option maxHeartbeats 1000000 in
theorem fieldsOf_any (o : Od) (w : World) : Calls Tryd.prog 32 #[o.v] w (NumPost o.v w) := by
  obtain ⟨a, b, c, d, f⟩ := o
  simp only [Od.v]
  go_enter Tryd.func32, Tryd.ntmps32
  go_wp2_with fail
  refine bodyPost_ret (results_cell_row rfl _ _ (w.heap.size + 1) 58 #[.int .i64 a, .int .i64 b, .int .i64 c, .int .i64 d, .int .i64 f] (0, 0) _ rfl (heap_alloc2_new _ _ _) Tryd.underlying58 rfl (by kernel_rfl)) rfl ?_
  exact ⟨rfl, ((Below.refl _ _).alloc (Nat.le_refl _) _).alloc (by simp) _⟩
theorem asked_ix0 (X : World) : (Instr.index 62 (.agg #[.int .i64 1, .int .i64 2147483647, .int .i64 0, .int .i64 3, .int .i64 (-1), .int .i64 2147483647, .int .i64 1, .int .i64 4, .int .i64 (-1048576), .int .i64 1048576]) (.int .i64 0)).run Tryd.prog X = .ok (.agg #[.int .i64 1, .int .i64 2147483647]) X := by kernel_rfl
theorem asked_ix1 (X : World) : (Instr.index 62 (.agg #[.int .i64 1, .int .i64 2147483647, .int .i64 0, .int .i64 3, .int .i64 (-1), .int .i64 2147483647, .int .i64 1, .int .i64 4, .int .i64 (-1048576), .int .i64 1048576]) (.int .i64 1)).run Tryd.prog X = .ok (.agg #[.int .i64 0, .int .i64 3]) X := by kernel_rfl
theorem asked_ix2 (X : World) : (Instr.index 62 (.agg #[.int .i64 1, .int .i64 2147483647, .int .i64 0, .int .i64 3, .int .i64 (-1), .int .i64 2147483647, .int .i64 1, .int .i64 4, .int .i64 (-1048576), .int .i64 1048576]) (.int .i64 2)).run Tryd.prog X = .ok (.agg #[.int .i64 (-1), .int .i64 2147483647]) X := by kernel_rfl
theorem asked_ix3 (X : World) : (Instr.index 62 (.agg #[.int .i64 1, .int .i64 2147483647, .int .i64 0, .int .i64 3, .int .i64 (-1), .int .i64 2147483647, .int .i64 1, .int .i64 4, .int .i64 (-1048576), .int .i64 1048576]) (.int .i64 3)).run Tryd.prog X = .ok (.agg #[.int .i64 1, .int .i64 4]) X := by kernel_rfl
theorem asked_ix4 (X : World) : (Instr.index 62 (.agg #[.int .i64 1, .int .i64 2147483647, .int .i64 0, .int .i64 3, .int .i64 (-1), .int .i64 2147483647, .int .i64 1, .int .i64 4, .int .i64 (-1048576), .int .i64 1048576]) (.int .i64 4)).run Tryd.prog X = .ok (.agg #[.int .i64 (-1048576), .int .i64 1048576]) X := by kernel_rfl
set_option maxRecDepth 100000 in
set_option maxHeartbeats 4000000 in
theorem check_any (o : Od) (w : World) (hA : Asked w) : Calls Tryd.prog 29 #[o.v] w (NumPost (.int .i64 o.err) w) := by
  have G := fun X => fieldsOf_any o X
  have HE := Lib.hid (show o.err = if o.may then 0 else 2 from rfl)
  have HM : Hid (o.may = decide (1 ≤ o.id ∧ o.id ≤ 2147483647 ∧ 0 ≤ o.st ∧ o.st ≤ 3 ∧ -1 ≤ o.ex ∧ o.ex ≤ 2147483647 ∧ 1 ≤ o.ki ∧ o.ki ≤ 4 ∧ -1048576 ≤ o.ar ∧ o.ar ≤ 1048576)) := rfl
  generalize o.err = er at *
  generalize o.may = my at *
  obtain ⟨a, b, c, d, f⟩ := o
  simp only [Od.v] at G HM ⊢
  have HG := Lib.hid G
  clear G
  have hA' := hA.keep ((Below.refl _ _).alloc (Nat.le_refl _) (.cells #[.int .i64 a, .int .i64 b, .int .i64 c, .int .i64 d, .int .i64 f] 42))
  have hs0 : w.heap.size ≤ (w.alloc (.cells #[.int .i64 a, .int .i64 b, .int .i64 c, .int .i64 d, .int .i64 f] 42)).heap.size := by simp
  go_enter Tryd.func29, Tryd.ntmps29
  go_wp2_with fail
  refine (HG.out _).mono ?_
  rintro e w1 ⟨rfl, hb1⟩
  have hb2 : Below w.heap.size w w1 := ((Below.refl _ _).alloc (Nat.le_refl _) _).trans (hb1.mono hs0)
  have hsz1 := hb1.size
  obtain ⟨h0, h1, h2, h3, h4, h5, h6, h7, h8, h9, hz⟩ : Asked w1 := hA'.keep hb1
  clear hA hA' HG hb1
  go_wp2_with fail
  clear h0 h1 h2 h3 h4 h5 h6 h7 h8 h9
  refine wp_loop_rounds 6 ?_
  have ix0 := asked_ix0
  rw [rounds_succ]
  by_cases l0 : a < 1
  · have t1 : decide (a < 1) = true := decide_eq_true l0
    go_wp2_with fail
    go_quiet (fail)
    go_wp2_with fail
    go_ret
    exact ⟨by rw [HE.out, HM.out]; simp; omega, by repeat' (first | (with_reducible exact hb2) | (with_reducible refine below_drewN ?_ _) | (with_reducible refine Below.alloc ?_ ?_ _) | (with_reducible refine Below.setCell ?_ ?_ _) | go_size)⟩
  have u0 : decide (a < 1) = false := decide_eq_false l0
  by_cases m0 : 2147483647 < a
  · have t2 : decide (2147483647 < a) = true := decide_eq_true m0
    go_wp2_with fail
    go_quiet (fail)
    go_wp2_with fail
    go_ret
    exact ⟨by rw [HE.out, HM.out]; simp; omega, by repeat' (first | (with_reducible exact hb2) | (with_reducible refine below_drewN ?_ _) | (with_reducible refine Below.alloc ?_ ?_ _) | (with_reducible refine Below.setCell ?_ ?_ _) | go_size)⟩
  have v0 : decide (2147483647 < a) = false := decide_eq_false m0
  go_wp2_with fail
  go_quiet (fail)
  go_wp2_with fail
  clear u0 v0 ix0
  have ix1 := asked_ix1
  rw [rounds_succ]
  by_cases l1 : b < 0
  · have t1 : decide (b < 0) = true := decide_eq_true l1
    go_wp2_with fail
    go_quiet (fail)
    go_wp2_with fail
    go_ret
    exact ⟨by rw [HE.out, HM.out]; simp; omega, by repeat' (first | (with_reducible exact hb2) | (with_reducible refine below_drewN ?_ _) | (with_reducible refine Below.alloc ?_ ?_ _) | (with_reducible refine Below.setCell ?_ ?_ _) | go_size)⟩
  have u1 : decide (b < 0) = false := decide_eq_false l1
  by_cases m1 : 3 < b
  · have t2 : decide (3 < b) = true := decide_eq_true m1
    go_wp2_with fail
    go_quiet (fail)
    go_wp2_with fail
    go_ret
    exact ⟨by rw [HE.out, HM.out]; simp; omega, by repeat' (first | (with_reducible exact hb2) | (with_reducible refine below_drewN ?_ _) | (with_reducible refine Below.alloc ?_ ?_ _) | (with_reducible refine Below.setCell ?_ ?_ _) | go_size)⟩
  have v1 : decide (3 < b) = false := decide_eq_false m1
  go_wp2_with fail
  go_quiet (fail)
  go_wp2_with fail
  clear u1 v1 ix1
  have ix2 := asked_ix2
  rw [rounds_succ]
  by_cases l2 : c < (-1)
  · have t1 : decide (c < (-1)) = true := decide_eq_true l2
    go_wp2_with fail
    go_quiet (fail)
    go_wp2_with fail
    go_ret
    exact ⟨by rw [HE.out, HM.out]; simp; omega, by repeat' (first | (with_reducible exact hb2) | (with_reducible refine below_drewN ?_ _) | (with_reducible refine Below.alloc ?_ ?_ _) | (with_reducible refine Below.setCell ?_ ?_ _) | go_size)⟩
  have u2 : decide (c < (-1)) = false := decide_eq_false l2
  by_cases m2 : 2147483647 < c
  · have t2 : decide (2147483647 < c) = true := decide_eq_true m2
    go_wp2_with fail
    go_quiet (fail)
    go_wp2_with fail
    go_ret
    exact ⟨by rw [HE.out, HM.out]; simp; omega, by repeat' (first | (with_reducible exact hb2) | (with_reducible refine below_drewN ?_ _) | (with_reducible refine Below.alloc ?_ ?_ _) | (with_reducible refine Below.setCell ?_ ?_ _) | go_size)⟩
  have v2 : decide (2147483647 < c) = false := decide_eq_false m2
  go_wp2_with fail
  go_quiet (fail)
  go_wp2_with fail
  clear u2 v2 ix2
  have ix3 := asked_ix3
  rw [rounds_succ]
  by_cases l3 : d < 1
  · have t1 : decide (d < 1) = true := decide_eq_true l3
    go_wp2_with fail
    go_quiet (fail)
    go_wp2_with fail
    go_ret
    exact ⟨by rw [HE.out, HM.out]; simp; omega, by repeat' (first | (with_reducible exact hb2) | (with_reducible refine below_drewN ?_ _) | (with_reducible refine Below.alloc ?_ ?_ _) | (with_reducible refine Below.setCell ?_ ?_ _) | go_size)⟩
  have u3 : decide (d < 1) = false := decide_eq_false l3
  by_cases m3 : 4 < d
  · have t2 : decide (4 < d) = true := decide_eq_true m3
    go_wp2_with fail
    go_quiet (fail)
    go_wp2_with fail
    go_ret
    exact ⟨by rw [HE.out, HM.out]; simp; omega, by repeat' (first | (with_reducible exact hb2) | (with_reducible refine below_drewN ?_ _) | (with_reducible refine Below.alloc ?_ ?_ _) | (with_reducible refine Below.setCell ?_ ?_ _) | go_size)⟩
  have v3 : decide (4 < d) = false := decide_eq_false m3
  go_wp2_with fail
  go_quiet (fail)
  go_wp2_with fail
  clear u3 v3 ix3
  have ix4 := asked_ix4
  rw [rounds_succ]
  by_cases l4 : f < (-1048576)
  · have t1 : decide (f < (-1048576)) = true := decide_eq_true l4
    go_wp2_with fail
    go_quiet (fail)
    go_wp2_with fail
    go_ret
    exact ⟨by rw [HE.out, HM.out]; simp; omega, by repeat' (first | (with_reducible exact hb2) | (with_reducible refine below_drewN ?_ _) | (with_reducible refine Below.alloc ?_ ?_ _) | (with_reducible refine Below.setCell ?_ ?_ _) | go_size)⟩
  have u4 : decide (f < (-1048576)) = false := decide_eq_false l4
  by_cases m4 : 1048576 < f
  · have t2 : decide (1048576 < f) = true := decide_eq_true m4
    go_wp2_with fail
    go_quiet (fail)
    go_wp2_with fail
    go_ret
    exact ⟨by rw [HE.out, HM.out]; simp; omega, by repeat' (first | (with_reducible exact hb2) | (with_reducible refine below_drewN ?_ _) | (with_reducible refine Below.alloc ?_ ?_ _) | (with_reducible refine Below.setCell ?_ ?_ _) | go_size)⟩
  have v4 : decide (1048576 < f) = false := decide_eq_false m4
  go_wp2_with fail
  go_quiet (fail)
  go_wp2_with fail
  clear u4 v4 ix4
  rw [rounds_succ]
  go_wp2_with fail
  go_ret
  exact ⟨by rw [HE.out, HM.out]; simp; omega, by repeat' (first | (with_reducible exact hb2) | (with_reducible refine below_drewN ?_ _) | (with_reducible refine Below.alloc ?_ ?_ _) | (with_reducible refine Below.setCell ?_ ?_ _) | go_size)⟩
end Go.Proofs.YtnbhdehpdfojlaaDoor
