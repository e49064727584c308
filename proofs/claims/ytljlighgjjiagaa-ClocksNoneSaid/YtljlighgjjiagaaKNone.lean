/-
  Clocks that are none.
-/
import Derived.Test.YtljlighgjjiagaaKWorks
namespace Go.Proofs.Ytljlighgjjiagaa
open Go.RowKit
/-- A pointer to no clocks. -/
def IsN (w : World) (v : Value) : Prop := v = .pointer none ∨ ∃ c, v = .pointer (some ⟨c, 0, none⟩) ∧ w.heap[c]? = some (.cells #[.int .i64 0, .int .i64 0, .int .i64 0, .int .i64 0, .int .i64 0, .int .i64 0, .int .i64 0, .int .i64 0, .int .i64 0] 40 (0, 0))
theorem zeros_eq (W : World) : (Op.equalIn 9999 38 (.agg #[.int .i64 0, .int .i64 0, .int .i64 0, .int .i64 0, .int .i64 0, .int .i64 0, .int .i64 0]) (.agg #[.int .i64 0, .int .i64 0, .int .i64 0, .int .i64 0, .int .i64 0, .int .i64 0, .int .i64 0])).run Try.prog W = .ok true W := by kernel_rfl
set_option maxRecDepth 100000 in
set_option maxHeartbeats 1000000 in
theorem none_no {w : World} {v : Value} (h : IsN w v) : Calls Try.prog 22 #[v] w fun e w' => e = .returned (.bool true) ∧ w = w' := by
  rcases h with rfl | ⟨c, rfl, h⟩
  · go_enter Try.func22, Try.ntmps22
    go_wp2
    go_ret
    exact ⟨rfl, rfl⟩
  · have hc := fun o => cell_of_row w c o _ _ _ h
    have c0 : w.cell? ⟨c, 0, none⟩ = some (.int .i64 0) := hc 0
    have c1 : w.cell? ⟨c, 1, none⟩ = some (.int .i64 0) := hc 1
    have c2 : w.cell? ⟨c, 2, none⟩ = some (.int .i64 0) := hc 2
    have c3 : w.cell? ⟨c, 3, none⟩ = some (.int .i64 0) := hc 3
    have c4 : w.cell? ⟨c, 4, none⟩ = some (.int .i64 0) := hc 4
    have c5 : w.cell? ⟨c, 5, none⟩ = some (.int .i64 0) := hc 5
    have c6 : w.cell? ⟨c, 6, none⟩ = some (.int .i64 0) := hc 6
    have c7 : w.cell? ⟨c, 7, none⟩ = some (.int .i64 0) := hc 7
    have c8 : w.cell? ⟨c, 8, none⟩ = some (.int .i64 0) := hc 8
    clear hc h
    have heq := zeros_eq
    go_enter Try.func22, Try.ntmps22
    go_wp2
    go_ret
    exact ⟨rfl, rfl⟩
theorem worst_no {w : World} {v : Value} (h : IsN w v) : Calls Try.prog 15 #[v] w fun e w' => e = .returned (.int .i64 0) ∧ w = w' := by
  have HN := Lib.hid (none_no h)
  clear h
  go_enter Try.func15, Try.ntmps15
  go_wp2_with fail
  refine HN.out.mono ?_
  rintro e w1 ⟨rfl, rfl⟩
  go_wp2
  go_ret
  exact ⟨rfl, rfl⟩
theorem askew_no {w : World} {v : Value} (h : IsN w v) : Calls Try.prog 13 #[v] w fun e w' => e = .returned (.int .i64 0) ∧ w = w' := by
  have HN := Lib.hid (none_no h)
  clear h
  go_enter Try.func13, Try.ntmps13
  go_wp2_with fail
  refine HN.out.mono ?_
  rintro e w1 ⟨rfl, rfl⟩
  go_wp2
  go_ret
  exact ⟨rfl, rfl⟩
theorem at_none {w : World} {v : Value} (s : Int) (h : IsN w v) : Calls Try.prog 16 #[v, .int .i64 s] w fun e w' => e = .returned (.tuple #[.int .i64 0, .int .i64 1]) ∧ w = w' := by
  have HN := Lib.hid (none_no h)
  clear h
  go_enter Try.func16, Try.ntmps16
  go_wp2_with fail
  refine HN.out.mono ?_
  rintro e w1 ⟨rfl, rfl⟩
  go_wp2
  go_ret2
  exact ⟨rfl, rfl⟩
theorem tick_none {w : World} {v : Value} (s : Int) (h : IsN w v) : Calls Try.prog 11 #[v, .int .i64 s] w fun e w' => e = .returned (.int .i64 1) ∧ w = w' := by
  have HN := Lib.hid (at_none s h)
  clear h
  go_enter Try.func11, Try.ntmps11
  go_wp2_with fail
  refine HN.out.mono ?_
  rintro e w1 ⟨rfl, rfl⟩
  go_wp2
  go_ret
  exact ⟨rfl, rfl⟩
end Go.Proofs.Ytljlighgjjiagaa
