/-
  Contracts of the functions of package marks, and of the document's answer, that only compute with numbers: fold, unfold, mayBeLast; Fold.
-/
import Derived.Test.YtkdnhfeamibmdaaDoorRows
import Derived.WalkKit
import Derived.WalkSpells
import Derived.WalkLawsBesides
import Derived.Test.YtkdnhfeamibmdaaDoorMath
namespace Go.Proofs.YtkdnhfeamibmdaaDoor
open Go.RowKit
theorem ret_int {k : IntKind} {a b : Int} (h : a = b) : Ending.returned (.int k a) = .returned (.int k b) := by rw [h]
set_option maxHeartbeats 400000 in
theorem fold_any (n : Int) (w : World) (h0 : -9223372036854775808 ≤ n) (h1 : n ≤ 9223372036854775807) :
    Calls Tryd.prog 78 #[.int .i64 n] w fun e w' => e = .returned (.int .u64 (Lib.zigzag n : Nat)) ∧ w = w' := by
  go_enter Tryd.func78, Tryd.ntmps78
  go_wp2
  go_ret
  exact ⟨ret_int (fold_bits h0 h1), rfl⟩
set_option maxHeartbeats 400000 in
theorem unfold_any (u : Nat) (w : World) (h1 : u < 18446744073709551616) :
    Calls Tryd.prog 83 #[.int .u64 u] w fun e w' => e = .returned (.int .i64 (Lib.unzigzag u)) ∧ w = w' := by
  go_enter Tryd.func83, Tryd.ntmps83
  go_wp2
  go_ret
  exact ⟨ret_int (unfold_bits h1), rfl⟩
set_option maxHeartbeats 400000 in
theorem Fold_any (n : Int) (w : World) (h0 : -9223372036854775808 ≤ n) (h1 : n ≤ 9223372036854775807) :
    Calls Tryd.prog 79 #[.int .i64 n] w fun e w' => e = .returned (.int .u64 (Lib.zigzag n : Nat)) ∧ w = w' := by
  by_cases hn : 0 ≤ n
  all_goals
    go_enter Tryd.func79, Tryd.ntmps79
    go_wp2
    go_ret
    exact ⟨ret_int (by unfold Lib.zigzag; split <;> omega), rfl⟩
theorem ret_bool {a b : Bool} (h : a = b) : Ending.returned (.bool a) = .returned (.bool b) := by rw [h]
def lastB (g k : Int) : Bool := decide ((g ≠ 0 ∨ k = 0) ∧ (g ≤ 1 ∨ k < 9))
set_option maxHeartbeats 400000 in
theorem last_any (g k : Int) (w : World) (h0 : 0 ≤ g) (h1 : g < 128) (h2 : 0 ≤ k) (h3 : k < 10) :
    Calls Tryd.prog 84 #[.int .u8 g, .int .i64 k] w fun e w' => e = .returned (.bool (lastB g k)) ∧ w = w' := by
  go_enter Tryd.func84, Tryd.ntmps84
  go_wp2
  all_goals
    go_ret
    exact ⟨ret_bool (by unfold lastB; simp; omega), rfl⟩
theorem last_yes (g k : Int) (w : World) (h : lastB g k = true) (h0 : 0 ≤ g) (h1 : g < 128) (h2 : 0 ≤ k) (h3 : k < 10) :
    Calls Tryd.prog 84 #[.int .u8 g, .int .i64 k] w fun e w' => e = .returned (.bool true) ∧ w = w' := by
  have := last_any g k w h0 h1 h2 h3
  rwa [h] at this
theorem last_no (g k : Int) (w : World) (h : lastB g k = false) (h0 : 0 ≤ g) (h1 : g < 128) (h2 : 0 ≤ k) (h3 : k < 10) :
    Calls Tryd.prog 84 #[.int .u8 g, .int .i64 k] w fun e w' => e = .returned (.bool false) ∧ w = w' := by
  have := last_any g k w h0 h1 h2 h3
  rwa [h] at this
end Go.Proofs.YtkdnhfeamibmdaaDoor
