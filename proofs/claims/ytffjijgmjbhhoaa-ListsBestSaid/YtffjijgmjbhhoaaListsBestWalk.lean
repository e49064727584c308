/-
  The walk of the law ListsBest: it returns true and writes nothing that was there.
-/
import Derived.Test.YtffjijgmjbhhoaaLsWorks
import Derived.Test.YtffjijgmjbhhoaaLsRBest
namespace Go.Proofs.Ytffjijgmjbhhoaa.listsBestW
open Go.RowKit Go.Sort
set_option maxRecDepth 100000 in
set_option maxHeartbeats 2000000 in
theorem walk (A : Option Addr) (c : Nat) (rs : List Rg) (w : World) (ha : RgsB w.heap.size w (.slice A rs.length c) rs) : Calls Try.prog 4 #[.slice A rs.length c] w (fun e w' => e = .returned (.bool true) ∧ Below w.heap.size w w') := by
  by_cases hn : 200 < rs.length
  · have t1 : decide (200 < (rs.length : Int)) = true := decide_eq_true (by omega)
    have t2 : (200 : Int) < (rs.length : Int) := by omega
    clear ha
    generalize rs.length = n at *
    go_enter Try.func4, Try.ntmps4
    go_wp2_with fail
    go_ret
    exact ⟨rfl, Below.refl _ _⟩
  · have t1 : decide (200 < (rs.length : Int)) = false := decide_eq_false (by omega)
    have t2 : ¬ (200 : Int) < (rs.length : Int) := by omega
    have H1 := Lib.hid (best_any ha (Nat.le_refl _))
    have H2 : Hid (∀ X, Below w.heap.size w X → Calls Try.prog 19 #[.slice A rs.length c] X (NumPost (.int .i64 (bestR rs)) X)) := Lib.hid fun X hX => rbest_any (RgsB.below ha hX (Nat.le_refl _))
    clear ha
    generalize bestR rs = z at *
    go_enter Try.func4, Try.ntmps4
    go_wp2_with fail
    refine (H1.out).mono ?_
    rintro e w1 ⟨rfl, hb1⟩
    go_wp2_with fail
    refine (H2.out w1 hb1).mono ?_
    rintro e w2 ⟨rfl, hb2⟩
    have hB2 := hb1.trans (hb2.mono hb1.size)
    go_wp2_with fail
    refine (lsWorks_any w2).mono ?_
    rintro e w3 ⟨rfl, hb3⟩
    go_wp2_with fail
    go_ret
    exact ⟨rfl, hB2.trans (hb3.mono hB2.size)⟩
end Go.Proofs.Ytffjijgmjbhhoaa.listsBestW
