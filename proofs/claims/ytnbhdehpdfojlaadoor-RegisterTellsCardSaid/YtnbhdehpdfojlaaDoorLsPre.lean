/-
  Prefix of package lists, and of the document.
-/
import Derived.Test.YtnbhdehpdfojlaaDoorLsCommon
namespace Go.Proofs.YtnbhdehpdfojlaaDoor
open Go.RowKit
theorem prefix_any {va vb : Value} {B B' : Nat} {es fs : List En} {w : World} (ha : EsB B w va es) (hb : EsB B' w vb fs) : Calls Tryd.prog 30 #[va, vb] w (NumPost (.bool (pre es fs)) w) := by
  have HC := Lib.hid (common_any ha hb)
  obtain ⟨A, ca, rfl, h1, h2, -⟩ := ha.len
  obtain ⟨A', cb, rfl, h1', h2', -⟩ := hb.len
  clear ha hb h2 h2'
  go_enter Tryd.func30, Tryd.ntmps30
  go_wp2_with fail
  refine (HC.out).mono ?_
  rintro e w2 ⟨rfl, hb⟩
  go_wp2_with fail
  go_ret
  exact ⟨ret_bool (by rw [Bool.eq_iff_iff]; simp [pre]; omega), hb⟩
end Go.Proofs.YtnbhdehpdfojlaaDoor
