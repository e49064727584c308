/-
  Prefix of package lists, and of the document.
-/
import Derived.Test.YtffjijgmjbhhoaaLsRCommon
namespace Go.Proofs.Ytffjijgmjbhhoaa
open Go.RowKit
theorem prefix_any {va vb : Value} {B B' : Nat} {es fs : List En} {w : World} (ha : EsB B w va es) (hb : EsB B' w vb fs) : Calls Try.prog 12 #[va, vb] w (NumPost (.bool (pre es fs)) w) := by
  have HC := Lib.hid (common_any ha hb)
  obtain ⟨A, ca, rfl, h1, h2, -⟩ := ha.len
  obtain ⟨A', cb, rfl, h1', h2', -⟩ := hb.len
  clear ha hb h2 h2'
  go_enter Try.func12, Try.ntmps12
  go_wp2_with fail
  refine (HC.out).mono ?_
  rintro e w2 ⟨rfl, hb⟩
  go_wp2_with fail
  go_ret
  exact ⟨ret_bool (by rw [Bool.eq_iff_iff]; simp [pre]; omega), hb⟩
theorem rprefix_any {va vb : Value} {B B' : Nat} {es fs : List En} {w : World} (ha : EsB B w va es) (hb : EsB B' w vb fs) : Calls Try.prog 13 #[va, vb] w (NumPost (.bool (pre es fs)) w) := by
  have HC := Lib.hid (rcommon_any ha hb)
  obtain ⟨A, ca, rfl, h1, h2, -⟩ := ha.len
  obtain ⟨A', cb, rfl, h1', h2', -⟩ := hb.len
  clear ha hb h2 h2'
  go_enter Try.func13, Try.ntmps13
  go_wp2_with fail
  refine (HC.out).mono ?_
  rintro e w2 ⟨rfl, hb⟩
  go_wp2_with fail
  go_ret
  exact ⟨ret_bool (by rw [Bool.eq_iff_iff]; simp [pre]; omega), hb⟩
end Go.Proofs.Ytffjijgmjbhhoaa
