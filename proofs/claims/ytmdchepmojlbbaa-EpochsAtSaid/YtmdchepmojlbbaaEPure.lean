/-
  The contracts of the functions of package epochs, and of the document's, that only compute: isSoMany, isEpoch, Of, Next, Majority; Sites, Of, Next, Majority.
-/
import Derived.Test.YtmdchepmojlbbaaProg
import Derived.Test.YtmdchepmojlbbaaEMath
import Derived.WalkKit
import Derived.WalkSpells
import Derived.WalkLawsBesides
import Derived.Lib.Hide
namespace Go.Proofs.Ytmdchepmojlbbaa
open Go.RowKit
theorem ret_bool {a b : Bool} (h : a = b) : Ending.returned (.bool a) = .returned (.bool b) := by rw [h]
theorem ret_int {a b : Int} (h : a = b) : Ending.returned (.int .i64 a) = .returned (.int .i64 b) := by rw [h]
theorem ret_two {a b c d : Int} (h : (a, c) = (b, d)) : Ending.returned (.tuple #[.int .i64 a, .int .i64 c]) = .returned (.tuple #[.int .i64 b, .int .i64 d]) := by injection h with h1 h2; rw [h1, h2]
theorem soMany_any (n : Int) (w : World) : Calls Try.prog 19 #[.int .i64 n] w fun e w' => e = .returned (.bool (Epo.sites n)) ∧ w = w' := by
  go_enter Try.func19, Try.ntmps19
  go_wp2
  all_goals
    go_ret
    exact ⟨ret_bool (by unfold Epo.sites; simp; try omega), rfl⟩
theorem sites_any (n : Int) (w : World) : Calls Try.prog 21 #[.int .i64 n] w fun e w' => e = .returned (.bool (Epo.sites n)) ∧ w = w' := by
  go_enter Try.func21, Try.ntmps21
  go_wp2
  all_goals
    go_ret
    exact ⟨ret_bool (by unfold Epo.sites; simp; try omega), rfl⟩
theorem epoch_any (n : Int) (w : World) : Calls Try.prog 20 #[.int .i64 n] w fun e w' => e = .returned (.bool (Epo.epoch n)) ∧ w = w' := by
  go_enter Try.func20, Try.ntmps20
  go_wp2
  all_goals
    go_ret
    exact ⟨ret_bool (by unfold Epo.epoch; simp; try omega), rfl⟩
theorem epoch_split (e : Int) : (1 ≤ e ∧ e ≤ 1048576 ∧ Epo.epoch e = true) ∨ (¬ (1 ≤ e ∧ e ≤ 1048576) ∧ Epo.epoch e = false) := by
  by_cases h : 1 ≤ e ∧ e ≤ 1048576
  · exact .inl ⟨h.1, h.2, (Epo.epoch_iff e).2 h⟩
  · exact .inr ⟨h, by rcases hh : Epo.epoch e with _ | _; rfl; exact absurd ((Epo.epoch_iff e).1 hh) h⟩
theorem sites_split (n : Int) : (2 ≤ n ∧ n ≤ 7 ∧ Epo.sites n = true) ∨ (¬ (2 ≤ n ∧ n ≤ 7) ∧ Epo.sites n = false) := by
  by_cases h : 2 ≤ n ∧ n ≤ 7
  · exact .inl ⟨h.1, h.2, (Epo.sites_iff n).2 h⟩
  · exact .inr ⟨h, by rcases hh : Epo.sites n with _ | _; rfl; exact absurd ((Epo.sites_iff n).1 hh) h⟩
theorem rem_pos {a n : Int} (ha : 0 ≤ a) : a.tmod n = a % n := Int.tmod_eq_emod_of_nonneg ha
theorem div_pos {n : Int} (ha : 0 ≤ n) : n.tdiv 2 = n / 2 := Int.tdiv_eq_ediv_of_nonneg ha
set_option maxHeartbeats 1000000 in
theorem majority_any (n : Int) (w : World) : Calls Try.prog 13 #[.int .i64 n] w fun e w' => e = .returned (.int .i64 (Epo.maj n)) ∧ w = w' := by
  rcases sites_split n with ⟨h1, h2, hs⟩ | ⟨h, hs⟩
  · have HN := Lib.hid (soMany_any n)
    rw [hs] at HN
    have HM := Lib.hid (Epo.maj_range h1 h2)
    go_enter Try.func13, Try.ntmps13
    go_wp2_with fail
    refine (HN.out _).mono ?_
    rintro e w' ⟨rfl, rfl⟩
    go_wp2
    go_ret
    exact ⟨ret_int (by rw [HM.out]), rfl⟩
  · have HN := Lib.hid (soMany_any n)
    rw [hs] at HN
    have HM := Lib.hid (show Epo.maj n = 0 from if_neg h)
    clear h
    go_enter Try.func13, Try.ntmps13
    go_wp2_with fail
    refine (HN.out _).mono ?_
    rintro e w' ⟨rfl, rfl⟩
    go_wp2
    go_ret
    exact ⟨ret_int HM.out.symm, rfl⟩
set_option maxHeartbeats 1000000 in
theorem rmajority_any (n : Int) (w : World) : Calls Try.prog 14 #[.int .i64 n] w fun e w' => e = .returned (.int .i64 (Epo.maj n)) ∧ w = w' := by
  rcases sites_split n with ⟨h1, h2, hs⟩ | ⟨h, hs⟩
  · have HN := Lib.hid (sites_any n)
    rw [hs] at HN
    have HM := Lib.hid (Epo.maj_range h1 h2)
    go_enter Try.func14, Try.ntmps14
    go_wp2_with fail
    refine (HN.out _).mono ?_
    rintro e w' ⟨rfl, rfl⟩
    go_wp2
    go_ret
    exact ⟨ret_int (by rw [HM.out]), rfl⟩
  · have HN := Lib.hid (sites_any n)
    rw [hs] at HN
    have HM := Lib.hid (show Epo.maj n = 0 from if_neg h)
    clear h
    go_enter Try.func14, Try.ntmps14
    go_wp2_with fail
    refine (HN.out _).mono ?_
    rintro e w' ⟨rfl, rfl⟩
    go_wp2
    go_ret
    exact ⟨ret_int HM.out.symm, rfl⟩
set_option maxHeartbeats 1000000 in
theorem of_any (e n : Int) (w : World) : Calls Try.prog 11 #[.int .i64 e, .int .i64 n] w fun x w' => x = .returned (.int .i64 (Epo.whose e n)) ∧ w = w' := by
  have HN := Lib.hid (soMany_any n)
  have HE := Lib.hid (epoch_any e)
  rcases sites_split n with ⟨h1, h2, hs⟩ | ⟨h, hs⟩
  · rw [hs] at HN
    rcases epoch_split e with ⟨h3, h4, he⟩ | ⟨h', he⟩
    · rw [he] at HE
      have HM := Lib.hid (show Epo.whose e n = (e - 1) % n from if_pos ⟨h1, h2, h3, h4⟩)
      go_enter Try.func11, Try.ntmps11
      go_wp2_with fail
      refine (HN.out _).mono ?_
      rintro x w' ⟨rfl, rfl⟩
      go_wp2_with fail
      refine (HE.out _).mono ?_
      rintro x w' ⟨rfl, rfl⟩
      go_wp2
      go_ret
      exact ⟨ret_int HM.out.symm, rfl⟩
    · rw [he] at HE
      have HM := Lib.hid (show Epo.whose e n = -1 from if_neg (by omega))
      clear h'
      go_enter Try.func11, Try.ntmps11
      go_wp2_with fail
      refine (HN.out _).mono ?_
      rintro x w' ⟨rfl, rfl⟩
      go_wp2_with fail
      refine (HE.out _).mono ?_
      rintro x w' ⟨rfl, rfl⟩
      go_wp2
      go_ret
      exact ⟨ret_int HM.out.symm, rfl⟩
  · rw [hs] at HN
    have HM := Lib.hid (show Epo.whose e n = -1 from if_neg (by omega))
    clear h
    go_enter Try.func11, Try.ntmps11
    go_wp2_with fail
    refine (HN.out _).mono ?_
    rintro x w' ⟨rfl, rfl⟩
    go_wp2
    go_ret
    exact ⟨ret_int HM.out.symm, rfl⟩
end Go.Proofs.Ytmdchepmojlbbaa
