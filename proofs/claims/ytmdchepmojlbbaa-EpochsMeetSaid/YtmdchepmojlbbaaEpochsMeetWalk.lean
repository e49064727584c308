/-
  The walk of the law EpochsMeet.
-/
import Derived.Test.YtmdchepmojlbbaaRows
import Derived.Test.YtmdchepmojlbbaaEWorks
namespace Go.Proofs.Ytmdchepmojlbbaa.epochsMeetW
open Go.RowKit
set_option maxRecDepth 100000 in
set_option maxHeartbeats 2000000 in
theorem walk (a b : Nat) (n : Int) (W : World) (_ : a < 256) (_ : b < 256) (_ : (Lit.int .i64 n).wf = true) :
    Calls Try.prog 6 #[.int .u8 a, .int .u8 b, .int .i64 n] W fun x W' => x = .returned (.bool true) ∧ Below W.heap.size W W' := by
  have HM := Lib.hid (fun W => majority_any n W)
  rcases sites_split n with ⟨h1, h2, hs⟩ | ⟨h, hs⟩
  · have hm : Epo.maj n = n / 2 + 1 := Epo.maj_range h1 h2
    have hm2 : 2 ≤ Epo.maj n ∧ n < 2 * Epo.maj n ∧ 2 * Epo.maj n ≤ n + 2 := by rw [hm]; omega
    generalize Epo.maj n = m at *
    clear hm
    have hm0 : (m == 0) = false := by simp only [beq_eq_false_iff_ne, ne_eq]; omega
    go_enter Try.func6, Try.ntmps6
    go_wp2_with fail
    refine (HM.out _).mono ?_
    rintro x w1 ⟨rfl, rfl⟩
    go_wp2_with fail
    go_loopw [8, 9, 10, 11] (fun x y z i wr => ∃ (p q r k : Int), 0 ≤ k ∧ k ≤ n ∧ x = .int .i64 p ∧ y = .int .i64 q ∧ z = .int .i64 r ∧ i = .int .i64 k ∧ 0 ≤ r ∧ r ≤ p ∧ r ≤ q ∧ p ≤ k ∧ q ≤ k ∧ p + q ≤ k + r ∧ W = wr) (fun _ _ _ i _ => (n - intOf i).toNat)
    case atStart => exact ⟨0, 0, 0, 0, by omega, by omega, rfl, rfl, rfl, rfl, by omega, by omega, by omega, by omega, by omega, by omega, rfl⟩
    case round =>
      obtain ⟨p, q, r, k, hk0, hk, rfl, rfl, rfl, rfl, hr0, hrp, hrq, hpk, hqk, hpq, rfl⟩ := hrel
      by_cases hlt : k < n
      · go_wp2_with fail
        all_goals
          go_roundw
          case rel => exact ⟨_, _, _, k + 1, by omega, by omega, rfl, rfl, rfl, rfl, by omega, by omega, by omega, by omega, by omega, by omega, trivial⟩
          case measure => simp [intOf]; omega
      · have hkn : k = n := by omega
        subst hkn
        have g1 : (p < m) ∨ (m ≤ p ∧ q < m) ∨ (m ≤ p ∧ m ≤ q ∧ 0 < r) := by omega
        rcases g1 with g1 | ⟨g1, g2⟩ | ⟨g1, g2, g3⟩
        all_goals
          go_wp2_with fail
          refine (works_any _).mono ?_
          rintro x w7 ⟨rfl, hb7⟩
          go_wp2_with fail
          go_ret
          exact ⟨rfl, hb7⟩
  · have hm : Epo.maj n = 0 := if_neg h
    rw [hm] at HM
    rcases (show n < 2 ∨ (2 ≤ n ∧ 7 < n) by omega) with g1 | ⟨g1, g2⟩
    all_goals
      clear h
      go_enter Try.func6, Try.ntmps6
      go_wp2_with fail
      refine (HM.out _).mono ?_
      rintro x w1 ⟨rfl, rfl⟩
      go_wp2_with fail
      refine (works_any _).mono ?_
      rintro x w7 ⟨rfl, hb7⟩
      go_wp2_with fail
      go_ret
      exact ⟨rfl, hb7⟩
end Go.Proofs.Ytmdchepmojlbbaa.epochsMeetW
