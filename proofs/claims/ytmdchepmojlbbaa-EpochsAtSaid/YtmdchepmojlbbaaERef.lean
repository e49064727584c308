/-
  The contracts of Next and Most of the document.
-/
import Derived.BigQuiet
import Derived.WalkSmall
import Derived.Deep.QuietTactic
import Derived.Test.YtmdchepmojlbbaaEMost
import Derived.Test.YtmdchepmojlbbaaENext
namespace Go.Proofs.Ytmdchepmojlbbaa
open Go.RowKit
theorem whose_at {e s n x : Int} (h1 : 2 ≤ n) (h2 : n ≤ 7) (h3 : 0 ≤ s) (h4 : s < n) (h5 : 0 ≤ e) (h6 : e + 1 ≤ x) (h7 : x ≤ e + n) : Epo.whose x n = s ↔ x = e + 1 + Epo.far e s n ∧ x ≤ 1048576 := by
  have := Epo.next_round (e := e) (s := s) (n := n) (j := x - e - 1) h1 h2 h3 h4 h5 (by omega) (by omega)
  rw [show e + 1 + (x - e - 1) = x by omega] at this
  rw [this]
  omega
set_option maxHeartbeats 2000000 in
theorem rnext_any (e s n : Int) (w : World) : Calls Try.prog 10 #[.int .i64 e, .int .i64 s, .int .i64 n] w fun x w' => x = .returned (nextV e s n) ∧ w = w' := by
  have HN := Lib.hid (sites_any n)
  rcases sites_split n with ⟨h1, h2, hs⟩ | ⟨h, hs⟩
  · rw [hs] at HN
    by_cases h3 : 0 ≤ s
    · by_cases h4 : s < n
      · by_cases h5 : 0 ≤ e
        · by_cases h6 : e ≤ 1048576
          · have hf := Epo.far_at (e := e) h1 h2 h3 h4
            have HW := Lib.hid (fun x => whose_at (x := x) h1 h2 h3 h4 h5)
            by_cases h7 : e + 1 + Epo.far e s n ≤ 1048576
            · have HM := Lib.hid (next_ok (e := e) ⟨h1, h2, h3, h4, by omega, by omega⟩ h7)
              generalize Epo.far e s n = f at *
              go_enter Try.func10, Try.ntmps10
              go_wp2_with fail
              refine (HN.out _).mono ?_
              rintro x w' ⟨rfl, rfl⟩
              go_wp2_with fail
              go_loopw [8] (fun i wr => ∃ x : Int, e + 1 ≤ x ∧ x ≤ e + 1 + f ∧ i = .int .i64 x ∧ w = wr) (fun i _ => (e + 1 + n - intOf i).toNat)
              case atStart => exact ⟨_, Int.le_refl _, by omega, rfl, rfl⟩
              case round =>
                obtain ⟨x, hx1, hx2, rfl, rfl⟩ := hrel
                have HO := Lib.hid (rof_any x n)
                by_cases hx : x = e + 1 + f
                · have hw : Epo.whose x n = s := (HW.out x hx1 (by omega)).2 ⟨hx, by omega⟩
                  rw [hw] at HO
                  have hx3 : x ≤ e + n := by omega
                  rw [← hx] at HM
                  clear hx
                  go_wp2_with fail
                  refine (HO.out _).mono ?_
                  rintro y w' ⟨rfl, rfl⟩
                  go_wp2_with fail
                  go_ret2
                  exact ⟨by rw [HM.out]; rfl, rfl⟩
                · have hw : (Epo.whose x n == s) = false := by
                    simp only [beq_eq_false_iff_ne, ne_eq]
                    intro hh
                    exact hx ((HW.out x hx1 (by omega)).1 hh).1
                  have hx3 : x ≤ e + n := by omega
                  have hx4 : x + 1 ≤ e + 1 + f := by omega
                  generalize Epo.whose x n = q at *
                  clear hx
                  go_wp2_with fail
                  refine (HO.out _).mono ?_
                  rintro y w' ⟨rfl, rfl⟩
                  go_wp2_with fail
                  go_roundw
                  case rel => exact ⟨x + 1, by omega, hx4, rfl, trivial⟩
                  case measure => simp [intOf]; omega
            · have HM := Lib.hid (next_long (e := e) ⟨h1, h2, h3, h4, by omega, by omega⟩ h7)
              generalize Epo.far e s n = f at *
              go_enter Try.func10, Try.ntmps10
              go_wp2_with fail
              refine (HN.out _).mono ?_
              rintro x w' ⟨rfl, rfl⟩
              go_wp2_with fail
              go_loopw [8] (fun i wr => ∃ x : Int, e + 1 ≤ x ∧ x ≤ e + 1 + n ∧ i = .int .i64 x ∧ w = wr) (fun i _ => (e + 1 + n - intOf i).toNat)
              case atStart => exact ⟨_, Int.le_refl _, by omega, rfl, rfl⟩
              case round =>
                obtain ⟨x, hx1, hx2, rfl, rfl⟩ := hrel
                have HO := Lib.hid (rof_any x n)
                by_cases hx : x ≤ e + n
                · have hw : (Epo.whose x n == s) = false := by
                    simp only [beq_eq_false_iff_ne, ne_eq]
                    intro hh
                    have := (HW.out x hx1 (by omega)).1 hh
                    omega
                  generalize Epo.whose x n = q at *
                  go_wp2_with fail
                  refine (HO.out _).mono ?_
                  rintro y w' ⟨rfl, rfl⟩
                  go_wp2_with fail
                  go_roundw
                  case rel => exact ⟨x + 1, by omega, by omega, rfl, trivial⟩
                  case measure => simp [intOf]; omega
                · go_wp2_with fail
                  go_ret2
                  exact ⟨by rw [HM.out]; rfl, rfl⟩
          · have HM := Lib.hid (next_arg (e := e) (s := s) (n := n) (by omega))
            go_enter Try.func10, Try.ntmps10
            go_wp2_with fail
            refine (HN.out _).mono ?_
            rintro x w' ⟨rfl, rfl⟩
            go_wp2_with fail
            go_ret2
            exact ⟨by rw [HM.out]; rfl, rfl⟩
        · have HM := Lib.hid (next_arg (e := e) (s := s) (n := n) (by omega))
          go_enter Try.func10, Try.ntmps10
          go_wp2_with fail
          refine (HN.out _).mono ?_
          rintro x w' ⟨rfl, rfl⟩
          go_wp2_with fail
          go_ret2
          exact ⟨by rw [HM.out]; rfl, rfl⟩
      · have HM := Lib.hid (next_arg (e := e) (s := s) (n := n) (by omega))
        go_enter Try.func10, Try.ntmps10
        go_wp2_with fail
        refine (HN.out _).mono ?_
        rintro x w' ⟨rfl, rfl⟩
        go_wp2_with fail
        go_ret2
        exact ⟨by rw [HM.out]; rfl, rfl⟩
    · have HM := Lib.hid (next_arg (e := e) (s := s) (n := n) (by omega))
      go_enter Try.func10, Try.ntmps10
      go_wp2_with fail
      refine (HN.out _).mono ?_
      rintro x w' ⟨rfl, rfl⟩
      go_wp2_with fail
      go_ret2
      exact ⟨by rw [HM.out]; rfl, rfl⟩
  · rw [hs] at HN
    have HM := Lib.hid (next_arg (e := e) (s := s) (n := n) (by omega))
    clear h
    go_enter Try.func10, Try.ntmps10
    go_wp2_with fail
    refine (HN.out _).mono ?_
    rintro x w' ⟨rfl, rfl⟩
    go_wp2_with fail
    go_ret2
    exact ⟨by rw [HM.out]; rfl, rfl⟩
end Go.Proofs.Ytmdchepmojlbbaa
