/-
  The contracts of Next of package epochs; of Of and Next of the document.
-/
import Derived.Test.YtmdchepmojlbbaaEPure
namespace Go.Proofs.Ytmdchepmojlbbaa
open Go.RowKit
def nextV (e s n : Int) : Value := .tuple #[.int .i64 (Epo.next e s n).1, .int .i64 (Epo.next e s n).2]
theorem next_arg {e s n : Int} (h : ¬ (2 ≤ n ∧ n ≤ 7 ∧ 0 ≤ s ∧ s < n ∧ 0 ≤ e ∧ e ≤ 1048576)) : nextV e s n = .tuple #[.int .i64 0, .int .i64 2] := by
  unfold nextV Epo.next; rw [if_neg h]
theorem next_long {e s n : Int} (h : 2 ≤ n ∧ n ≤ 7 ∧ 0 ≤ s ∧ s < n ∧ 0 ≤ e ∧ e ≤ 1048576) (hf : ¬ e + 1 + Epo.far e s n ≤ 1048576) : nextV e s n = .tuple #[.int .i64 0, .int .i64 3] := by
  unfold nextV Epo.next; rw [if_pos h, if_neg hf]
theorem next_ok {e s n : Int} (h : 2 ≤ n ∧ n ≤ 7 ∧ 0 ≤ s ∧ s < n ∧ 0 ≤ e ∧ e ≤ 1048576) (hf : e + 1 + Epo.far e s n ≤ 1048576) : nextV e s n = .tuple #[.int .i64 (e + 1 + Epo.far e s n), .int .i64 0] := by
  unfold nextV Epo.next; rw [if_pos h, if_pos hf]
set_option maxHeartbeats 1000000 in
theorem rof_any (e n : Int) (w : World) : Calls Try.prog 12 #[.int .i64 e, .int .i64 n] w fun x w' => x = .returned (.int .i64 (Epo.whose e n)) ∧ w = w' := by
  have HN := Lib.hid (sites_any n)
  by_cases h3 : 1 ≤ e
  · by_cases h4 : e ≤ 1048576
    · rcases sites_split n with ⟨h1, h2, hs⟩ | ⟨h, hs⟩
      · rw [hs] at HN
        have HM := Lib.hid (show Epo.whose e n = (e - 1) % n from if_pos ⟨h1, h2, h3, h4⟩)
        go_enter Try.func12, Try.ntmps12
        go_wp2_with fail
        refine (HN.out _).mono ?_
        rintro x w' ⟨rfl, rfl⟩
        go_wp2
        go_ret
        exact ⟨ret_int HM.out.symm, rfl⟩
      · rw [hs] at HN
        have HM := Lib.hid (show Epo.whose e n = -1 from if_neg (by omega))
        clear h
        go_enter Try.func12, Try.ntmps12
        go_wp2_with fail
        refine (HN.out _).mono ?_
        rintro x w' ⟨rfl, rfl⟩
        go_wp2
        go_ret
        exact ⟨ret_int HM.out.symm, rfl⟩
    · have HM := Lib.hid (show Epo.whose e n = -1 from if_neg (by omega))
      go_enter Try.func12, Try.ntmps12
      go_wp2
      go_ret
      exact ⟨ret_int HM.out.symm, rfl⟩
  · have HM := Lib.hid (show Epo.whose e n = -1 from if_neg (by omega))
    go_enter Try.func12, Try.ntmps12
    go_wp2
    go_ret
    exact ⟨ret_int HM.out.symm, rfl⟩
theorem far_go {e s n : Int} (h1 : 2 ≤ n) (h2 : n ≤ 7) (h3 : 0 ≤ s) (h4 : s < n) (h5 : 0 ≤ e) : (s - e.tmod n + n).tmod n = Epo.far e s n := by
  have := Int.emod_lt_of_pos e (show 0 < n by omega)
  rw [rem_pos h5, rem_pos (by omega)]; rfl
set_option maxHeartbeats 2000000 in
theorem next_any (e s n : Int) (w : World) : Calls Try.prog 9 #[.int .i64 e, .int .i64 s, .int .i64 n] w fun x w' => x = .returned (nextV e s n) ∧ w = w' := by
  have HN := Lib.hid (soMany_any n)
  have HE := Lib.hid (epoch_any e)
  rcases sites_split n with ⟨h1, h2, hs⟩ | ⟨h, hs⟩
  · rw [hs] at HN
    by_cases h3 : 0 ≤ s
    · by_cases h4 : s < n
      · by_cases h0 : e = 0
        · subst h0
          have hsn : s % n = s := Int.emod_eq_of_lt h3 h4
          have hf : Epo.far 0 s n = s := by unfold Epo.far; simp [hsn]
          have HM := Lib.hid (show nextV 0 s n = .tuple #[.int .i64 (1 + s), .int .i64 0] from by rw [next_ok (e := 0) ⟨h1, h2, h3, h4, by omega, by omega⟩ (by omega), hf]; rfl)
          clear hf
          go_enter Try.func9, Try.ntmps9
          go_wp2_with fail
          refine (HN.out _).mono ?_
          rintro x w' ⟨rfl, rfl⟩
          go_wp2_with fail
          go_ret2
          exact ⟨by rw [HM.out]; rfl, rfl⟩
        · rcases epoch_split e with ⟨h5, h6, he⟩ | ⟨h', he⟩
          · rw [he] at HE
            have hf := Epo.far_at (e := e) h1 h2 h3 h4
            have hg := far_go (e := e) h1 h2 h3 h4 (by omega)
            have hr : e.tmod n = e % n := rem_pos (by omega)
            have hr1 := Int.emod_nonneg e (show n ≠ 0 by omega)
            have hr2 := Int.emod_lt_of_pos e (show 0 < n by omega)
            have hx : nextV e s n = nextV e s n := rfl
            by_cases h7 : e + 1 + Epo.far e s n ≤ 1048576
            · have HM := Lib.hid (next_ok (e := e) ⟨h1, h2, h3, h4, by omega, by omega⟩ h7)
              generalize Epo.far e s n = f at *
              rw [hr] at hg
              generalize e % n = r at *
              go_enter Try.func9, Try.ntmps9
              go_wp2_with fail
              refine (HN.out _).mono ?_
              rintro x w' ⟨rfl, rfl⟩
              go_wp2_with fail
              refine (HE.out _).mono ?_
              rintro x w' ⟨rfl, rfl⟩
              go_wp2_with fail
              go_ret2
              exact ⟨by rw [HM.out]; rfl, rfl⟩
            · have HM := Lib.hid (next_long (e := e) ⟨h1, h2, h3, h4, by omega, by omega⟩ h7)
              generalize Epo.far e s n = f at *
              rw [hr] at hg
              generalize e % n = r at *
              go_enter Try.func9, Try.ntmps9
              go_wp2_with fail
              refine (HN.out _).mono ?_
              rintro x w' ⟨rfl, rfl⟩
              go_wp2_with fail
              refine (HE.out _).mono ?_
              rintro x w' ⟨rfl, rfl⟩
              go_wp2_with fail
              go_ret2
              exact ⟨by rw [HM.out]; rfl, rfl⟩
          · rw [he] at HE
            have HM := Lib.hid (next_arg (e := e) (s := s) (n := n) (by omega))
            have hb0 : (e != 0) = true := by simp [h0]
            clear h'
            go_enter Try.func9, Try.ntmps9
            go_wp2_with fail
            refine (HN.out _).mono ?_
            rintro x w' ⟨rfl, rfl⟩
            go_wp2_with fail
            refine (HE.out _).mono ?_
            rintro x w' ⟨rfl, rfl⟩
            go_wp2_with fail
            go_ret2
            exact ⟨by rw [HM.out]; rfl, rfl⟩
      · have HM := Lib.hid (next_arg (e := e) (s := s) (n := n) (by omega))
        go_enter Try.func9, Try.ntmps9
        go_wp2_with fail
        refine (HN.out _).mono ?_
        rintro x w' ⟨rfl, rfl⟩
        go_wp2_with fail
        go_ret2
        exact ⟨by rw [HM.out]; rfl, rfl⟩
    · have HM := Lib.hid (next_arg (e := e) (s := s) (n := n) (by omega))
      go_enter Try.func9, Try.ntmps9
      go_wp2_with fail
      refine (HN.out _).mono ?_
      rintro x w' ⟨rfl, rfl⟩
      go_wp2_with fail
      go_ret2
      exact ⟨by rw [HM.out]; rfl, rfl⟩
  · rw [hs] at HN
    have HM := Lib.hid (next_arg (e := e) (s := s) (n := n) (by omega))
    clear h
    go_enter Try.func9, Try.ntmps9
    go_wp2_with fail
    refine (HN.out _).mono ?_
    rintro x w' ⟨rfl, rfl⟩
    go_wp2_with fail
    go_ret2
    exact ⟨by rw [HM.out]; rfl, rfl⟩
end Go.Proofs.Ytmdchepmojlbbaa
