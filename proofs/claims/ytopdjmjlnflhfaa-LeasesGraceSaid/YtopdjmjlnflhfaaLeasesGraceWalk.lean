/-
  The walk of the law LeasesGrace.
-/
import Derived.Test.YtopdjmjlnflhfaaBkOn
import Derived.Test.YtopdjmjlnflhfaaRows
import Derived.Deep.LoopGhost
namespace Go.Proofs.Ytopdjmjlnflhfaa.leasesGraceW
open Go.RowKit Go.Sort Go.Maps
theorem may_new (now s e t : Int) : Lea.may (Lea.new now true) s e t = !decide (t < Lea.over now) := by
  unfold Lea.may
  have h : Lea.hold (Lea.new now true) s t = (0, false) := rfl
  rw [h]
  show (!decide (t < Lea.over now) && true) = _
  simp
theorem hold_was {s e then_ t : Int} (h2 : then_ ≤ 1073741824) {B : Lea.Bk} {r : Int} (hB : Lea.grant (Lea.new 0 false) s e then_ = (B, r)) : ∃ x b, Lea.hold B s t = (x, b) ∧ (b = true → t < then_ + 16) := by
  unfold Lea.grant at hB
  by_cases c : s < 0 ∨ 4 ≤ s ∨ e < 1
  · rw [if_pos c] at hB
    injection hB with hB _
    subst hB
    exact ⟨0, false, rfl, fun h => by cases h⟩
  · rw [if_neg c] at hB
    have hn : Lea.next ((Lea.new 0 false).g s) e then_ = some (e, Lea.over then_) := rfl
    rw [hn] at hB
    injection hB with hB _
    subst hB
    have hg : ((Lea.new 0 false).set s (e, Lea.over then_)).g s = some (e, Lea.over then_) := if_pos rfl
    rw [Lea.hold_some hg]
    by_cases ct : t < Lea.over then_
    · rw [if_pos ct]
      exact ⟨_, _, rfl, fun _ => by unfold Lea.over at ct; omega⟩
    · rw [if_neg ct]
      exact ⟨_, _, rfl, fun h => by cases h⟩
set_option maxRecDepth 100000 in
set_option maxHeartbeats 4000000 in
theorem walk (s e now : Int) (a : Nat) (w : World) (hs : (Lit.int .i64 s).wf = true) (he : (Lit.int .i64 e).wf = true) (hn : (Lit.int .i64 now).wf = true) (ha : a < 256) :
    Calls Try.prog 4 #[.agg #[.int .i64 s, .int .i64 e, .int .i64 now], .int .u8 (a : Int)] w fun x w' => x = .returned (.bool true) ∧ Below w.heap.size w w' := by
  have hn' := bounds_i64 hn
  have hb0 : ∀ k, Below w.heap.size w ((w.alloc (.cells #[.int .i64 s, .int .i64 e, .int .i64 now] 33)).drewN k) := fun k => below_drewN ((Below.refl _ w).alloc (Nat.le_refl _) _) k
  replace hb0 := Lib.hid hb0
  by_cases c1 : now < 0
  · go_enter Try.func4, Try.ntmps4
    go_wp2_with fail
    go_quiet (fail)
    go_wp2_with fail
    refine (lives_any _).mono ?_
    rintro x w2 ⟨rfl, hb2⟩
    go_wp2_with fail
    go_ret
    exact ⟨rfl, (hb0.out _).trans (hb2.mono (hb0.out 0).size)⟩
  by_cases c2 : 1073741824 ≤ now
  · go_enter Try.func4, Try.ntmps4
    go_wp2_with fail
    go_quiet (fail)
    go_wp2_with fail
    refine (lives_any _).mono ?_
    rintro x w2 ⟨rfl, hb2⟩
    go_wp2_with fail
    go_ret
    exact ⟨rfl, (hb0.out _).trans (hb2.mono (hb0.out 0).size)⟩
  by_cases c3 : e < 1
  · go_enter Try.func4, Try.ntmps4
    go_wp2_with fail
    go_quiet (fail)
    go_wp2_with fail
    refine (lives_any _).mono ?_
    rintro x w2 ⟨rfl, hb2⟩
    go_wp2_with fail
    go_ret
    exact ⟨rfl, (hb0.out _).trans (hb2.mono (hb0.out 0).size)⟩
  have hth : ∃ th : Int, max (now - (a : Int)) 0 = th ∧ 0 ≤ th ∧ th ≤ now := ⟨_, rfl, by omega, by omega⟩
  obtain ⟨th, hth, h0, hle⟩ := hth
  obtain ⟨B, r, hB⟩ : ∃ B r, Lea.grant (Lea.new 0 false) s e th = (B, r) := ⟨_, _, rfl⟩
  have HB := Lib.hid hB
  have HW := Lib.hid (fun t => hold_was (s := s) (e := e) (then_ := th) (t := t) (by omega) hB)
  have hwt : (Lit.int .i64 th).wf = true := WalkArith.wf_i64 (by omega)
  have hov : Hid (Lea.over now = now + 16) := Lib.hid (by unfold Lea.over; omega)
  clear hB
  go_enter Try.func4, Try.ntmps4
  go_wp2_with fail
  go_quiet (fail)
  go_wp2_with fail
  generalize hXe : (w.alloc (.cells #[.int .i64 s, .int .i64 e, .int .i64 now] 33)).drewN _ = X at *
  have hX : Hid (Below w.heap.size w X) := Lib.hid (hXe ▸ hb0.out _)
  clear hXe hb0
  refine (one_new 0 false (by decide) _ rfl).mono ?_
  rintro x w1 ⟨p, m, rfl, H1⟩
  go_wp2_with fail
  refine (one_grant H1 (by decide) he hwt HB.out).mono ?_
  rintro x w2 ⟨rfl, H2⟩
  clear H1
  go_wp2_with fail
  refine (two_new now true hn'.1 H2 rfl).mono ?_
  rintro x w3 ⟨q, k, rfl, H3⟩
  clear H2
  go_wp2_with fail
  go_loopw [11] (fun iv wr => ∃ i : Nat, i ≤ 20 ∧ iv = .int .i64 (i : Int) ∧ Hid (Two X p m 1 B q k 0 (Lea.new now true) wr)) (fun iv _ => 20 - (intOf iv).toNat)
  case atStart => exact ⟨0, by omega, rfl, H3⟩
  case round =>
    obtain ⟨i, hi, rfl, H4⟩ := hrel
    clear H3
    by_cases hlt : i < 20
    · obtain ⟨x, b, hx, hxb⟩ := HW.out (now + i)
      have hii : (i : Int) ≤ 19 := by omega
      have hMay := may_new now s (wrap64 (e + 1)) (now + i)
      rw [hov.out] at hMay
      by_cases h16 : (16 : Int) ≤ i
      · rw [decide_eq_false (by omega), Bool.not_false] at hMay
        have hb : b = false := by
          cases b with
          | false => rfl
          | true => have := hxb rfl; omega
        subst hb
        replace hMay := Lib.hid hMay
        clear hxb
        go_wp2_with fail
        refine (two_hold H4 hs hx).mono ?_
        rintro y w5 ⟨rfl, H5⟩
        replace H5 : Hid _ := Lib.hid H5.out.swap
        clear H4
        go_wp2_with fail
        refine (two_may H5 hs hMay.out).mono ?_
        rintro y w6 ⟨rfl, H6⟩
        replace H6 : Hid _ := Lib.hid H6.out.swap
        clear H5
        go_wp2_with fail
        go_roundw
        case rel => exact ⟨i + 1, by omega, by go_num, H6⟩
        case measure => simp [intOf]; omega
      · rw [decide_eq_true (by omega), Bool.not_true] at hMay
        replace hMay := Lib.hid hMay
        clear hxb
        cases b
        all_goals
          go_wp2_with fail
          refine (two_hold H4 hs hx).mono ?_
          rintro y w5 ⟨rfl, H5⟩
          replace H5 : Hid _ := Lib.hid H5.out.swap
          clear H4
          go_wp2_with fail
          refine (two_may H5 hs hMay.out).mono ?_
          rintro y w6 ⟨rfl, H6⟩
          replace H6 : Hid _ := Lib.hid H6.out.swap
          clear H5
          go_wp2_with fail
          go_roundw
          case rel => exact ⟨i + 1, by omega, by go_num, H6⟩
          case measure => simp [intOf]; omega
    · obtain rfl : i = 20 := by omega
      go_wp2_with fail
      refine (lives_any _).mono ?_
      rintro y w5 ⟨rfl, hb5⟩
      have hbl := H4.out.a.bel
      go_wp2_with fail
      go_ret
      exact ⟨rfl, hX.out.trans ((hbl.trans (hb5.mono hbl.size)).mono hX.out.size)⟩
end Go.Proofs.Ytopdjmjlnflhfaa.leasesGraceW
