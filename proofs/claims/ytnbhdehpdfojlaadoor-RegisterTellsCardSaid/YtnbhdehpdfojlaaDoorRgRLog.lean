/-
  log of the document: whether entries may be the log of a register.
-/
import Derived.Test.YtnbhdehpdfojlaaDoorRgLog
namespace Go.Proofs.YtnbhdehpdfojlaaDoor
open Go.RowKit Go.Sort
theorem risB_at {es : List En} {k : Nat} (hk : k + 1 < es.length) (h : es[k + 1].ep < es[k].ep) : risB es = false := by
  refine risB_no hk ?_
  rw [epA_at hk, epA_at (by omega)]
  exact h
theorem risB_all {es : List En} (h : ∀ k (hk : k + 1 < es.length), es[k].ep ≤ es[k + 1].ep) : risB es = true := by
  simp only [risB, decide_eq_true_eq]
  intro i hi
  rw [epA_at (by omega), epA_at (by omega)]
  exact h i (by omega)
set_option maxRecDepth 100000 in
set_option maxHeartbeats 4000000 in
theorem rlog_any {A : Option Addr} {c : Nat} {es : List En} (v : Int) (w : World) (ha : EsB w.heap.size w (.slice A es.length c) es) : Calls Tryd.prog 24 #[.slice A es.length c, .int .i64 v] w (NumPost (.bool (logB es v)) w) := by
  have HCA := Lib.hid (fun X (hX : Below w.heap.size w X) k (hk : k < es.length) => EsB.cells (keepE hX ha) hk)
  obtain ⟨A', c', hv, h1, h2, -⟩ := ha.len
  injection hv with e1 _ e3
  subst e1 e3
  have hl : es.length ≤ maxLen := by omega
  unfold maxLen at hl
  clear ha h2
  by_cases h64 : 64 < es.length
  · have t0 : decide ((64 : Int) < (es.length : Int)) = true := decide_eq_true (by omega)
    rw [logB_long (by omega)]
    clear HCA
    go_enter Tryd.func24, Tryd.ntmps24
    go_wp2_with fail
    go_ret
    exact ⟨rfl, Below.refl _ _⟩
  have t0 : decide ((64 : Int) < (es.length : Int)) = false := decide_eq_false (by omega)
  replace h64 : Hid (es.length ≤ 64) := Lib.hid (by omega)
  go_enter Tryd.func24, Tryd.ntmps24
  go_wp2_with fail
  clear t0
  go_loopw [4, 5] (fun r i wr => ∃ k : Nat, k ≤ es.length ∧ r = .bool false ∧ i = .int .i64 k ∧ Hid (∀ j (hj : j < es.length), j < k → (1 ≤ es[j].ep ∧ es[j].ep ≤ v ∧ es[j].o.may = true) ∧ (∀ (q : Nat) (e : q + 1 = j), (es[q]'(by omega)).ep ≤ es[j].ep)) ∧ Below w.heap.size w wr) (fun _ i _ => es.length - (intOf i).toNat)
  case atStart => exact ⟨0, Nat.zero_le _, rfl, rfl, Lib.hid fun j hj h => by omega, Below.refl _ _⟩
  case round =>
    obtain ⟨k, hk, rfl, rfl, hup, hbr⟩ := hrel
    by_cases hlt : k < es.length
    · obtain ⟨b1, o1, c1, hv1, hl1, x0, x1, x2, x3, x4, x5⟩ := HCA.out wr hbr k hlt
      injection hv1 with e1 _ e3
      subst e1 e3
      have hii : (k : Int) < (es.length : Int) := by omega
      have HN : Hid (es[k].ep < 1 ∨ v < es[k].ep ∨ es[k].o.may = false → logB es v = false) := Lib.hid (logB_no hlt)
      have HU : Hid (1 ≤ es[k].ep → es[k].ep ≤ v → es[k].o.may = true → (∀ (q : Nat) (e : q + 1 = k), (es[q]'(by omega)).ep ≤ es[k].ep) → ∀ j (hj : j < es.length), j < k + 1 → (1 ≤ es[j].ep ∧ es[j].ep ≤ v ∧ es[j].o.may = true) ∧ (∀ (q : Nat) (e : q + 1 = j), (es[q]'(by omega)).ep ≤ es[j].ep)) := Lib.hid fun u1 u2 u3 u4 j hj hjk => by
        by_cases e : j = k
        · subst e; exact ⟨⟨u1, u2, u3⟩, u4⟩
        · exact hup.out j hj (by omega)
      have HP : Hid (∀ q, q + 1 = k → ∃ y : Int, wr.cell? ⟨b1, o1 + q * 6, none⟩ = some (.int .i64 y) ∧ (es[k].ep < y → logB es v = false) ∧ (y ≤ es[k].ep → ∀ (q : Nat) (e : q + 1 = k), (es[q]'(by omega)).ep ≤ es[k].ep)) := Lib.hid fun q e => by
        have hq : q < es.length := by omega
        obtain ⟨b2, o2, c2, hv2, _, y0, -⟩ := HCA.out wr hbr q hq
        injection hv2 with e2 _ e4
        injection e2 with e2
        injection e2 with e2 e5
        subst e2 e5
        refine ⟨_, y0, fun h => logB_rise (by subst e; exact risB_at hlt h), fun h q' e' => ?_⟩
        obtain rfl : q' = q := by omega
        exact h
      clear hup HCA hl1
      have HC := Lib.hid (rcheck_any es[k].o)
      generalize es[k] = x at *
      obtain ⟨z0, z1, z2, z3, z4, z5⟩ := x
      dsimp only [Od.v] at x0 x1 x2 x3 x4 x5 HN HU HC HP
      by_cases q1 : z0 < 1
      · have t1 : decide (z0 < 1) = true := decide_eq_true q1
        rw [HN.out (.inl q1)]
        clear HN HU HC q1 HP
        go_wp2_with fail
        go_quiet (fail)
        go_wp2_with fail
        go_ret
        exact ⟨rfl, below_drewN hbr _⟩
      have t1 : decide (z0 < 1) = false := decide_eq_false q1
      by_cases q2 : v < z0
      · have t2 : decide (v < z0) = true := decide_eq_true q2
        rw [HN.out (.inr (.inl q2))]
        clear HN HU HC q1 q2 HP
        go_wp2_with fail
        go_quiet (fail)
        go_wp2_with fail
        go_ret
        exact ⟨rfl, below_drewN hbr _⟩
      have t2 : decide (v < z0) = false := decide_eq_false q2
      rcases Nat.eq_zero_or_pos k with hk0 | hk0
      · subst hk0
        have hp0 : ∀ (q : Nat) (e : q + 1 = 0), (es[q]'(by omega)).ep ≤ z0 := fun q e => by omega
        have hu := HU.out (by omega) (by omega)
        have hn := HN.out
        clear HP HU HN q1 q2
        cases q3 : Od.may ⟨z1, z2, z3, z4, z5⟩ with
        | false =>
          rw [hn (.inr (.inr q3))]
          rw [show Od.err ⟨z1, z2, z3, z4, z5⟩ = 2 by simp [Od.err, q3]] at HC
          have cP : ∀ d os, Calls Tryd.prog 27 #[.agg #[.int .i64 z1, .int .i64 z2, .int .i64 z3, .int .i64 z4, .int .i64 z5]] (grow (redrawn wr d) os) fun e w'' => e = .returned (.int .i64 2) ∧ ∃ p : Regrown, w'' = grow (redrawn wr p.d) p.os := fun d os => Calls.regrown_of ((HC.out _).mono fun _ _ h => h)
          clear hu hn HC q3
          have k0 : ∀ d os, (grow (redrawn wr d) os).cell? ⟨b1, o1, none⟩ = some (.int .i64 z0) := fun d os => cell_regrown (by simpa using x0) d os
          have k1 : ∀ d os, (grow (redrawn wr d) os).cell? ⟨b1, o1 + 1, none⟩ = some (.int .i64 z1) := fun d os => cell_regrown (by simpa using x1) d os
          have k2 : ∀ d os, (grow (redrawn wr d) os).cell? ⟨b1, o1 + 2, none⟩ = some (.int .i64 z2) := fun d os => cell_regrown (by simpa using x2) d os
          have k3 : ∀ d os, (grow (redrawn wr d) os).cell? ⟨b1, o1 + 3, none⟩ = some (.int .i64 z3) := fun d os => cell_regrown (by simpa using x3) d os
          have k4 : ∀ d os, (grow (redrawn wr d) os).cell? ⟨b1, o1 + 4, none⟩ = some (.int .i64 z4) := fun d os => cell_regrown (by simpa using x4) d os
          have k5 : ∀ d os, (grow (redrawn wr d) os).cell? ⟨b1, o1 + 5, none⟩ = some (.int .i64 z5) := fun d os => cell_regrown (by simpa using x5) d os
          clear x0 x1 x2 x3 x4 x5
          go_wp2_with fail
          refine wp_region_quiet_below (by kernel_rfl) (by kernel_rfl) ?_
          repeat (go_big_quiet_step (exact cP _ _))
          refine wpQuiet_nil ?_
          intro _ hw'
          obtain ⟨⟨dq, osq⟩, hw''⟩ := hw'
          subst hw''
          have hbq := below_regrown wr dq osq
          generalize grow (redrawn wr dq) osq = u2 at *
          go_wp2_with fail
          go_ret
          exact ⟨rfl, keepB hbr hbq⟩
        | true =>
          have hu := Lib.hid (hu q3 hp0)
          rw [show Od.err ⟨z1, z2, z3, z4, z5⟩ = 0 by simp [Od.err, q3]] at HC
          have cP : ∀ d os, Calls Tryd.prog 27 #[.agg #[.int .i64 z1, .int .i64 z2, .int .i64 z3, .int .i64 z4, .int .i64 z5]] (grow (redrawn wr d) os) fun e w'' => e = .returned (.int .i64 0) ∧ ∃ p : Regrown, w'' = grow (redrawn wr p.d) p.os := fun d os => Calls.regrown_of ((HC.out _).mono fun _ _ h => h)
          clear hn HC q3
          have k0 : ∀ d os, (grow (redrawn wr d) os).cell? ⟨b1, o1, none⟩ = some (.int .i64 z0) := fun d os => cell_regrown (by simpa using x0) d os
          have k1 : ∀ d os, (grow (redrawn wr d) os).cell? ⟨b1, o1 + 1, none⟩ = some (.int .i64 z1) := fun d os => cell_regrown (by simpa using x1) d os
          have k2 : ∀ d os, (grow (redrawn wr d) os).cell? ⟨b1, o1 + 2, none⟩ = some (.int .i64 z2) := fun d os => cell_regrown (by simpa using x2) d os
          have k3 : ∀ d os, (grow (redrawn wr d) os).cell? ⟨b1, o1 + 3, none⟩ = some (.int .i64 z3) := fun d os => cell_regrown (by simpa using x3) d os
          have k4 : ∀ d os, (grow (redrawn wr d) os).cell? ⟨b1, o1 + 4, none⟩ = some (.int .i64 z4) := fun d os => cell_regrown (by simpa using x4) d os
          have k5 : ∀ d os, (grow (redrawn wr d) os).cell? ⟨b1, o1 + 5, none⟩ = some (.int .i64 z5) := fun d os => cell_regrown (by simpa using x5) d os
          clear x0 x1 x2 x3 x4 x5
          go_wp2_with fail
          refine wp_region_quiet_below (by kernel_rfl) (by kernel_rfl) ?_
          repeat (go_big_quiet_step (exact cP _ _))
          refine wpQuiet_nil ?_
          intro _ hw'
          obtain ⟨⟨dq, osq⟩, hw''⟩ := hw'
          subst hw''
          have hbq := below_regrown wr dq osq
          generalize grow (redrawn wr dq) osq = u2 at *
          go_wp2_with fail
          go_roundw
          case rel => exact ⟨1, by omega, rfl, by go_num, hu, keepB hbr hbq⟩
          case measure => simp [intOf]; omega
      · obtain ⟨j, rfl⟩ : ∃ j, k = j + 1 := ⟨k - 1, by omega⟩
        obtain ⟨y, y0, hy1, hy2⟩ := HP.out j rfl
        have t3 : decide ((0 : Int) < ((j + 1 : Nat) : Int)) = true := decide_eq_true (by omega)
        have hk0' : ((j + 1 : Nat) : Int) - 1 = (j : Int) := by omega
        have hjj : (j : Int) < (es.length : Int) := by omega
        clear HP
        by_cases q4 : z0 < y
        · have t4 : decide (z0 < y) = true := decide_eq_true q4
          rw [hy1 q4]
          clear HN HU HC q1 q2 q4 hy1 hy2
          go_wp2_with fail
          go_quiet (fail)
          go_wp2_with fail
          go_ret
          exact ⟨rfl, below_drewN hbr _⟩
        have t4 : decide (z0 < y) = false := decide_eq_false q4
        have hu := HU.out (by omega) (by omega)
        have hp0 := hy2 (by omega)
        have hn := HN.out
        clear HU HN q1 q2 hy1 hy2 q4
        cases q3 : Od.may ⟨z1, z2, z3, z4, z5⟩ with
        | false =>
          rw [hn (.inr (.inr q3))]
          rw [show Od.err ⟨z1, z2, z3, z4, z5⟩ = 2 by simp [Od.err, q3]] at HC
          have cP : ∀ d os, Calls Tryd.prog 27 #[.agg #[.int .i64 z1, .int .i64 z2, .int .i64 z3, .int .i64 z4, .int .i64 z5]] (grow (redrawn wr d) os) fun e w'' => e = .returned (.int .i64 2) ∧ ∃ p : Regrown, w'' = grow (redrawn wr p.d) p.os := fun d os => Calls.regrown_of ((HC.out _).mono fun _ _ h => h)
          clear hu hn HC q3 hp0
          have k0 : ∀ d os, (grow (redrawn wr d) os).cell? ⟨b1, o1 + (j + 1) * 6, none⟩ = some (.int .i64 z0) := fun d os => cell_regrown x0 d os
          have k1 : ∀ d os, (grow (redrawn wr d) os).cell? ⟨b1, o1 + (j + 1) * 6 + 1, none⟩ = some (.int .i64 z1) := fun d os => cell_regrown x1 d os
          have k2 : ∀ d os, (grow (redrawn wr d) os).cell? ⟨b1, o1 + (j + 1) * 6 + 2, none⟩ = some (.int .i64 z2) := fun d os => cell_regrown x2 d os
          have k3 : ∀ d os, (grow (redrawn wr d) os).cell? ⟨b1, o1 + (j + 1) * 6 + 3, none⟩ = some (.int .i64 z3) := fun d os => cell_regrown x3 d os
          have k4 : ∀ d os, (grow (redrawn wr d) os).cell? ⟨b1, o1 + (j + 1) * 6 + 4, none⟩ = some (.int .i64 z4) := fun d os => cell_regrown x4 d os
          have k5 : ∀ d os, (grow (redrawn wr d) os).cell? ⟨b1, o1 + (j + 1) * 6 + 5, none⟩ = some (.int .i64 z5) := fun d os => cell_regrown x5 d os
          have k6 : ∀ d os, (grow (redrawn wr d) os).cell? ⟨b1, o1 + j * 6, none⟩ = some (.int .i64 y) := fun d os => cell_regrown y0 d os
          clear x0 x1 x2 x3 x4 x5 y0
          go_wp2_with fail
          refine wp_region_quiet_below (by kernel_rfl) (by kernel_rfl) ?_
          repeat (go_big_quiet_step (exact cP _ _))
          refine wpQuiet_nil ?_
          intro _ hw'
          obtain ⟨⟨dq, osq⟩, hw''⟩ := hw'
          subst hw''
          have hbq := below_regrown wr dq osq
          generalize grow (redrawn wr dq) osq = u2 at *
          go_wp2_with fail
          go_ret
          exact ⟨rfl, keepB hbr hbq⟩
        | true =>
          have hu := Lib.hid (hu q3 hp0)
          rw [show Od.err ⟨z1, z2, z3, z4, z5⟩ = 0 by simp [Od.err, q3]] at HC
          have cP : ∀ d os, Calls Tryd.prog 27 #[.agg #[.int .i64 z1, .int .i64 z2, .int .i64 z3, .int .i64 z4, .int .i64 z5]] (grow (redrawn wr d) os) fun e w'' => e = .returned (.int .i64 0) ∧ ∃ p : Regrown, w'' = grow (redrawn wr p.d) p.os := fun d os => Calls.regrown_of ((HC.out _).mono fun _ _ h => h)
          clear hn HC q3 hp0
          have k0 : ∀ d os, (grow (redrawn wr d) os).cell? ⟨b1, o1 + (j + 1) * 6, none⟩ = some (.int .i64 z0) := fun d os => cell_regrown x0 d os
          have k1 : ∀ d os, (grow (redrawn wr d) os).cell? ⟨b1, o1 + (j + 1) * 6 + 1, none⟩ = some (.int .i64 z1) := fun d os => cell_regrown x1 d os
          have k2 : ∀ d os, (grow (redrawn wr d) os).cell? ⟨b1, o1 + (j + 1) * 6 + 2, none⟩ = some (.int .i64 z2) := fun d os => cell_regrown x2 d os
          have k3 : ∀ d os, (grow (redrawn wr d) os).cell? ⟨b1, o1 + (j + 1) * 6 + 3, none⟩ = some (.int .i64 z3) := fun d os => cell_regrown x3 d os
          have k4 : ∀ d os, (grow (redrawn wr d) os).cell? ⟨b1, o1 + (j + 1) * 6 + 4, none⟩ = some (.int .i64 z4) := fun d os => cell_regrown x4 d os
          have k5 : ∀ d os, (grow (redrawn wr d) os).cell? ⟨b1, o1 + (j + 1) * 6 + 5, none⟩ = some (.int .i64 z5) := fun d os => cell_regrown x5 d os
          have k6 : ∀ d os, (grow (redrawn wr d) os).cell? ⟨b1, o1 + j * 6, none⟩ = some (.int .i64 y) := fun d os => cell_regrown y0 d os
          clear x0 x1 x2 x3 x4 x5 y0
          go_wp2_with fail
          refine wp_region_quiet_below (by kernel_rfl) (by kernel_rfl) ?_
          repeat (go_big_quiet_step (exact cP _ _))
          refine wpQuiet_nil ?_
          intro _ hw'
          obtain ⟨⟨dq, osq⟩, hw''⟩ := hw'
          subst hw''
          have hbq := below_regrown wr dq osq
          generalize grow (redrawn wr dq) osq = u2 at *
          go_wp2_with fail
          go_roundw
          case rel => exact ⟨j + 1 + 1, by omega, rfl, by go_num, hu, keepB hbr hbq⟩
          case measure => simp [intOf]; omega
    · obtain rfl : k = es.length := by omega
      have hy : logB es v = true := logB_yes h64.out (risB_all fun q hq => (hup.out (q + 1) hq hq).2 q rfl) (fun k hk => (hup.out k hk hk).1)
      clear HCA hup
      replace hy := Lib.hid hy
      have hii : ¬ (es.length : Int) < (es.length : Int) := by omega
      go_wp2_with fail
      go_ret
      exact ⟨ret_bool hy.out.symm, hbr⟩
end Go.Proofs.YtnbhdehpdfojlaaDoor
