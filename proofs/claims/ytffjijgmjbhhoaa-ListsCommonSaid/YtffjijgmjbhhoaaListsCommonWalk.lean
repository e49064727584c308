/-
  The walk of the law ListsCommon: it returns true and writes nothing that was there.
-/
import Derived.Test.YtffjijgmjbhhoaaLsWorks
import Derived.Test.YtffjijgmjbhhoaaLsPre
import Derived.Deep.DeepCutAuto
namespace Go.Proofs.Ytffjijgmjbhhoaa.listsCommonW
open Go.RowKit Go.Sort
theorem pre_cut {es fs : List En} {n : Nat} (h : n ≤ cp es fs) : pre (es.take n) fs = true := by
  have := cp_le es fs
  unfold pre
  rw [cp_take, List.length_take, decide_eq_true]
  omega
theorem pre_over {es fs : List En} (h1 : cp es fs < es.length) : pre (es.take (cp es fs + 1)) fs = false := by
  unfold pre
  rw [cp_take, List.length_take, decide_eq_false]
  omega
theorem cp_part {es fs : List En} (h1 : cp es fs < es.length) (h2 : cp es fs < fs.length) : es[cp es fs] ≠ fs[cp es fs] := fun h => by
  have := (cp_step es fs (cp es fs) (Nat.le_refl _) h1 h2).1 h
  omega
set_option maxRecDepth 100000 in
set_option maxHeartbeats 2000000 in
theorem walk_off (A A' : Option Addr) (n c n' c' : Nat) (w : World) (h : 500 < n ∨ 500 < n') : Calls Try.prog 8 #[.slice A n c, .slice A' n' c'] w (fun e w' => e = .returned (.bool true) ∧ Below w.heap.size w w') := by
  by_cases h1 : 500 < n
  · have t2 : (500 : Int) < (n : Int) := by omega
    clear h
    go_enter Try.func8, Try.ntmps8
    go_wp2_with fail
    go_ret
    exact ⟨rfl, Below.refl _ _⟩
  · have t2 : ¬ (500 : Int) < (n : Int) := by omega
    have t5 : 500 < n' := by omega
    have t4 : (500 : Int) < (n' : Int) := by omega
    clear h
    go_enter Try.func8, Try.ntmps8
    go_wp2_with fail
    go_ret
    exact ⟨rfl, Below.refl _ _⟩
set_option maxRecDepth 100000 in
set_option maxHeartbeats 2000000 in
theorem walk (A : Option Addr) (c : Nat) (es : List En) (A' : Option Addr) (c' : Nat) (fs : List En) (w : World) (ha : EsB w.heap.size w (.slice A es.length c) es) (hb : EsB w.heap.size w (.slice A' fs.length c') fs) : Calls Try.prog 8 #[.slice A es.length c, .slice A' fs.length c'] w (fun e w' => e = .returned (.bool true) ∧ Below w.heap.size w w') := by
  by_cases hn : 500 < es.length ∨ 500 < fs.length
  · exact walk_off A A' es.length c fs.length c' w hn
  · have n1 : ¬ 500 < es.length := by omega
    have n2 : ¬ 500 < fs.length := by omega
    have t1 : ¬ (500 : Int) < (es.length : Int) := by omega
    have t2 : ¬ (500 : Int) < (fs.length : Int) := by omega
    clear hn
    obtain ⟨_, _, hv, hl1, hl2, -⟩ := ha.len
    injection hv with q1 _ q3
    subst q1 q3
    obtain ⟨_, _, hv, hl1', hl2', -⟩ := hb.len
    injection hv with q1 _ q3
    subst q1 q3
    unfold maxLen at hl2 hl2'
    have HA : ∀ X : World, Below w.heap.size w X → EsB w.heap.size X (.slice A es.length c) es := fun X hX => RdB.below ha hX (Nat.le_refl _)
    have HB : ∀ X : World, Below w.heap.size w X → EsB w.heap.size X (.slice A' fs.length c') fs := fun X hX => RdB.below hb hX (Nat.le_refl _)
    obtain ⟨n, hn⟩ : ∃ n, Hid (cp es fs = n) := ⟨_, Lib.hid rfl⟩
    have hle := cp_le es fs
    rw [hn.out] at hle
    obtain ⟨hna, hnb⟩ := hle
    have C1 := Lib.hid (common_any ha hb)
    rw [hn.out] at C1
    have C2 : Hid (∀ X, Below w.heap.size w X → Calls Try.prog 14 #[.slice A' fs.length c', .slice A es.length c] X (NumPost (.int .i64 (n : Int)) X)) := Lib.hid fun X hX => by
      have h := common_any (HB X hX) (HA X hX)
      rwa [cp_comm, hn.out] at h
    have P1 : Hid (∀ X, Below w.heap.size w X → Calls Try.prog 12 #[.slice A n c, .slice A' fs.length c'] X (NumPost (.bool true) X)) := Lib.hid fun X hX => by
      have h := prefix_any (EsB.take (HA X hX) hna) (HB X hX)
      rwa [pre_cut (by rw [hn.out]; exact Nat.le_refl _)] at h
    have P2 : Hid (∀ X, Below w.heap.size w X → Calls Try.prog 12 #[.slice A' n c', .slice A es.length c] X (NumPost (.bool true) X)) := Lib.hid fun X hX => by
      have h := prefix_any (EsB.take (HB X hX) hnb) (HA X hX)
      rwa [pre_cut (by rw [cp_comm, hn.out]; exact Nat.le_refl _)] at h
    have P3 : Hid (∀ X, Below w.heap.size w X → Calls Try.prog 12 #[.slice A es.length c, .slice A' fs.length c'] X (NumPost (.bool (decide (n = es.length))) X)) := Lib.hid fun X hX => by
      have h := prefix_any (HA X hX) (HB X hX)
      unfold pre at h
      rwa [hn.out] at h
    have P4 : Hid (n < es.length → ∀ X, Below w.heap.size w X → Calls Try.prog 12 #[.slice A (n + 1) c, .slice A' fs.length c'] X (NumPost (.bool false) X)) := Lib.hid fun hlt X hX => by
      have h := prefix_any (EsB.take (i := n + 1) (HA X hX) (by omega)) (HB X hX)
      have e := pre_over (es := es) (fs := fs) (by rw [hn.out]; exact hlt)
      rw [hn.out] at e
      rwa [e] at h
    have HNE : Hid (∀ (h1 : n < es.length) (h2 : n < fs.length), es[n] ≠ fs[n]) := Lib.hid fun h1 h2 => by
      have e := hn.out
      subst e
      exact cp_part h1 h2
    have HCA := Lib.hid (fun X (hX : Below w.heap.size w X) k hk => EsB.cells (HA X hX) (k := k) hk)
    have HCB := Lib.hid (fun X (hX : Below w.heap.size w X) k hk => EsB.cells (HB X hX) (k := k) hk)
    clear ha hb HA HB
    have nc : n ≤ c := by omega
    have nc' : n ≤ c' := by omega
    have z0 : ¬ (n : Int) < 0 := by omega
    have z1 : ¬ (es.length : Int) < (n : Int) := by omega
    have z2 : ¬ (fs.length : Int) < (n : Int) := by omega
    have z3 : ¬ es.length < n := by omega
    have z4 : ¬ fs.length < n := by omega
    go_enter Try.func8, Try.ntmps8
    go_wp2_with fail
    refine (C1.out).mono ?_
    rintro e w1 ⟨rfl, hb1⟩
    go_wp2_with fail
    refine (P1.out w1 hb1).mono ?_
    rintro e w2 ⟨rfl, hb2⟩
    have hB2 := hb1.trans (hb2.mono hb1.size)
    go_wp2_with fail
    refine (P2.out w2 hB2).mono ?_
    rintro e w3 ⟨rfl, hb3⟩
    have hB3 := hB2.trans (hb3.mono hB2.size)
    clear C1 P1 P2 hb1 hb2 hb3 hB2
    go_upto_region 6 with fail
    go_cut [75] (fun s wx => s = .bool false ∧ Below w.heap.size w wx)
    case first =>
      by_cases hlt : n < es.length
      · by_cases hlt' : n < fs.length
        · obtain ⟨b1, o1, c1, hv1, _, x0, x1, x2, x3, x4, x5⟩ := HCA.out w3 hB3 n hlt
          obtain ⟨b2, o2, c2, hv2, _, y0, y1, y2, y3, y4, y5⟩ := HCB.out w3 hB3 n hlt'
          injection hv1 with e1 _ e3
          injection hv2 with e2 _ e4
          subst e1 e2 e3 e4
          have hne := en_part (HNE.out hlt hlt')
          have HP := Lib.hid (P4.out hlt)
          have i1 : (n : Int) < (es.length : Int) := by omega
          have i2 : (n : Int) < (fs.length : Int) := by omega
          have n1c : n + 1 ≤ c := by omega
          have d1 : decide ((n : Int) < (es.length : Int)) = true := decide_eq_true i1
          have d2 : decide ((n : Int) < (fs.length : Int)) = true := decide_eq_true i2
          clear P3 P4 HNE HCA HCB C2
          generalize es[n] = x at *
          generalize fs[n] = y at *
          obtain ⟨p0, p1, p2, p3, p4, p5⟩ := x
          obtain ⟨q0, q1, q2, q3, q4, q5⟩ := y
          dsimp only at x0 x1 x2 x3 x4 x5 y0 y1 y2 y3 y4 y5 hne
          have k0 : ∀ d' os, (grow (redrawn w3 d') os).cell? ⟨b1, o1 + n * 6, none⟩ = some (.int .i64 p0) := fun d' os => cell_regrown x0 d' os
          have k1 : ∀ d' os, (grow (redrawn w3 d') os).cell? ⟨b1, o1 + n * 6 + 1, none⟩ = some (.int .i64 p1) := fun d' os => cell_regrown x1 d' os
          have k2 : ∀ d' os, (grow (redrawn w3 d') os).cell? ⟨b1, o1 + n * 6 + 2, none⟩ = some (.int .i64 p2) := fun d' os => cell_regrown x2 d' os
          have k3 : ∀ d' os, (grow (redrawn w3 d') os).cell? ⟨b1, o1 + n * 6 + 3, none⟩ = some (.int .i64 p3) := fun d' os => cell_regrown x3 d' os
          have k4 : ∀ d' os, (grow (redrawn w3 d') os).cell? ⟨b1, o1 + n * 6 + 4, none⟩ = some (.int .i64 p4) := fun d' os => cell_regrown x4 d' os
          have k5 : ∀ d' os, (grow (redrawn w3 d') os).cell? ⟨b1, o1 + n * 6 + 5, none⟩ = some (.int .i64 p5) := fun d' os => cell_regrown x5 d' os
          have l0 : ∀ d' os, (grow (redrawn w3 d') os).cell? ⟨b2, o2 + n * 6, none⟩ = some (.int .i64 q0) := fun d' os => cell_regrown y0 d' os
          have l1 : ∀ d' os, (grow (redrawn w3 d') os).cell? ⟨b2, o2 + n * 6 + 1, none⟩ = some (.int .i64 q1) := fun d' os => cell_regrown y1 d' os
          have l2 : ∀ d' os, (grow (redrawn w3 d') os).cell? ⟨b2, o2 + n * 6 + 2, none⟩ = some (.int .i64 q2) := fun d' os => cell_regrown y2 d' os
          have l3 : ∀ d' os, (grow (redrawn w3 d') os).cell? ⟨b2, o2 + n * 6 + 3, none⟩ = some (.int .i64 q3) := fun d' os => cell_regrown y3 d' os
          have l4 : ∀ d' os, (grow (redrawn w3 d') os).cell? ⟨b2, o2 + n * 6 + 4, none⟩ = some (.int .i64 q4) := fun d' os => cell_regrown y4 d' os
          have l5 : ∀ d' os, (grow (redrawn w3 d') os).cell? ⟨b2, o2 + n * 6 + 5, none⟩ = some (.int .i64 q5) := fun d' os => cell_regrown y5 d' os
          have c0 : ∀ d' os, Calls Try.prog 12 #[.slice (some ⟨b1, o1, none⟩) (n + 1) c, .slice (some ⟨b2, o2, none⟩) fs.length c'] (grow (redrawn w3 d') os) fun e w'' => e = .returned (.bool false) ∧ ∃ p : Regrown, w'' = grow (redrawn w3 p.d) p.os := fun d' os => Calls.regrown_of (HP.out _ (hB3.trans ((below_regrown w3 d' os).mono hB3.size)))
          clear x0 x1 x2 x3 x4 x5 y0 y1 y2 y3 y4 y5 HP
          rcases hne with h | ⟨rfl, h⟩ | ⟨rfl, rfl, h⟩ | ⟨rfl, rfl, rfl, h⟩ | ⟨rfl, rfl, rfl, rfl, h⟩ | ⟨rfl, rfl, rfl, rfl, rfl, h⟩ <;>
          · have hb := beq_eq_false_iff_ne.2 h
            clear h
            refine wp_region_quiet_below (by kernel_rfl) (by kernel_rfl) ?_
            repeat (go_big_quiet_step (with_reducible exact c0 _ _))
            refine wpQuiet_nil ?_
            intro _ hw'
            obtain ⟨⟨dq, osq⟩, hw''⟩ := hw'
            subst hw''
            have hbq := below_regrown w3 dq osq
            go_wp2_with fail
            go_meet
            case rel => exact ⟨rfl, hB3.trans (hbq.mono hB3.size)⟩
        · have i1 : (n : Int) < (es.length : Int) := by omega
          have i2 : ¬ (n : Int) < (fs.length : Int) := by omega
          have d1 : decide ((n : Int) < (es.length : Int)) = true := decide_eq_true i1
          have d2 : decide ((n : Int) < (fs.length : Int)) = false := decide_eq_false i2
          have d3 : decide (n < fs.length) = false := decide_eq_false hlt'
          clear P3 P4 HNE HCA HCB C2
          go_quiet (fail)
          go_wp2_with fail
          go_meet
          case rel => exact ⟨rfl, below_drewN hB3 _⟩
      · have i1 : ¬ (n : Int) < (es.length : Int) := by omega
        have d1 : decide ((n : Int) < (es.length : Int)) = false := decide_eq_false i1
        have d3 : decide (n < es.length) = false := decide_eq_false hlt
        clear P3 P4 HNE HCA HCB C2
        go_quiet (fail)
        go_wp2_with fail
        go_meet
        case rel => exact ⟨rfl, below_drewN hB3 _⟩
    case rest =>
    obtain ⟨rfl, hB4⟩ := hcut
    clear HCA HCB HNE P4
    go_wp2_with fail
    refine (C2.out wc hB4).mono ?_
    rintro e w5 ⟨rfl, hb5⟩
    have hB5 := hB4.trans (hb5.mono hB4.size)
    go_wp2_with fail
    refine (P3.out w5 hB5).mono ?_
    rintro e w6 ⟨rfl, hb6⟩
    have hB6 := hB5.trans (hb6.mono hB5.size)
    obtain ⟨x, hx⟩ : ∃ x : Bool, Hid (decide (n = es.length) = x) := ⟨_, Lib.hid rfl⟩
    rw [hx.out]
    have tx : ((n : Int) == (es.length : Int)) = x := by rw [← hx.out, Bool.eq_iff_iff]; simp; omega
    have tx' : (n == es.length) = x := by rw [← hx.out, Bool.eq_iff_iff]; simp
    go_wp2_with fail
    refine (lsWorks_any w6).mono ?_
    rintro e w7 ⟨rfl, hb7⟩
    go_wp2_with fail
    go_ret
    exact ⟨rfl, hB6.trans (hb7.mono hB6.size)⟩
end Go.Proofs.Ytffjijgmjbhhoaa.listsCommonW
