/-
  The walk of the law ListsFirst: it returns true and writes nothing that was there.
-/
import Derived.Test.YtffjijgmjbhhoaaLsWorks
namespace Go.Proofs.Ytffjijgmjbhhoaa.listsFirstW
open Go.RowKit Go.Sort
set_option maxRecDepth 100000 in
set_option maxHeartbeats 8000000 in
theorem walk (A : Option Addr) (c : Nat) (rs : List Rg) (w : World) (ha : RgsB w.heap.size w (.slice A rs.length c) rs) : Calls Try.prog 9 #[.slice A rs.length c] w (fun e w' => e = .returned (.bool true) ∧ Below w.heap.size w w') := by
  by_cases hn : 200 < rs.length
  · have t2 : (200 : Int) < (rs.length : Int) := by omega
    clear ha
    generalize rs.length = n at *
    go_enter Try.func9, Try.ntmps9
    go_wp2_with fail
    go_ret
    exact ⟨rfl, Below.refl _ _⟩
  · have t2 : ¬ (200 : Int) < (rs.length : Int) := by omega
    have H1 := Lib.hid (best_any ha (Nat.le_refl _))
    by_cases h0 : rs.length = 0
    · have hr : bestR rs = -1 := by unfold bestR; rw [if_pos h0]
      rw [hr] at H1
      have t1 : ((rs.length : Int) == 0) = true := by rw [h0]; rfl
      have t3 : (rs.length == 0) = true := by rw [h0]; rfl
      replace h0 := Lib.hid h0
      clear hr ha
      go_enter Try.func9, Try.ntmps9
      go_wp2_with fail
      refine (H1.out).mono ?_
      rintro e w1 ⟨rfl, hb1⟩
      go_wp2_with fail
      refine (lsWorks_any w1).mono ?_
      rintro e w2 ⟨rfl, hb2⟩
      go_wp2_with fail
      go_ret
      exact ⟨rfl, hb1.trans (hb2.mono hb1.size)⟩
    · have hpos : 0 < rs.length := by omega
      have t1 : ((rs.length : Int) == 0) = false := beq_eq_false_iff_ne.2 (by omega)
      have t3 : (rs.length == 0) = false := beq_eq_false_iff_ne.2 h0
      obtain ⟨m, hm⟩ : ∃ m, Hid (bestUp rs rs.length = m) := ⟨_, Lib.hid rfl⟩
      have hr : bestR rs = (m : Int) := by unfold bestR; rw [if_neg h0, hm.out]
      rw [hr] at H1
      have hml : m < rs.length := by rw [← hm.out]; exact best_lt rs _ hpos
      have HIS : Hid (∀ i, i < rs.length → better (rs.getD i rg0) (rs.getD m rg0) = false ∧ (i < m → better (rs.getD m rg0) (rs.getD i rg0) = true)) := Lib.hid fun i hi => by
        have h := best_is rs rs.length i hi
        rwa [hm.out] at h
      have HCA := Lib.hid (fun X (hX : Below w.heap.size w X) => RgsB.cells (RgsB.below ha hX (Nat.le_refl _)) hpos)
      have z0 : ¬ (m : Int) < 0 := by omega
      have z1 : ¬ (rs.length : Int) ≤ (m : Int) := by omega
      have z2 : ¬ rs.length ≤ m := by omega
      clear hr ha h0 hm
      go_enter Try.func9, Try.ntmps9
      go_wp2_with fail
      refine (H1.out).mono ?_
      rintro e w1 ⟨rfl, hb1⟩
      go_wp2_with fail
      go_loopw [2, 4] (fun r i wr => ∃ k : Nat, k ≤ rs.length ∧ r = .bool false ∧ i = .int .i64 k ∧ Below w.heap.size w wr) (fun _ i _ => rs.length - (intOf i).toNat)
      case atStart => exact ⟨0, Nat.zero_le _, rfl, rfl, hb1⟩
      case round =>
        obtain ⟨k, hk, rfl, rfl, hst⟩ := hrel
        by_cases hlt : k < rs.length
        · obtain ⟨b1, o1, c1, hv1, _, hx⟩ := HCA.out wr hst
          injection hv1 with e1 _ e3
          subst e1 e3
          obtain ⟨-, x1, x2, -⟩ := hx k hlt
          obtain ⟨-, y1, y2, -⟩ := hx m hml
          obtain ⟨i1, i2⟩ := HIS.out k hlt
          have hii : (k : Int) < (rs.length : Int) := by omega
          have hjj : (m : Int) < (rs.length : Int) := by omega
          clear HCA HIS hx
          generalize rs.getD k rg0 = x at *
          generalize rs.getD m rg0 = y at *
          obtain ⟨xp, xv, xA, xn, xc, xm⟩ := x
          obtain ⟨yp, yv, yA, yn, yc, ym⟩ := y
          dsimp only at x1 x2 y1 y2
          simp only [better, decide_eq_false_iff_not, decide_eq_true_eq] at i1 i2
          have p1 : decide (yv < xv) = false := decide_eq_false (by omega)
          by_cases c2 : xv = yv
          · subst c2
            have p2 : decide (yn < xn) = false := decide_eq_false (by omega)
            have p3 : decide ((yn : Int) < (xn : Int)) = false := decide_eq_false (by omega)
            by_cases c3 : xn = yn
            · subst c3
              have p4 : decide (k < m) = false := decide_eq_false (by omega)
              have p5 : decide ((k : Int) < (m : Int)) = false := decide_eq_false (by omega)
              have q1 : decide (xv < xv) = false := decide_eq_false (by omega)
              have q2 : decide (xn < xn) = false := decide_eq_false (by omega)
              clear i1 i2
              go_wp2_with fail
              go_quiet (fail)
              go_wp2_with fail
              go_quiet (fail)
              go_wp2_with fail
              go_roundw
              case rel => exact ⟨k + 1, by omega, rfl, by go_num, below_drewN hst _⟩
              case measure => simp [intOf]; omega
            · have p4 : ((xn : Int) == (yn : Int)) = false := beq_eq_false_iff_ne.2 (by omega)
              have p5 : (xn == yn) = false := beq_eq_false_iff_ne.2 c3
              clear i1 i2 c3
              go_wp2_with fail
              go_quiet (fail)
              go_wp2_with fail
              go_quiet (fail)
              go_wp2_with fail
              go_roundw
              case rel => exact ⟨k + 1, by omega, rfl, by go_num, below_drewN hst _⟩
              case measure => simp [intOf]; omega
          · have p4 : (xv == yv) = false := beq_eq_false_iff_ne.2 c2
            clear i1 i2 c2
            go_wp2_with fail
            go_quiet (fail)
            go_wp2_with fail
            go_quiet (fail)
            go_wp2_with fail
            go_roundw
            case rel => exact ⟨k + 1, by omega, rfl, by go_num, below_drewN hst _⟩
            case measure => simp [intOf]; omega
        · clear HCA HIS
          go_wp2_with fail
          refine (lsWorks_any wr).mono ?_
          rintro e w2 ⟨rfl, hb2⟩
          go_wp2_with fail
          go_ret
          exact ⟨rfl, hst.trans (hb2.mono hst.size)⟩
end Go.Proofs.Ytffjijgmjbhhoaa.listsFirstW
