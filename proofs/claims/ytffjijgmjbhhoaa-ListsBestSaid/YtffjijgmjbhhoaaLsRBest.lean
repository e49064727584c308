/-
  Best of the document.
-/
import Derived.Test.YtffjijgmjbhhoaaLsBest
namespace Go.Proofs.Ytffjijgmjbhhoaa
open Go.RowKit Go.Sort
set_option maxRecDepth 100000 in
set_option maxHeartbeats 2000000 in
theorem rbest_any {va : Value} {B : Nat} {rs : List Rg} {w : World} (ha : RgsB B w va rs) : Calls Try.prog 19 #[va] w (NumPost (.int .i64 (bestR rs)) w) := by
  have HCA := Lib.hid (fun (h0 : 0 < rs.length) => RgsB.cells ha h0)
  obtain ⟨A, ca, rfl, h1, h2, -⟩ := ha.len
  have hl : rs.length ≤ maxLen := by omega
  unfold maxLen at hl
  clear ha h2
  go_enter Try.func19, Try.ntmps19
  go_wp2
  go_loopw [3, 4] (fun q i wr => ∃ (k : Nat) (z : Int), k ≤ rs.length ∧ i = .int .i64 k ∧ q = .int .i64 z ∧ Hid ((k = 0 ∧ z = -1) ∨ ∃ m : Nat, 0 < k ∧ z = (m : Int) ∧ m = bestUp rs k ∧ m < rs.length) ∧ Still w wr) (fun _ i _ => rs.length - (intOf i).toNat)
  case atStart => exact ⟨0, -1, Nat.zero_le _, rfl, rfl, Lib.hid (.inl ⟨rfl, rfl⟩), Still.refl _⟩
  case round =>
    obtain ⟨k, z, hk, rfl, rfl, hz, hst⟩ := hrel
    by_cases hlt : k < rs.length
    · have hpos : 0 < rs.length := by omega
      have hii : (k : Int) < (rs.length : Int) := by omega
      rcases hz.out with ⟨h0, rfl⟩ | ⟨m, h0, rfl, hm, hmr⟩
      · have hb1 : Hid (bestUp rs (k + 1) = 0) := Lib.hid (by subst h0; exact Nat.lt_one_iff.1 (best_lt rs 1 (by omega)))
        have hk0 : k = 0 := h0
        clear HCA hz h0
        subst hk0
        have t1 : decide ((-1 : Int) < 0) = true := rfl
        go_wp2_with fail
        go_quiet (fail)
        go_wp2_with fail
        go_roundw
        case rel => exact ⟨1, 0, by omega, by go_num, rfl, Lib.hid (.inr ⟨0, by omega, rfl, hb1.out.symm, hpos⟩), hst.drewN _⟩
        case measure => simp [intOf]; omega
      · obtain ⟨b1, o1, c1, hv1, _, hx⟩ := HCA.out hpos
        injection hv1 with e1 _ e3
        subst e1 e3
        obtain ⟨-, x1, x2, -⟩ := hx k hlt
        obtain ⟨-, y1, y2, -⟩ := hx m hmr
        have x1 := (hst.cell ⟨b1, o1 + k * 4 + 1, none⟩).trans x1
        have x2 := (hst.cell ⟨b1, o1 + k * 4 + 2, none⟩).trans x2
        have y1 := (hst.cell ⟨b1, o1 + m * 4 + 1, none⟩).trans y1
        have y2 := (hst.cell ⟨b1, o1 + m * 4 + 2, none⟩).trans y2
        have hjj : (m : Int) < (rs.length : Int) := by omega
        have HS0 : Hid (bestUp rs (k + 1) = if better (rs.getD k rg0) (rs.getD m rg0) = true then k else m) := Lib.hid (by rw [bestUp, ← hm])
        have tm : decide ((m : Int) < 0) = false := decide_eq_false (by omega)
        have tm2 : ¬ (m : Int) < 0 := by omega
        clear HCA hm hx hz
        generalize rs.getD k rg0 = x at *
        generalize rs.getD m rg0 = y at *
        obtain ⟨xp, xv, xA, xn, xc, xm⟩ := x
        obtain ⟨yp, yv, yA, yn, yc, ym⟩ := y
        dsimp only at x1 x2 y1 y2
        by_cases c1 : yv < xv
        · have HS : Hid (bestUp rs (k + 1) = k) := Lib.hid (by rw [HS0.out, if_pos (by simp [better, c1])])
          have t1 : decide (yv < xv) = true := decide_eq_true c1
          clear HS0
          go_wp2_with fail
          go_quiet (fail)
          go_wp2_with fail
          go_roundw
          case rel => exact ⟨k + 1, (k : Int), by omega, by go_num, rfl, Lib.hid (.inr ⟨k, by omega, rfl, HS.out.symm, hlt⟩), hst.drewN _⟩
          case measure => simp [intOf]; omega
        · have t1 : decide (yv < xv) = false := decide_eq_false c1
          by_cases c2 : xv = yv
          · subst c2
            by_cases c3 : yn < xn
            · have HS : Hid (bestUp rs (k + 1) = k) := Lib.hid (by rw [HS0.out, if_pos (by simp [better, c3])])
              have t2 : decide (yn < xn) = true := decide_eq_true c3
              have t3 : (yn : Int) < (xn : Int) := by omega
              clear HS0
              go_wp2_with fail
              go_quiet (fail)
              go_wp2_with fail
              go_roundw
              case rel => exact ⟨k + 1, (k : Int), by omega, by go_num, rfl, Lib.hid (.inr ⟨k, by omega, rfl, HS.out.symm, hlt⟩), hst.drewN _⟩
              case measure => simp [intOf]; omega
            · have HS : Hid (bestUp rs (k + 1) = m) := Lib.hid (by rw [HS0.out, if_neg (by simp [better]; omega)])
              have t2 : decide (yn < xn) = false := decide_eq_false c3
              have t3 : ¬ (yn : Int) < (xn : Int) := by omega
              clear HS0
              go_wp2_with fail
              go_quiet (fail)
              go_wp2_with fail
              go_roundw
              case rel => exact ⟨k + 1, (m : Int), by omega, by go_num, rfl, Lib.hid (.inr ⟨m, by omega, rfl, HS.out.symm, hmr⟩), hst.drewN _⟩
              case measure => simp [intOf]; omega
          · have HS : Hid (bestUp rs (k + 1) = m) := Lib.hid (by rw [HS0.out, if_neg (by simp [better]; omega)])
            have t2 : (xv == yv) = false := beq_eq_false_iff_ne.2 c2
            clear HS0 c2
            go_wp2_with fail
            go_quiet (fail)
            go_wp2_with fail
            go_roundw
            case rel => exact ⟨k + 1, (m : Int), by omega, by go_num, rfl, Lib.hid (.inr ⟨m, by omega, rfl, HS.out.symm, hmr⟩), hst.drewN _⟩
            case measure => simp [intOf]; omega
    · have hke : k = rs.length := by omega
      have HM : Hid (bestR rs = z) := Lib.hid (by
        unfold bestR
        rcases hz.out with ⟨h0, rfl⟩ | ⟨m, h0, rfl, hm, hmr⟩
        · rw [if_pos (by omega)]
        · rw [if_neg (by omega), hm, hke])
      clear hz HCA hke
      have hii : ¬ (k : Int) < (rs.length : Int) := by omega
      go_wp2_with fail
      go_ret
      exact ⟨by rw [HM.out]; rfl, hst _⟩
end Go.Proofs.Ytffjijgmjbhhoaa
