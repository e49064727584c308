/-
  Rising of package lists, and of the document.
-/
import Derived.Test.YtnbhdehpdfojlaaDoorLsMath
namespace Go.Proofs.YtnbhdehpdfojlaaDoor
open Go.RowKit
set_option maxRecDepth 100000 in
set_option maxHeartbeats 1000000 in
theorem rising_any {v : Value} {B : Nat} {es : List En} {w : World} (ha : EsB B w v es) : Calls Tryd.prog 28 #[v] w (NumPost (.bool (risB es)) w) := by
  have HCA := Lib.hid (fun k hk => EsB.cells ha (k := k) hk)
  obtain ⟨A, ca, rfl, h1, h2, -⟩ := ha.len
  have hl : es.length ≤ maxLen := by omega
  unfold maxLen at hl
  clear ha h2
  go_enter Tryd.func28, Tryd.ntmps28
  go_wp2
  go_loopw [2, 3] (fun r i wr => ∃ k : Nat, 1 ≤ k ∧ (k ≤ es.length ∨ k = 1) ∧ r = .bool false ∧ i = .int .i64 k ∧ Hid (∀ j, j + 1 < k → epA es j ≤ epA es (j + 1)) ∧ Still w wr) (fun _ i _ => es.length - (intOf i).toNat)
  case atStart => exact ⟨1, Nat.le_refl _, .inr rfl, rfl, rfl, Lib.hid fun j hj => by omega, Still.refl _⟩
  case round =>
    obtain ⟨k, hk1, hk, rfl, rfl, hup, hst⟩ := hrel
    by_cases hlt : k < es.length
    · obtain ⟨b1, o1, c1, hv1, _, x0, -⟩ := HCA.out k hlt
      obtain ⟨b2, o2, c2, hv2, _, y0, -⟩ := HCA.out (k - 1) (by omega)
      injection hv1 with e1 _ e3
      injection hv2 with e2 _ e4
      subst e1 e3
      injection e2 with e2
      injection e2 with e2 e5
      subst e2 e5
      clear e4
      obtain ⟨j, hj⟩ : ∃ j, Hid (j + 1 = k) := ⟨k - 1, Lib.hid (by omega)⟩
      have hj1 : k - 1 = j := by have := hj.out; omega
      have x0 := (hst.cell ⟨b1, o1 + k * 6, none⟩).trans x0
      have y0 := (hst.cell ⟨b1, o1 + (k - 1) * 6, none⟩).trans y0
      have hx : es[k].ep = epA es k := (epA_at hlt).symm
      have hy : es[k - 1].ep = epA es j := by rw [← epA_at (by omega : k - 1 < es.length), hj1]
      rw [hx] at x0
      rw [hy, hj1] at y0
      have hii : (k : Int) < (es.length : Int) := by omega
      have hjj : (j : Int) < (es.length : Int) := by have := hj.out; omega
      have hjn : j < es.length := by have := hj.out; omega
      have hk0 : (k : Int) - 1 = (j : Int) := by have := hj.out; omega
      clear HCA hx hy hj1 hk
      have HN : Hid (¬ epA es k < epA es j → ∀ i, i + 1 < k + 1 → epA es i ≤ epA es (i + 1)) := Lib.hid fun h i hi => by
        by_cases hik : i + 1 < k
        · exact hup.out i hik
        · have e1 : i = j := by have := hj.out; omega
          have e2 : i + 1 = k := by have := hj.out; omega
          rw [e2, e1]; omega
      have HF : Hid (epA es k < epA es j → risB es = false) := Lib.hid fun h => by
        have e := hj.out
        subst e
        exact risB_no hlt h
      clear hup
      generalize epA es k = p at *
      generalize epA es j = q at *
      by_cases he : p < q
      · have t1 : decide (p < q) = true := decide_eq_true he
        have hf := HF.out he
        rw [hf]
        clear HF HN hf
        go_wp2_with fail
        go_quiet (fail)
        go_wp2_with fail
        go_ret
        exact ⟨rfl, hst.drewN _ _⟩
      · have t1 : decide (p < q) = false := decide_eq_false he
        have hn := Lib.hid (HN.out he)
        clear HF HN
        go_wp2_with fail
        go_quiet (fail)
        go_wp2_with fail
        go_roundw
        case rel => exact ⟨k + 1, by omega, .inl (by omega), rfl, by go_num, hn, hst.drewN _⟩
        case measure => simp [intOf]; omega
    · have hr : Hid (risB es = true) := Lib.hid (by
        simp only [risB, decide_eq_true_eq]
        intro i hi
        exact hup.out i (by omega))
      clear hup HCA
      have hii : ¬ (k : Int) < (es.length : Int) := by omega
      go_wp2_with fail
      go_ret
      exact ⟨ret_bool hr.out.symm, hst _⟩
end Go.Proofs.YtnbhdehpdfojlaaDoor
