/-
  May of the document's orders.
-/
import Derived.Test.YtnbhdehpdfojlaaDoorRgCheck
namespace Go.Proofs.YtnbhdehpdfojlaaDoor
open Go.RowKit
set_option maxRecDepth 100000 in
set_option maxHeartbeats 4000000 in
theorem rmay_any (o : Od) (w : World) : Calls Tryd.prog 31 #[o.v] w (NumPost (.bool o.may) w) := by
  have HM : Hid (o.may = decide (1 ≤ o.id ∧ o.id ≤ 2147483647 ∧ 0 ≤ o.st ∧ o.st ≤ 3 ∧ -1 ≤ o.ex ∧ o.ex ≤ 2147483647 ∧ 1 ≤ o.ki ∧ o.ki ≤ 4 ∧ -1048576 ≤ o.ar ∧ o.ar ≤ 1048576)) := rfl
  generalize o.may = my at *
  obtain ⟨a, b, c, d, f⟩ := o
  simp only [Od.v] at HM ⊢
  by_cases t00 : ¬ (1 ≤ a)
  · have u : decide (1 ≤ a) = false := decide_eq_false t00
    go_enter Tryd.func31, Tryd.ntmps31
    go_wp2_with fail
    go_ret
    exact ⟨ret_bool (by rw [HM.out]; simp; omega), (Below.refl _ _).alloc (Nat.le_refl _) _⟩
  have t00b : decide (1 ≤ a) = true := decide_eq_true (Decidable.not_not.1 t00)
  by_cases t01 : ¬ (a ≤ 2147483647)
  · have u : decide (a ≤ 2147483647) = false := decide_eq_false t01
    go_enter Tryd.func31, Tryd.ntmps31
    go_wp2_with fail
    go_ret
    exact ⟨ret_bool (by rw [HM.out]; simp; omega), (Below.refl _ _).alloc (Nat.le_refl _) _⟩
  have t01b : decide (a ≤ 2147483647) = true := decide_eq_true (Decidable.not_not.1 t01)
  by_cases t10 : ¬ (0 ≤ b)
  · have u : decide (0 ≤ b) = false := decide_eq_false t10
    go_enter Tryd.func31, Tryd.ntmps31
    go_wp2_with fail
    go_ret
    exact ⟨ret_bool (by rw [HM.out]; simp; omega), (Below.refl _ _).alloc (Nat.le_refl _) _⟩
  have t10b : decide (0 ≤ b) = true := decide_eq_true (Decidable.not_not.1 t10)
  by_cases t11 : ¬ (b < 4)
  · have u : decide (b < 4) = false := decide_eq_false t11
    go_enter Tryd.func31, Tryd.ntmps31
    go_wp2_with fail
    go_ret
    exact ⟨ret_bool (by rw [HM.out]; simp; omega), (Below.refl _ _).alloc (Nat.le_refl _) _⟩
  have t11b : decide (b < 4) = true := decide_eq_true (Decidable.not_not.1 t11)
  by_cases t20 : ¬ ((-1) ≤ c)
  · have u : decide ((-1) ≤ c) = false := decide_eq_false t20
    go_enter Tryd.func31, Tryd.ntmps31
    go_wp2_with fail
    go_ret
    exact ⟨ret_bool (by rw [HM.out]; simp; omega), (Below.refl _ _).alloc (Nat.le_refl _) _⟩
  have t20b : decide ((-1) ≤ c) = true := decide_eq_true (Decidable.not_not.1 t20)
  by_cases t21 : ¬ (c ≤ 2147483647)
  · have u : decide (c ≤ 2147483647) = false := decide_eq_false t21
    go_enter Tryd.func31, Tryd.ntmps31
    go_wp2_with fail
    go_ret
    exact ⟨ret_bool (by rw [HM.out]; simp; omega), (Below.refl _ _).alloc (Nat.le_refl _) _⟩
  have t21b : decide (c ≤ 2147483647) = true := decide_eq_true (Decidable.not_not.1 t21)
  by_cases t30 : ¬ (1 ≤ d)
  · have u : decide (1 ≤ d) = false := decide_eq_false t30
    go_enter Tryd.func31, Tryd.ntmps31
    go_wp2_with fail
    go_ret
    exact ⟨ret_bool (by rw [HM.out]; simp; omega), (Below.refl _ _).alloc (Nat.le_refl _) _⟩
  have t30b : decide (1 ≤ d) = true := decide_eq_true (Decidable.not_not.1 t30)
  by_cases t31 : ¬ (d ≤ 4)
  · have u : decide (d ≤ 4) = false := decide_eq_false t31
    go_enter Tryd.func31, Tryd.ntmps31
    go_wp2_with fail
    go_ret
    exact ⟨ret_bool (by rw [HM.out]; simp; omega), (Below.refl _ _).alloc (Nat.le_refl _) _⟩
  have t31b : decide (d ≤ 4) = true := decide_eq_true (Decidable.not_not.1 t31)
  by_cases t40 : ¬ ((-1048576) ≤ f)
  · have u : decide ((-1048576) ≤ f) = false := decide_eq_false t40
    go_enter Tryd.func31, Tryd.ntmps31
    go_wp2_with fail
    go_ret
    exact ⟨ret_bool (by rw [HM.out]; simp; omega), (Below.refl _ _).alloc (Nat.le_refl _) _⟩
  have t40b : decide ((-1048576) ≤ f) = true := decide_eq_true (Decidable.not_not.1 t40)
  by_cases t41 : ¬ (f ≤ 1048576)
  · have u : decide (f ≤ 1048576) = false := decide_eq_false t41
    go_enter Tryd.func31, Tryd.ntmps31
    go_wp2_with fail
    go_ret
    exact ⟨ret_bool (by rw [HM.out]; simp; omega), (Below.refl _ _).alloc (Nat.le_refl _) _⟩
  have t41b : decide (f ≤ 1048576) = true := decide_eq_true (Decidable.not_not.1 t41)
  go_enter Tryd.func31, Tryd.ntmps31
  go_wp2_with fail
  go_ret
  exact ⟨ret_bool (by rw [HM.out]; simp; omega), (Below.refl _ _).alloc (Nat.le_refl _) _⟩
theorem Od.ints_at {o : Od} (h : o.ints) : (-9223372036854775808 ≤ o.id ∧ o.id ≤ 9223372036854775807) ∧ (-9223372036854775808 ≤ o.st ∧ o.st ≤ 9223372036854775807) ∧ (-9223372036854775808 ≤ o.ex ∧ o.ex ≤ 9223372036854775807) ∧ (-9223372036854775808 ≤ o.ki ∧ o.ki ≤ 9223372036854775807) ∧ (-9223372036854775808 ≤ o.ar ∧ o.ar ≤ 9223372036854775807) :=
  ⟨h _ (by simp [Od.l]), h _ (by simp [Od.l]), h _ (by simp [Od.l]), h _ (by simp [Od.l]), h _ (by simp [Od.l])⟩
set_option maxRecDepth 100000 in
set_option maxHeartbeats 1000000 in
theorem rcheck_any (o : Od) (w : World) : Calls Tryd.prog 27 #[o.v] w (NumPost (.int .i64 o.err) w) := by
  have G := fun X => rmay_any o X
  have HE := Lib.hid (show o.err = if o.may then 0 else 2 from rfl)
  generalize o.err = er at *
  generalize o.may = my at *
  obtain ⟨a, b, c, d, f⟩ := o
  simp only [Od.v] at G ⊢
  have HG := Lib.hid G
  clear G
  cases my
  all_goals
    go_enter Tryd.func27, Tryd.ntmps27
    go_wp2_with fail
    refine (HG.out _).mono ?_
    rintro e w1 ⟨rfl, hb1⟩
    have hb2 : Below w.heap.size w w1 := ((Below.refl _ _).alloc (Nat.le_refl _) _).trans (hb1.mono (by simp))
    go_wp2_with fail
    go_ret
    exact ⟨by rw [HE.out]; rfl, hb2⟩
end Go.Proofs.YtnbhdehpdfojlaaDoor
