/-
  May of the document's orders.
-/
import Derived.Test.YtkdnhfeamibmdaaDoorOCheck
import Derived.Test.YtkdnhfeamibmdaaDoorRGet
namespace Go.Proofs.YtkdnhfeamibmdaaDoor
open Go.RowKit Go.Sort
theorem omark_len {n : Int} (h0 : -9223372036854775808 ≤ n) (h1 : n ≤ 9223372036854775807) : 1 ≤ (mark n).length ∧ (mark n).length ≤ 10 :=
  ⟨Lib.uvarint_pos _, Lib.uvarint_length64 (Lib.zigzag_lt h0 h1)⟩
theorem str_mk (l m : List UInt8) : (⟨l.toArray⟩ ++ ⟨m.toArray⟩ : ByteArray) = ⟨(l ++ m).toArray⟩ := by
  apply ByteArray.ext
  simp [ByteArray.data_append]
/-- A mark as a string, under a name, no longer than ten bytes. -/
theorem mark_name {n : Int} (h0 : -9223372036854775808 ≤ n) (h1 : n ≤ 9223372036854775807) : ∃ s : ByteArray, Hid (s = ⟨(mark n).toArray⟩) ∧ s.size ≤ 10 :=
  ⟨⟨(mark n).toArray⟩, Lib.hid rfl, by show (mark n).toArray.size ≤ 10; rw [List.size_toArray]; exact (omark_len h0 h1).2⟩
set_option maxRecDepth 100000 in
set_option maxHeartbeats 4000000 in
theorem rmay_any (o : Od) (w : World) : Calls Tryd.prog 73 #[o.v] w (NumPost (.bool o.may) w) := by
  have HM : Hid (o.may = decide (1 ≤ o.id ∧ o.id ≤ 2147483647 ∧ 0 ≤ o.st ∧ o.st ≤ 3 ∧ -1 ≤ o.ex ∧ o.ex ≤ 2147483647 ∧ 1 ≤ o.ki ∧ o.ki ≤ 4 ∧ -1048576 ≤ o.ar ∧ o.ar ≤ 1048576)) := rfl
  generalize o.may = my at *
  obtain ⟨a, b, c, d, f⟩ := o
  simp only [Od.v] at HM ⊢
  by_cases t00 : ¬ (1 ≤ a)
  · have u : decide (1 ≤ a) = false := decide_eq_false t00
    go_enter Tryd.func73, Tryd.ntmps73
    go_wp2_with fail
    go_ret
    exact ⟨ret_bool (by rw [HM.out]; simp; omega), (Below.refl _ _).alloc (Nat.le_refl _) _⟩
  have t00b : decide (1 ≤ a) = true := decide_eq_true (Decidable.not_not.1 t00)
  by_cases t01 : ¬ (a ≤ 2147483647)
  · have u : decide (a ≤ 2147483647) = false := decide_eq_false t01
    go_enter Tryd.func73, Tryd.ntmps73
    go_wp2_with fail
    go_ret
    exact ⟨ret_bool (by rw [HM.out]; simp; omega), (Below.refl _ _).alloc (Nat.le_refl _) _⟩
  have t01b : decide (a ≤ 2147483647) = true := decide_eq_true (Decidable.not_not.1 t01)
  by_cases t10 : ¬ (0 ≤ b)
  · have u : decide (0 ≤ b) = false := decide_eq_false t10
    go_enter Tryd.func73, Tryd.ntmps73
    go_wp2_with fail
    go_ret
    exact ⟨ret_bool (by rw [HM.out]; simp; omega), (Below.refl _ _).alloc (Nat.le_refl _) _⟩
  have t10b : decide (0 ≤ b) = true := decide_eq_true (Decidable.not_not.1 t10)
  by_cases t11 : ¬ (b < 4)
  · have u : decide (b < 4) = false := decide_eq_false t11
    go_enter Tryd.func73, Tryd.ntmps73
    go_wp2_with fail
    go_ret
    exact ⟨ret_bool (by rw [HM.out]; simp; omega), (Below.refl _ _).alloc (Nat.le_refl _) _⟩
  have t11b : decide (b < 4) = true := decide_eq_true (Decidable.not_not.1 t11)
  by_cases t20 : ¬ ((-1) ≤ c)
  · have u : decide ((-1) ≤ c) = false := decide_eq_false t20
    go_enter Tryd.func73, Tryd.ntmps73
    go_wp2_with fail
    go_ret
    exact ⟨ret_bool (by rw [HM.out]; simp; omega), (Below.refl _ _).alloc (Nat.le_refl _) _⟩
  have t20b : decide ((-1) ≤ c) = true := decide_eq_true (Decidable.not_not.1 t20)
  by_cases t21 : ¬ (c ≤ 2147483647)
  · have u : decide (c ≤ 2147483647) = false := decide_eq_false t21
    go_enter Tryd.func73, Tryd.ntmps73
    go_wp2_with fail
    go_ret
    exact ⟨ret_bool (by rw [HM.out]; simp; omega), (Below.refl _ _).alloc (Nat.le_refl _) _⟩
  have t21b : decide (c ≤ 2147483647) = true := decide_eq_true (Decidable.not_not.1 t21)
  by_cases t30 : ¬ (1 ≤ d)
  · have u : decide (1 ≤ d) = false := decide_eq_false t30
    go_enter Tryd.func73, Tryd.ntmps73
    go_wp2_with fail
    go_ret
    exact ⟨ret_bool (by rw [HM.out]; simp; omega), (Below.refl _ _).alloc (Nat.le_refl _) _⟩
  have t30b : decide (1 ≤ d) = true := decide_eq_true (Decidable.not_not.1 t30)
  by_cases t31 : ¬ (d ≤ 4)
  · have u : decide (d ≤ 4) = false := decide_eq_false t31
    go_enter Tryd.func73, Tryd.ntmps73
    go_wp2_with fail
    go_ret
    exact ⟨ret_bool (by rw [HM.out]; simp; omega), (Below.refl _ _).alloc (Nat.le_refl _) _⟩
  have t31b : decide (d ≤ 4) = true := decide_eq_true (Decidable.not_not.1 t31)
  by_cases t40 : ¬ ((-1048576) ≤ f)
  · have u : decide ((-1048576) ≤ f) = false := decide_eq_false t40
    go_enter Tryd.func73, Tryd.ntmps73
    go_wp2_with fail
    go_ret
    exact ⟨ret_bool (by rw [HM.out]; simp; omega), (Below.refl _ _).alloc (Nat.le_refl _) _⟩
  have t40b : decide ((-1048576) ≤ f) = true := decide_eq_true (Decidable.not_not.1 t40)
  by_cases t41 : ¬ (f ≤ 1048576)
  · have u : decide (f ≤ 1048576) = false := decide_eq_false t41
    go_enter Tryd.func73, Tryd.ntmps73
    go_wp2_with fail
    go_ret
    exact ⟨ret_bool (by rw [HM.out]; simp; omega), (Below.refl _ _).alloc (Nat.le_refl _) _⟩
  have t41b : decide (f ≤ 1048576) = true := decide_eq_true (Decidable.not_not.1 t41)
  go_enter Tryd.func73, Tryd.ntmps73
  go_wp2_with fail
  go_ret
  exact ⟨ret_bool (by rw [HM.out]; simp; omega), (Below.refl _ _).alloc (Nat.le_refl _) _⟩
theorem Od.ints_at {o : Od} (h : o.ints) : (-9223372036854775808 ≤ o.id ∧ o.id ≤ 9223372036854775807) ∧ (-9223372036854775808 ≤ o.st ∧ o.st ≤ 9223372036854775807) ∧ (-9223372036854775808 ≤ o.ex ∧ o.ex ≤ 9223372036854775807) ∧ (-9223372036854775808 ≤ o.ki ∧ o.ki ≤ 9223372036854775807) ∧ (-9223372036854775808 ≤ o.ar ∧ o.ar ≤ 9223372036854775807) :=
  ⟨h _ (by simp [Od.l]), h _ (by simp [Od.l]), h _ (by simp [Od.l]), h _ (by simp [Od.l]), h _ (by simp [Od.l])⟩
end Go.Proofs.YtkdnhfeamibmdaaDoor
