/-
  Check of package register, and of the document: whether a register may be.
-/
import Derived.Test.YtnbhdehpdfojlaaDoorRgRLog
namespace Go.Proofs.YtnbhdehpdfojlaaDoor
open Go.RowKit
theorem box4 {X : World} {g : Nat} {a b c d : Value} {t : TypeId} {z : Nat × Nat} (h : X.heap[g]? = some (.cells #[a, b, c, d] t z)) : X.cell? ⟨g, 0, none⟩ = some a ∧ X.cell? ⟨g, 1, none⟩ = some b ∧ X.cell? ⟨g, 2, none⟩ = some c ∧ X.cell? ⟨g, 3, none⟩ = some d := by
  refine ⟨?_, ?_, ?_, ?_⟩ <;> (rw [Lib.cell_of_heap h]; rfl)
theorem may_no {p v m : Int} {es : List En} (h : ¬ 0 ≤ v ∨ ¬ v ≤ p ∨ ¬ p ≤ 1048576 ∨ logB es v = false ∨ ¬ 0 ≤ m ∨ ¬ m ≤ es.length) : (Re.mk p v es m).may = false := by
  rw [← Bool.not_eq_true, Re.may_iff]
  intro hc
  dsimp only at hc
  rcases h with h | h | h | h | h | h
  · omega
  · omega
  · omega
  · rw [h] at hc; exact absurd hc.2.2.2.1 (by simp)
  · omega
  · omega
theorem may_yes {p v m : Int} {es : List En} (h1 : 0 ≤ v) (h2 : v ≤ p) (h3 : p ≤ 1048576) (h4 : logB es v = true) (h5 : 0 ≤ m) (h6 : m ≤ es.length) : (Re.mk p v es m).may = true := (Re.may_iff _).2 ⟨h1, h2, h3, h4, h5, h6⟩
set_option maxRecDepth 100000 in
set_option maxHeartbeats 2000000 in
theorem regCheck_any {A : Option Addr} {c : Nat} {es : List En} (p v m : Int) (w : World) (ha : EsB w.heap.size w (.slice A es.length c) es) (hA : Asked w) : Calls Tryd.prog 13 #[.agg #[.int .i64 p, .int .i64 v, .slice A es.length c, .int .i64 m]] w (NumPost (.bool (Re.mk p v es m).may) w) := by
  have HC := Lib.hid (fun X (hX : EsB X.heap.size X (.slice A es.length c) es) (hY : Asked X) => isLog_any v X hX hY)
  obtain ⟨A', c', hv, h1, h2, -⟩ := ha.len
  injection hv with e1 _ e3
  subst e1 e3
  have hl : es.length ≤ maxLen := by omega
  unfold maxLen at hl
  clear h2
  obtain ⟨w1, HX1⟩ : ∃ W : World, Hid (W = w.alloc (.cells #[.int .i64 p, .int .i64 v, .slice A es.length c, .int .i64 m] 24)) := ⟨_, Lib.hid rfl⟩
  have hb1 : Below w.heap.size w w1 := by rw [HX1.out]; exact below_new _ _
  have hh1 : w1.heap[w.heap.size]? = some (.cells #[.int .i64 p, .int .i64 v, .slice A es.length c, .int .i64 m] 24 (0, 0)) := by rw [HX1.out]; exact heap_alloc_new _ _
  replace HC := Lib.hid (HC.out w1 (keepE hb1 ha) (hA.keep hb1))
  clear ha hA
  obtain ⟨n0, n1, n2, n3⟩ := box4 hh1
  by_cases q0 : ¬ (0 ≤ v)
  · have t : decide ((0 : Int) ≤ v) = false := decide_eq_false q0
    rw [may_no (.inl q0)]
    clear HC q0
    go_enter Tryd.func13, Tryd.ntmps13
    go_wp2_with (rw [← HX1.out])
    go_ret
    exact ⟨rfl, hb1⟩
  have t0 : decide ((0 : Int) ≤ v) = true := decide_eq_true (Decidable.not_not.1 q0)
  by_cases q1 : ¬ (v ≤ p)
  · have t : decide (v ≤ p) = false := decide_eq_false q1
    rw [may_no (.inr (.inl q1))]
    clear HC q1
    go_enter Tryd.func13, Tryd.ntmps13
    go_wp2_with (rw [← HX1.out])
    go_ret
    exact ⟨rfl, hb1⟩
  have t1 : decide (v ≤ p) = true := decide_eq_true (Decidable.not_not.1 q1)
  by_cases q2 : ¬ (p ≤ 1048576)
  · have t : decide (p ≤ 1048576) = false := decide_eq_false q2
    rw [may_no (.inr (.inr (.inl q2)))]
    clear HC q2
    go_enter Tryd.func13, Tryd.ntmps13
    go_wp2_with (rw [← HX1.out])
    go_ret
    exact ⟨rfl, hb1⟩
  have t2 : decide (p ≤ 1048576) = true := decide_eq_true (Decidable.not_not.1 q2)
  cases q3 : logB es v with
  | false =>
    rw [q3] at HC
    rw [may_no (.inr (.inr (.inr (.inl q3))))]
    clear q0 q1 q2 q3
    go_enter Tryd.func13, Tryd.ntmps13
    go_wp2_with (rw [← HX1.out])
    refine (HC.out).mono ?_
    rintro e w2 ⟨rfl, hb2⟩
    go_wp2_with fail
    go_ret
    exact ⟨rfl, keepB hb1 hb2⟩
  | true =>
    rw [q3] at HC
    by_cases q4 : ¬ (0 ≤ m)
    · have t : decide ((0 : Int) ≤ m) = false := decide_eq_false q4
      rw [may_no (.inr (.inr (.inr (.inr (.inl q4)))))]
      clear q0 q1 q2 q3 q4
      go_enter Tryd.func13, Tryd.ntmps13
      go_wp2_with (rw [← HX1.out])
      refine (HC.out).mono ?_
      rintro e w2 ⟨rfl, hb2⟩
      clear n0 n1 n2 n3
      obtain ⟨n0, n1, n2, n3⟩ := box4 (keepH hb2 hh1)
      go_wp2_with fail
      go_ret
      exact ⟨rfl, keepB hb1 hb2⟩
    have t4 : decide ((0 : Int) ≤ m) = true := decide_eq_true (Decidable.not_not.1 q4)
    by_cases q5 : ¬ (m ≤ es.length)
    · have t : decide (m ≤ (es.length : Int)) = false := decide_eq_false q5
      rw [may_no (.inr (.inr (.inr (.inr (.inr q5)))))]
      clear q0 q1 q2 q3 q4 q5
      go_enter Tryd.func13, Tryd.ntmps13
      go_wp2_with (rw [← HX1.out])
      refine (HC.out).mono ?_
      rintro e w2 ⟨rfl, hb2⟩
      clear n0 n1 n2 n3
      obtain ⟨n0, n1, n2, n3⟩ := box4 (keepH hb2 hh1)
      go_wp2_with fail
      go_ret
      exact ⟨rfl, keepB hb1 hb2⟩
    have t5 : decide (m ≤ (es.length : Int)) = true := decide_eq_true (Decidable.not_not.1 q5)
    rw [may_yes (Decidable.not_not.1 q0) (Decidable.not_not.1 q1) (Decidable.not_not.1 q2) q3 (Decidable.not_not.1 q4) (Decidable.not_not.1 q5)]
    clear q0 q1 q2 q3 q4 q5
    go_enter Tryd.func13, Tryd.ntmps13
    go_wp2_with (rw [← HX1.out])
    refine (HC.out).mono ?_
    rintro e w2 ⟨rfl, hb2⟩
    clear n0 n1 n2 n3
    obtain ⟨n0, n1, n2, n3⟩ := box4 (keepH hb2 hh1)
    go_wp2_with fail
    go_ret
    exact ⟨rfl, keepB hb1 hb2⟩
set_option maxRecDepth 100000 in
set_option maxHeartbeats 2000000 in
theorem rregCheck_any {A : Option Addr} {c : Nat} {es : List En} (p v m : Int) (w : World) (ha : EsB w.heap.size w (.slice A es.length c) es) : Calls Tryd.prog 14 #[.agg #[.int .i64 p, .int .i64 v, .slice A es.length c, .int .i64 m]] w (NumPost (.bool (Re.mk p v es m).may) w) := by
  have HC := Lib.hid (fun X (hX : EsB X.heap.size X (.slice A es.length c) es) => rlog_any v X hX)
  obtain ⟨A', c', hv, h1, h2, -⟩ := ha.len
  injection hv with e1 _ e3
  subst e1 e3
  have hl : es.length ≤ maxLen := by omega
  unfold maxLen at hl
  clear h2
  obtain ⟨w1, HX1⟩ : ∃ W : World, Hid (W = w.alloc (.cells #[.int .i64 p, .int .i64 v, .slice A es.length c, .int .i64 m] 24)) := ⟨_, Lib.hid rfl⟩
  have hb1 : Below w.heap.size w w1 := by rw [HX1.out]; exact below_new _ _
  have hh1 : w1.heap[w.heap.size]? = some (.cells #[.int .i64 p, .int .i64 v, .slice A es.length c, .int .i64 m] 24 (0, 0)) := by rw [HX1.out]; exact heap_alloc_new _ _
  replace HC := Lib.hid (HC.out w1 (keepE hb1 ha))
  clear ha
  obtain ⟨n0, n1, n2, n3⟩ := box4 hh1
  by_cases q0 : ¬ (0 ≤ v)
  · have t : decide ((0 : Int) ≤ v) = false := decide_eq_false q0
    rw [may_no (.inl q0)]
    clear HC q0
    go_enter Tryd.func14, Tryd.ntmps14
    go_wp2_with (rw [← HX1.out])
    go_ret
    exact ⟨rfl, hb1⟩
  have t0 : decide ((0 : Int) ≤ v) = true := decide_eq_true (Decidable.not_not.1 q0)
  by_cases q1 : ¬ (v ≤ p)
  · have t : decide (v ≤ p) = false := decide_eq_false q1
    rw [may_no (.inr (.inl q1))]
    clear HC q1
    go_enter Tryd.func14, Tryd.ntmps14
    go_wp2_with (rw [← HX1.out])
    go_ret
    exact ⟨rfl, hb1⟩
  have t1 : decide (v ≤ p) = true := decide_eq_true (Decidable.not_not.1 q1)
  by_cases q2 : ¬ (p ≤ 1048576)
  · have t : decide (p ≤ 1048576) = false := decide_eq_false q2
    rw [may_no (.inr (.inr (.inl q2)))]
    clear HC q2
    go_enter Tryd.func14, Tryd.ntmps14
    go_wp2_with (rw [← HX1.out])
    go_ret
    exact ⟨rfl, hb1⟩
  have t2 : decide (p ≤ 1048576) = true := decide_eq_true (Decidable.not_not.1 q2)
  cases q3 : logB es v with
  | false =>
    rw [q3] at HC
    rw [may_no (.inr (.inr (.inr (.inl q3))))]
    clear q0 q1 q2 q3
    go_enter Tryd.func14, Tryd.ntmps14
    go_wp2_with (rw [← HX1.out])
    refine (HC.out).mono ?_
    rintro e w2 ⟨rfl, hb2⟩
    go_wp2_with fail
    go_ret
    exact ⟨rfl, keepB hb1 hb2⟩
  | true =>
    rw [q3] at HC
    by_cases q4 : ¬ (0 ≤ m)
    · have t : decide ((0 : Int) ≤ m) = false := decide_eq_false q4
      rw [may_no (.inr (.inr (.inr (.inr (.inl q4)))))]
      clear q0 q1 q2 q3 q4
      go_enter Tryd.func14, Tryd.ntmps14
      go_wp2_with (rw [← HX1.out])
      refine (HC.out).mono ?_
      rintro e w2 ⟨rfl, hb2⟩
      clear n0 n1 n2 n3
      obtain ⟨n0, n1, n2, n3⟩ := box4 (keepH hb2 hh1)
      go_wp2_with fail
      go_ret
      exact ⟨rfl, keepB hb1 hb2⟩
    have t4 : decide ((0 : Int) ≤ m) = true := decide_eq_true (Decidable.not_not.1 q4)
    by_cases q5 : ¬ (m ≤ es.length)
    · have t : decide (m ≤ (es.length : Int)) = false := decide_eq_false q5
      rw [may_no (.inr (.inr (.inr (.inr (.inr q5)))))]
      clear q0 q1 q2 q3 q4 q5
      go_enter Tryd.func14, Tryd.ntmps14
      go_wp2_with (rw [← HX1.out])
      refine (HC.out).mono ?_
      rintro e w2 ⟨rfl, hb2⟩
      clear n0 n1 n2 n3
      obtain ⟨n0, n1, n2, n3⟩ := box4 (keepH hb2 hh1)
      go_wp2_with fail
      go_ret
      exact ⟨rfl, keepB hb1 hb2⟩
    have t5 : decide (m ≤ (es.length : Int)) = true := decide_eq_true (Decidable.not_not.1 q5)
    rw [may_yes (Decidable.not_not.1 q0) (Decidable.not_not.1 q1) (Decidable.not_not.1 q2) q3 (Decidable.not_not.1 q4) (Decidable.not_not.1 q5)]
    clear q0 q1 q2 q3 q4 q5
    go_enter Tryd.func14, Tryd.ntmps14
    go_wp2_with (rw [← HX1.out])
    refine (HC.out).mono ?_
    rintro e w2 ⟨rfl, hb2⟩
    clear n0 n1 n2 n3
    obtain ⟨n0, n1, n2, n3⟩ := box4 (keepH hb2 hh1)
    go_wp2_with fail
    go_ret
    exact ⟨rfl, keepB hb1 hb2⟩
end Go.Proofs.YtnbhdehpdfojlaaDoor
