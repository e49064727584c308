/-
  May and Comes of the document's deeds, and may of the statements.
-/
import Derived.Test.YtafhjlfnhgkcoaaDoorAeRMay
import Derived.Test.YtafhjlfnhgkcoaaDoorAeMath
namespace Go.Proofs.YtafhjlfnhgkcoaaDoor
open Go.RowKit Go.Sort
def mayB (t : Int) (c : Bool) (x v : Int) : Bool := (St.mk t c x v).may
theorem mayB_no {t x v : Int} {c : Bool} (h : ¬ ((t = 0 ∧ c = false ∧ x = 0 ∧ v = 0) ∨ (1 ≤ t ∧ t ≤ 3 ∧ -1099511627776 ≤ x ∧ x ≤ 1099511627776 ∧ 1 ≤ v ∧ v ≤ 1099511627776 ∧ (t = 1 ∨ 0 ≤ x) ∧ (c = false ∨ x = 0)))) : false = mayB t c x v := (decide_eq_false h).symm
theorem mayB_yes {t x v : Int} {c : Bool} (h : (t = 0 ∧ c = false ∧ x = 0 ∧ v = 0) ∨ (1 ≤ t ∧ t ≤ 3 ∧ -1099511627776 ≤ x ∧ x ≤ 1099511627776 ∧ 1 ≤ v ∧ v ≤ 1099511627776 ∧ (t = 1 ∨ 0 ≤ x) ∧ (c = false ∨ x = 0))) : true = mayB t c x v := (decide_eq_true h).symm
set_option maxRecDepth 100000 in
set_option maxHeartbeats 1000000 in
theorem rm_zero (c : Bool) (x v : Int) (w : World) : Calls Tryd.prog 30 #[.agg #[.int .i64 0, .bool c, .int .i64 x, .int .i64 v]] w (NumPost (.bool (mayB 0 c x v)) w) := by
  cases c
  · by_cases hx : x = 0
    · subst hx
      by_cases hv : v = 0
      · subst hv
        go_enter Tryd.func30, Tryd.ntmps30
        go_wp2_with fail
        go_ret
        exact ⟨ret_bool (by decide), (Below.refl _ _).alloc (Nat.le_refl _) _⟩
      · have u : (v == 0) = false := by simp [hv]
        go_enter Tryd.func30, Tryd.ntmps30
        go_wp2_with fail
        go_ret
        exact ⟨ret_bool (mayB_no (by omega)), (Below.refl _ _).alloc (Nat.le_refl _) _⟩
    · have u : (x == 0) = false := by simp [hx]
      go_enter Tryd.func30, Tryd.ntmps30
      go_wp2_with fail
      go_ret
      exact ⟨ret_bool (mayB_no (by omega)), (Below.refl _ _).alloc (Nat.le_refl _) _⟩
  · go_enter Tryd.func30, Tryd.ntmps30
    go_wp2_with fail
    go_ret
    exact ⟨ret_bool (mayB_no (by simp)), (Below.refl _ _).alloc (Nat.le_refl _) _⟩
theorem mayB_f {t x v : Int} (b : Bool) (h : b = true ↔ ((t = 0 ∧ x = 0 ∧ v = 0) ∨ (1 ≤ t ∧ t ≤ 3 ∧ -1099511627776 ≤ x ∧ x ≤ 1099511627776 ∧ 1 ≤ v ∧ v ≤ 1099511627776 ∧ (t = 1 ∨ 0 ≤ x)))) : b = mayB t false x v := by
  rw [Bool.eq_iff_iff, h]; unfold mayB; rw [may_iff]; simp
theorem mayB_t {t x v : Int} (b : Bool) (h : b = true ↔ (1 ≤ t ∧ t ≤ 3 ∧ -1099511627776 ≤ x ∧ x ≤ 1099511627776 ∧ 1 ≤ v ∧ v ≤ 1099511627776 ∧ x = 0)) : b = mayB t true x v := by
  rw [Bool.eq_iff_iff, h]; unfold mayB; rw [may_iff]; simp; omega
set_option maxRecDepth 100000 in
set_option maxHeartbeats 2000000 in
theorem rm_rest (t : Int) (c : Bool) (x v : Int) (w : World) (h0 : (t == 0) = false) : Calls Tryd.prog 30 #[.agg #[.int .i64 t, .bool c, .int .i64 x, .int .i64 v]] w (NumPost (.bool (mayB t c x v)) w) := by
  have h0' : ¬ t = 0 := by simpa using h0
  cases c
  all_goals
    go_enter Tryd.func30, Tryd.ntmps30
    go_wp2_with fail
    all_goals
      go_ret
      refine ⟨ret_bool ?_, (Below.refl _ _).alloc (Nat.le_refl _) _⟩
      first
        | exact mayB_f _ (by simp <;> omega)
        | exact mayB_t _ (by simp <;> omega)
theorem rm_any (s : St) (w : World) : Calls Tryd.prog 30 #[s.v] w (NumPost (.bool s.may) w) := by
  obtain ⟨t, c, x, v⟩ := s
  by_cases h : t = 0
  · subst h; exact rm_zero c x v w
  · exact rm_rest t c x v w (by simp [h])
def comB (t : Int) (c : Bool) (x v k a : Int) : Bool := comes ⟨t, c, x, v⟩ ⟨k, a⟩
theorem comB_f {t x v k a : Int} (b : Bool) (h : b = true ↔ (v < 1099511627776 ∧
  ((k = 1 ∧ t = 0 ∧ 1 ≤ a ∧ a ≤ 3) ∨ (k = 2 ∧ t ≠ 0 ∧ 1 ≤ a ∧ x + a ≤ 1099511627776) ∨
   (k = 3 ∧ 1 ≤ a ∧ ((t = 1 ∧ -1099511627776 ≤ x - a) ∨ (t = 2 ∧ 0 ≤ x - a))) ∨ (k = 4 ∧ t ≠ 0 ∧ x = 0 ∧ a = 0)))) : b = comB t false x v k a := by
  rw [Bool.eq_iff_iff, h]; unfold comB; rw [comes_iff]; simp
theorem comB_t {t x v k a : Int} : false = comB t true x v k a := by
  cases h : comB t true x v k a
  · rfl
  · have := ((comes_iff _ _).1 h).2.1; cases this
set_option maxRecDepth 100000 in
set_option maxHeartbeats 2000000 in
theorem com_t (t x v k a : Int) (w : World) : Calls Tryd.prog 32 #[.agg #[.int .i64 t, .bool true, .int .i64 x, .int .i64 v], .agg #[.int .i64 k, .int .i64 a]] w (NumPost (.bool (comB t true x v k a)) w) := by
  go_enter Tryd.func32, Tryd.ntmps32
  go_wp2_with fail
  all_goals
    go_ret
    exact ⟨ret_bool comB_t, ((Below.refl _ _).alloc (Nat.le_refl _) _).alloc (by simp) _⟩
set_option maxRecDepth 100000 in
set_option maxHeartbeats 2000000 in
theorem com_1 (t x v a : Int) (w : World) : Calls Tryd.prog 32 #[.agg #[.int .i64 t, .bool false, .int .i64 x, .int .i64 v], .agg #[.int .i64 1, .int .i64 a]] w (NumPost (.bool (comB t false x v 1 a)) w) := by
  go_enter Tryd.func32, Tryd.ntmps32
  go_wp2_with fail
  all_goals
    go_ret
    exact ⟨ret_bool (comB_f _ (by simp <;> omega)), ((Below.refl _ _).alloc (Nat.le_refl _) _).alloc (by simp) _⟩
set_option maxRecDepth 100000 in
set_option maxHeartbeats 2000000 in
theorem com_2 (t x v a : Int) (w : World) (i0 : -1099511627776 ≤ x) (i1 : x ≤ 1099511627776) : Calls Tryd.prog 32 #[.agg #[.int .i64 t, .bool false, .int .i64 x, .int .i64 v], .agg #[.int .i64 2, .int .i64 a]] w (NumPost (.bool (comB t false x v 2 a)) w) := by
  go_enter Tryd.func32, Tryd.ntmps32
  go_wp2_with fail
  all_goals
    go_ret
    exact ⟨ret_bool (comB_f _ (by simp <;> omega)), ((Below.refl _ _).alloc (Nat.le_refl _) _).alloc (by simp) _⟩
set_option maxRecDepth 100000 in
set_option maxHeartbeats 2000000 in
theorem com_31 (x v a : Int) (w : World) (i0 : -1099511627776 ≤ x) (i1 : x ≤ 1099511627776) : Calls Tryd.prog 32 #[.agg #[.int .i64 1, .bool false, .int .i64 x, .int .i64 v], .agg #[.int .i64 3, .int .i64 a]] w (NumPost (.bool (comB 1 false x v 3 a)) w) := by
  go_enter Tryd.func32, Tryd.ntmps32
  go_wp2_with fail
  all_goals
    go_ret
    exact ⟨ret_bool (comB_f _ (by simp <;> omega)), ((Below.refl _ _).alloc (Nat.le_refl _) _).alloc (by simp) _⟩
set_option maxRecDepth 100000 in
set_option maxHeartbeats 2000000 in
theorem com_32 (x v a : Int) (w : World) (i0 : -1099511627776 ≤ x) (i1 : x ≤ 1099511627776) : Calls Tryd.prog 32 #[.agg #[.int .i64 2, .bool false, .int .i64 x, .int .i64 v], .agg #[.int .i64 3, .int .i64 a]] w (NumPost (.bool (comB 2 false x v 3 a)) w) := by
  go_enter Tryd.func32, Tryd.ntmps32
  go_wp2_with fail
  all_goals
    go_ret
    exact ⟨ret_bool (comB_f _ (by simp <;> omega)), ((Below.refl _ _).alloc (Nat.le_refl _) _).alloc (by simp) _⟩
set_option maxRecDepth 100000 in
set_option maxHeartbeats 2000000 in
theorem com_3e (t x v a : Int) (w : World) (h1 : (t == 1) = false) (h2 : (t == 2) = false) : Calls Tryd.prog 32 #[.agg #[.int .i64 t, .bool false, .int .i64 x, .int .i64 v], .agg #[.int .i64 3, .int .i64 a]] w (NumPost (.bool (comB t false x v 3 a)) w) := by
  have g1 : ¬ t = 1 := by simpa using h1
  have g2 : ¬ t = 2 := by simpa using h2
  go_enter Tryd.func32, Tryd.ntmps32
  go_wp2_with fail
  all_goals
    go_ret
    exact ⟨ret_bool (comB_f _ (by simp <;> omega)), ((Below.refl _ _).alloc (Nat.le_refl _) _).alloc (by simp) _⟩
set_option maxRecDepth 100000 in
set_option maxHeartbeats 2000000 in
theorem com_4 (t x v a : Int) (w : World) : Calls Tryd.prog 32 #[.agg #[.int .i64 t, .bool false, .int .i64 x, .int .i64 v], .agg #[.int .i64 4, .int .i64 a]] w (NumPost (.bool (comB t false x v 4 a)) w) := by
  go_enter Tryd.func32, Tryd.ntmps32
  go_wp2_with fail
  all_goals
    go_ret
    exact ⟨ret_bool (comB_f _ (by simp <;> omega)), ((Below.refl _ _).alloc (Nat.le_refl _) _).alloc (by simp) _⟩
set_option maxRecDepth 100000 in
set_option maxHeartbeats 2000000 in
theorem com_e (t x v k a : Int) (w : World) (h1 : (k == 1) = false) (h2 : (k == 2) = false) (h3 : (k == 3) = false) (h4 : (k == 4) = false) : Calls Tryd.prog 32 #[.agg #[.int .i64 t, .bool false, .int .i64 x, .int .i64 v], .agg #[.int .i64 k, .int .i64 a]] w (NumPost (.bool (comB t false x v k a)) w) := by
  have g1 : ¬ k = 1 := by simpa using h1
  have g2 : ¬ k = 2 := by simpa using h2
  have g3 : ¬ k = 3 := by simpa using h3
  have g4 : ¬ k = 4 := by simpa using h4
  go_enter Tryd.func32, Tryd.ntmps32
  go_wp2_with fail
  all_goals
    go_ret
    exact ⟨ret_bool (comB_f _ (by simp <;> omega)), ((Below.refl _ _).alloc (Nat.le_refl _) _).alloc (by simp) _⟩
theorem com_any (s : St) (e : Ev) (w : World) (hm : s.may = true) : Calls Tryd.prog 32 #[s.v, e.v] w (NumPost (.bool (comes s e)) w) := by
  have hm := (may_iff _).1 hm
  obtain ⟨t, c, x, v⟩ := s
  obtain ⟨k, a⟩ := e
  have hx : -1099511627776 ≤ x ∧ x ≤ 1099511627776 := by simp only at hm; omega
  cases c
  · by_cases h1 : k = 1
    · subst h1; exact com_1 t x v a w
    by_cases h2 : k = 2
    · subst h2; exact com_2 t x v a w hx.1 hx.2
    by_cases h3 : k = 3
    · subst h3
      by_cases t1 : t = 1
      · subst t1; exact com_31 x v a w hx.1 hx.2
      by_cases t2 : t = 2
      · subst t2; exact com_32 x v a w hx.1 hx.2
      exact com_3e t x v a w (by simp [t1]) (by simp [t2])
    by_cases h4 : k = 4
    · subst h4; exact com_4 t x v a w
    exact com_e t x v k a w (by simp [h1]) (by simp [h2]) (by simp [h3]) (by simp [h4])
  · exact com_t t x v k a w
end Go.Proofs.YtafhjlfnhgkcoaaDoor
