/-
  allowOrder and allowAnswer of package mail.
-/
import Derived.Test.YtkdnhfeamibmdaaDoorMlNums
namespace Go.Proofs.YtkdnhfeamibmdaaDoor
open Go.RowKit
set_option maxRecDepth 100000 in
set_option maxHeartbeats 4000000 in
theorem allowOrder_any (f : Nat) (hf : FB f) (o : Od) (w : World) (hA : AskM w) : Calls Tryd.prog 49 #[.int .u64 f, o.v] w (NumPost (.bool (ordA f o)) w) := by
  have HF : Hid (bits .and .u64 (f : Int) 128 = if f.testBit 7 then 128 else 0) := hf 7 (by omega)
  have HR : Hid (ordA f o = if f.testBit 7 then o.may else decide (o = Od.none)) := rfl
  have hb0 : Below w.heap.size w (w.alloc (.cells #[.int .i64 o.id, .int .i64 o.st, .int .i64 o.ex, .int .i64 o.ki, .int .i64 o.ar] 28)) := (Below.refl _ _).alloc (Nat.le_refl _) _
  have HB0 := Lib.hid hb0
  have G := Lib.hid (check_any o _ (hA.keep hb0).rc.1)
  have HE := Lib.hid (show o.err = if o.may then 0 else 2 from rfl)
  generalize ordA f o = R at *
  generalize f.testBit 7 = b at *
  generalize (f : Int) = F at *
  clear hf f hA hb0
  cases b
  · have hF : bits .and .u64 F 128 = 0 := HF.out
    have HR2 : Hid (R = decide (o = Od.none)) := HR.out
    clear HR G HE
    obtain ⟨a, b, c, d, e⟩ := o
    simp only [Od.v] at *
    by_cases h0 : a = 0
    rotate_left
    · have t : (a == 0) = false := by simp [h0]
      go_enter Tryd.func49, Tryd.ntmps49
      go_wp2_with fail
      go_ret
      exact ⟨by rw [HR2.out]; simp [Od.none, h0], HB0.out⟩
    subst h0
    by_cases h1 : b = 0
    rotate_left
    · have t : (b == 0) = false := by simp [h1]
      go_enter Tryd.func49, Tryd.ntmps49
      go_wp2_with fail
      go_ret
      exact ⟨by rw [HR2.out]; simp [Od.none, h1], HB0.out⟩
    subst h1
    by_cases h2 : c = 0
    rotate_left
    · have t : (c == 0) = false := by simp [h2]
      go_enter Tryd.func49, Tryd.ntmps49
      go_wp2_with fail
      go_ret
      exact ⟨by rw [HR2.out]; simp [Od.none, h2], HB0.out⟩
    subst h2
    by_cases h3 : d = 0
    rotate_left
    · have t : (d == 0) = false := by simp [h3]
      go_enter Tryd.func49, Tryd.ntmps49
      go_wp2_with fail
      go_ret
      exact ⟨by rw [HR2.out]; simp [Od.none, h3], HB0.out⟩
    subst h3
    by_cases h4 : e = 0
    rotate_left
    · have t : (e == 0) = false := by simp [h4]
      go_enter Tryd.func49, Tryd.ntmps49
      go_wp2_with fail
      go_ret
      exact ⟨by rw [HR2.out]; simp [Od.none, h4], HB0.out⟩
    subst h4
    go_enter Tryd.func49, Tryd.ntmps49
    go_wp2_with fail
    go_ret
    exact ⟨by rw [HR2.out]; rfl, HB0.out⟩
  · have hF : bits .and .u64 F 128 = 128 := HF.out
    have HR2 : Hid (R = o.may) := HR.out
    clear HR HF
    generalize o.err = er at *
    generalize o.may = my at *
    obtain ⟨a, b, c, d, e⟩ := o
    simp only [Od.v] at *
    cases my
    all_goals
      obtain rfl := HE.out
      go_enter Tryd.func49, Tryd.ntmps49
      go_wp2_with fail
      refine (G.out).mono ?_
      rintro e w1 ⟨rfl, hb1⟩
      go_wp2_with fail
      go_ret
      exact ⟨by rw [HR2.out]; rfl, HB0.out.trans (hb1.mono HB0.out.size)⟩
set_option maxRecDepth 100000 in
set_option maxHeartbeats 4000000 in
theorem allowAnswer_any (f : Nat) (hf : FB f) (a b c : Int) (w : World) : Calls Tryd.prog 50 #[.int .u64 f, .agg #[.int .i64 a, .int .i64 b, .int .i64 c]] w (NumPost (.bool (ansA f a b c)) w) := by
  have HF : Hid (bits .and .u64 (f : Int) 256 = if f.testBit 8 then 256 else 0) := hf 8 (by omega)
  have HR : Hid (ansA f a b c = if f.testBit 8 then (inb 1 2147483647 a && (inb 1 7 b && inb 0 64 c)) else decide (a = 0 ∧ b = 0 ∧ c = 0)) := rfl
  have hb0 : Below w.heap.size w (w.alloc (.cells #[.int .i64 a, .int .i64 b, .int .i64 c] 43)) := (Below.refl _ _).alloc (Nat.le_refl _) _
  have HB0 := Lib.hid hb0
  generalize ansA f a b c = R at *
  generalize f.testBit 8 = bb at *
  generalize (f : Int) = F at *
  clear hf f hb0
  cases bb
  · have hF : bits .and .u64 F 256 = 0 := HF.out
    have HR2 : Hid (R = decide (a = 0 ∧ b = 0 ∧ c = 0)) := HR.out
    clear HR
    by_cases h0 : a = 0
    rotate_left
    · have t : (a == 0) = false := by simp [h0]
      go_enter Tryd.func50, Tryd.ntmps50
      go_wp2_with fail
      go_ret
      exact ⟨by rw [HR2.out]; simp [h0], HB0.out⟩
    subst h0
    by_cases h1 : b = 0
    rotate_left
    · have t : (b == 0) = false := by simp [h1]
      go_enter Tryd.func50, Tryd.ntmps50
      go_wp2_with fail
      go_ret
      exact ⟨by rw [HR2.out]; simp [h1], HB0.out⟩
    subst h1
    by_cases h2 : c = 0
    rotate_left
    · have t : (c == 0) = false := by simp [h2]
      go_enter Tryd.func50, Tryd.ntmps50
      go_wp2_with fail
      go_ret
      exact ⟨by rw [HR2.out]; simp [h2], HB0.out⟩
    subst h2
    go_enter Tryd.func50, Tryd.ntmps50
    go_wp2_with fail
    go_ret
    exact ⟨by rw [HR2.out]; rfl, HB0.out⟩
  · have hF : bits .and .u64 F 256 = 256 := HF.out
    have HR2 : Hid (R = (inb 1 2147483647 a && (inb 1 7 b && inb 0 64 c))) := HR.out
    clear HR HF
    by_cases h0 : 1 ≤ a
    rotate_left
    · have t : decide (1 ≤ a) = false := decide_eq_false h0
      go_enter Tryd.func50, Tryd.ntmps50
      go_wp2_with fail
      go_ret
      exact ⟨by rw [HR2.out, show (inb 1 2147483647 a && (inb 1 7 b && inb 0 64 c)) = false by simp [inb, t]]; rfl, HB0.out⟩
    have t0 : decide (1 ≤ a) = true := decide_eq_true h0
    by_cases h1 : a ≤ 2147483647
    rotate_left
    · have t : decide (a ≤ 2147483647) = false := decide_eq_false h1
      go_enter Tryd.func50, Tryd.ntmps50
      go_wp2_with fail
      go_ret
      exact ⟨by rw [HR2.out, show (inb 1 2147483647 a && (inb 1 7 b && inb 0 64 c)) = false by simp [inb, t]]; rfl, HB0.out⟩
    have t1 : decide (a ≤ 2147483647) = true := decide_eq_true h1
    by_cases h2 : 1 ≤ b
    rotate_left
    · have t : decide (1 ≤ b) = false := decide_eq_false h2
      go_enter Tryd.func50, Tryd.ntmps50
      go_wp2_with fail
      go_ret
      exact ⟨by rw [HR2.out, show (inb 1 2147483647 a && (inb 1 7 b && inb 0 64 c)) = false by simp [inb, t]]; rfl, HB0.out⟩
    have t2 : decide (1 ≤ b) = true := decide_eq_true h2
    by_cases h3 : b ≤ 7
    rotate_left
    · have t : decide (b ≤ 7) = false := decide_eq_false h3
      go_enter Tryd.func50, Tryd.ntmps50
      go_wp2_with fail
      go_ret
      exact ⟨by rw [HR2.out, show (inb 1 2147483647 a && (inb 1 7 b && inb 0 64 c)) = false by simp [inb, t]]; rfl, HB0.out⟩
    have t3 : decide (b ≤ 7) = true := decide_eq_true h3
    by_cases h4 : 0 ≤ c
    rotate_left
    · have t : decide (0 ≤ c) = false := decide_eq_false h4
      go_enter Tryd.func50, Tryd.ntmps50
      go_wp2_with fail
      go_ret
      exact ⟨by rw [HR2.out, show (inb 1 2147483647 a && (inb 1 7 b && inb 0 64 c)) = false by simp [inb, t]]; rfl, HB0.out⟩
    have t4 : decide (0 ≤ c) = true := decide_eq_true h4
    by_cases h5 : c ≤ 64
    rotate_left
    · have t : decide (c ≤ 64) = false := decide_eq_false h5
      go_enter Tryd.func50, Tryd.ntmps50
      go_wp2_with fail
      go_ret
      exact ⟨by rw [HR2.out, show (inb 1 2147483647 a && (inb 1 7 b && inb 0 64 c)) = false by simp [inb, t]]; rfl, HB0.out⟩
    have t5 : decide (c ≤ 64) = true := decide_eq_true h5
    go_enter Tryd.func50, Tryd.ntmps50
    go_wp2_with fail
    go_ret
    exact ⟨by rw [HR2.out]; simp only [inb, t0, t1, t2, t3, t4, t5]; rfl, HB0.out⟩
end Go.Proofs.YtkdnhfeamibmdaaDoor
