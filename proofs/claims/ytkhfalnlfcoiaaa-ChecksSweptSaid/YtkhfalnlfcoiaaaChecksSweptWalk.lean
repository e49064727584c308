/-
  The walk of the law ChecksSwept: it returns true and writes nothing that was there.
-/
import Derived.Test.YtkhfalnlfcoiaaaCWorks
namespace Go.Proofs.Ytkhfalnlfcoiaaa.checksSweptW
open Go.RowKit
open Crc
theorem tx_append (a b : ByteArray) : tx (a ++ b) = tx a ++ tx b := by simp [tx]
theorem size_append (a b : ByteArray) : (a ++ b).size = a.size + b.size := by
  rw [← tx_len, tx_append, List.length_append, tx_len, tx_len]
theorem xor_nat {a b : Nat} (ha : a < 4294967296) (hb : b < 4294967296) : bits .xor .u32 (a : Int) (b : Int) = ((a ^^^ b : Nat) : Int) := u32_xor_nat a b ha hb
set_option maxRecDepth 100000 in
set_option maxHeartbeats 1000000 in
theorem walk (a b c : ByteArray) (w : World) (ha : a.size ≤ maxLen) (hb : b.size ≤ maxLen) (hc : c.size ≤ maxLen) :
    Calls Try.prog 9 #[.string a, .string b, .string c] w fun e w' => e = .returned (.bool true) ∧ Below w.heap.size w w' := by
  by_cases hq : a.size = b.size ∧ a.size ≤ 5000 ∧ c.size ≤ 5000
  · obtain ⟨hab, hl, hm⟩ := hq
    have h1 := fun W => sum_any a W ha
    have h2 := fun W => sum_any b W hb
    have h3 := fun W => sum_any (c ++ a) W (by rw [size_append]; unfold maxLen; omega)
    have h4 := fun W => sum_any (c ++ b) W (by rw [size_append]; unfold maxLen; omega)
    have h5 := fun W => sum_any c W hc
    have h6 := fun W => more_any (more 0 (tx c)) a W (more_lt _ _) ha
    have h7 := fun W => more_any (more 0 (tx c)) b W (more_lt _ _) hb
    have h8 := fun W => sum_any (a ++ c) W (by rw [size_append]; unfold maxLen; omega)
    have h9 := fun W => sum_any (b ++ c) W (by rw [size_append]; unfold maxLen; omega)
    rw [tx_append, more_append] at h3 h4 h8 h9
    have i1 : more (more 0 (tx c)) (tx a) ^^^ more (more 0 (tx c)) (tx b) = more 0 (tx a) ^^^ more 0 (tx b) := by rw [more_xor (show (tx a).length = (tx b).length from hab), more_xor (show (tx a).length = (tx b).length from hab)]
    have i2 := more_inj (more_lt 0 (tx a)) (more_lt 0 (tx b)) (tx c)
    have i3 := xor_nil_iff (more 0 (tx a)) (more 0 (tx b))
    have l1 := more_lt 0 (tx a)
    have l2 := more_lt 0 (tx b)
    have l3 := more_lt (more 0 (tx c)) (tx a)
    have l4 := more_lt (more 0 (tx c)) (tx b)
    generalize more (more 0 (tx c)) (tx a) = p at *
    generalize more (more 0 (tx c)) (tx b) = q at *
    generalize more (more 0 (tx a)) (tx c) = r at *
    generalize more (more 0 (tx b)) (tx c) = s at *
    generalize more 0 (tx a) = x at *
    generalize more 0 (tx b) = y at *
    generalize more 0 (tx c) = z at *
    have k1 : (bits .xor .u32 (p : Int) (q : Int) == bits .xor .u32 (x : Int) (y : Int)) = true := by rw [xor_nat l3 l4, xor_nat l1 l2, i1, beq_self_eq_true]
    have k2 : (((r : Int) == (s : Int)) == (bits .xor .u32 (x : Int) (y : Int) == 0)) = true := by
      rw [beq_iff_eq, Bool.eq_iff_iff, beq_iff_eq, beq_iff_eq, xor_nat l1 l2]; omega
    have HS := Lib.hid hab
    have H1 := Lib.hid h1
    have H2 := Lib.hid h2
    have H3 := Lib.hid h3
    have H4 := Lib.hid h4
    have H5 := Lib.hid h5
    have H6 := Lib.hid h6
    have H7 := Lib.hid h7
    have H8 := Lib.hid h8
    have H9 := Lib.hid h9
    clear h1 h2 h3 h4 h5 h6 h7 h8 h9 i1 i2 i3
    have t1 : (((a.size : Int)) != (b.size : Int)) = false := by rw [HS.out]; simp
    have t2 : decide (5000 < (a.size : Int)) = false := decide_eq_false (by omega)
    have t3 : decide (5000 < (c.size : Int)) = false := decide_eq_false (by omega)
    have hb5 : b.size ≤ 5000 := by omega
    clear hab
    go_enter Try.func9, Try.ntmps9
    go_wp2_with fail
    refine (H1.out _).mono ?_
    rintro e w' ⟨rfl, rfl⟩
    go_wp2_with fail
    refine (H2.out _).mono ?_
    rintro e w' ⟨rfl, rfl⟩
    go_wp2_with fail
    refine (H3.out _).mono ?_
    rintro e w' ⟨rfl, rfl⟩
    go_wp2_with fail
    refine (H4.out _).mono ?_
    rintro e w' ⟨rfl, rfl⟩
    go_wp2_with fail
    refine (H5.out _).mono ?_
    rintro e w' ⟨rfl, rfl⟩
    go_wp2_with fail
    refine (H6.out _).mono ?_
    rintro e w' ⟨rfl, rfl⟩
    go_wp2_with fail
    refine (H5.out _).mono ?_
    rintro e w' ⟨rfl, rfl⟩
    go_wp2_with fail
    refine (H7.out _).mono ?_
    rintro e w' ⟨rfl, rfl⟩
    go_wp2_with fail
    refine (H8.out _).mono ?_
    rintro e w' ⟨rfl, rfl⟩
    go_wp2_with fail
    refine (H9.out _).mono ?_
    rintro e w' ⟨rfl, rfl⟩
    go_wp2_with fail
    refine (works_any _).mono ?_
    rintro e w4 ⟨rfl, hb4⟩
    go_wp2_with fail
    go_ret
    exact ⟨rfl, hb4⟩
  by_cases h1 : a.size = b.size
  · have t1 : (((a.size : Int)) != (b.size : Int)) = false := by rw [h1]; simp
    have HQ := Lib.hid hq
    have H1 := Lib.hid h1
    clear hq h1
    by_cases h2 : 5000 < a.size
    · have t2 : decide (5000 < (a.size : Int)) = true := decide_eq_true (by omega)
      go_enter Try.func9, Try.ntmps9
      go_wp2_with fail
      refine (works_any _).mono ?_
      rintro e w' ⟨rfl, hb4⟩
      go_wp2_with fail
      go_ret
      exact ⟨rfl, hb4⟩
    · have t2 : decide (5000 < (a.size : Int)) = false := decide_eq_false (by omega)
      have t3 : decide (5000 < (c.size : Int)) = true := decide_eq_true (by have := HQ.out; have := H1.out; omega)
      go_enter Try.func9, Try.ntmps9
      go_wp2_with fail
      refine (works_any _).mono ?_
      rintro e w' ⟨rfl, hb4⟩
      go_wp2_with fail
      go_ret
      exact ⟨rfl, hb4⟩
  · have t1 : (((a.size : Int)) != (b.size : Int)) = true := by simp; omega
    clear hq h1
    go_enter Try.func9, Try.ntmps9
    go_wp2_with fail
    refine (works_any _).mono ?_
    rintro e w' ⟨rfl, hb4⟩
    go_wp2_with fail
    go_ret
    exact ⟨rfl, hb4⟩
end Go.Proofs.Ytkhfalnlfcoiaaa.checksSweptW
