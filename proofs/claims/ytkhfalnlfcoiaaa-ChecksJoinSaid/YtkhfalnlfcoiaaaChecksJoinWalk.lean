/-
  The walk of the law ChecksJoin: it returns true and writes nothing that was there.
-/
import Derived.Test.YtkhfalnlfcoiaaaCWorks
namespace Go.Proofs.Ytkhfalnlfcoiaaa.checksJoinW
open Go.RowKit
open Crc
theorem tx_append (a b : ByteArray) : tx (a ++ b) = tx a ++ tx b := by simp [tx]
theorem size_append (a b : ByteArray) : (a ++ b).size = a.size + b.size := by
  rw [← tx_len, tx_append, List.length_append, tx_len, tx_len]
set_option maxRecDepth 100000 in
set_option maxHeartbeats 1000000 in
theorem walk (a b : ByteArray) (w : World) (ha : a.size ≤ maxLen) (hb : b.size ≤ maxLen) :
    Calls Try.prog 5 #[.string a, .string b] w fun e w' => e = .returned (.bool true) ∧ Below w.heap.size w w' := by
  by_cases hl : 50000 < a.size
  · go_enter Try.func5, Try.ntmps5
    go_wp2
    go_ret
    exact ⟨rfl, Below.refl _ _⟩
  by_cases hm : 50000 < b.size
  · go_enter Try.func5, Try.ntmps5
    go_wp2
    go_ret
    exact ⟨rfl, Below.refl _ _⟩
  · have h1 := fun W => sum_any (a ++ b) W (by rw [size_append]; unfold maxLen; omega)
    have h2 := fun W => sum_any a W ha
    have h3 := fun W => more_any (more 0 (tx a)) b W (more_lt _ _) hb
    have h4 := fun W => less_any (more 0 (tx (a ++ b))) b W (more_lt _ _) hb
    have h5 := fun W => less_any (more 0 (tx a)) a W (more_lt _ _) ha
    rw [tx_append, more_append, less_more (more_lt _ _)] at h4
    rw [tx_append, more_append] at h1
    rw [less_more (by decide)] at h5
    generalize more (more 0 (tx a)) (tx b) = p at h1 h3 h4
    generalize more 0 (tx a) = q at h2 h3 h4 h5
    have H1 := Lib.hid h1
    have H2 := Lib.hid h2
    have H3 := Lib.hid h3
    have H4 := Lib.hid h4
    have H5 := Lib.hid h5
    clear h1 h2 h3 h4 h5
    go_enter Try.func5, Try.ntmps5
    go_wp2_with fail
    refine (H1.out _).mono ?_
    rintro e w' ⟨rfl, rfl⟩
    go_wp2_with fail
    refine (H2.out _).mono ?_
    rintro e w' ⟨rfl, rfl⟩
    go_wp2_with fail
    refine (H3.out _).mono ?_
    rintro e w' ⟨rfl, rfl⟩
    go_wp2_with fail
    refine (H4.out _).mono ?_
    rintro e w1 ⟨rfl, hb1⟩
    go_wp2_with fail
    refine (H2.out _).mono ?_
    rintro e w' ⟨rfl, rfl⟩
    go_wp2_with fail
    refine (H4.out _).mono ?_
    rintro e w2 ⟨rfl, hb2⟩
    go_wp2_with fail
    refine (H5.out _).mono ?_
    rintro e w3 ⟨rfl, hb3⟩
    go_wp2_with fail
    refine (works_any _).mono ?_
    rintro e w4 ⟨rfl, hb4⟩
    go_wp2_with fail
    go_ret
    have h12 := hb1.trans (hb2.mono hb1.size)
    have h13 := h12.trans (hb3.mono h12.size)
    exact ⟨rfl, h13.trans (hb4.mono h13.size)⟩
end Go.Proofs.Ytkhfalnlfcoiaaa.checksJoinW
