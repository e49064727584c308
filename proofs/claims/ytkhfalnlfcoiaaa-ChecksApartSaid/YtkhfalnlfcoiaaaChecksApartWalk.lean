/-
  The walk of the law ChecksApart: it returns true and writes nothing that was there.
-/
import Derived.Test.YtkhfalnlfcoiaaaCWorks
namespace Go.Proofs.Ytkhfalnlfcoiaaa.checksApartW
open Go.RowKit
open Crc
theorem u32_nat {n : Int} (h : (Lit.int .u32 n).wf = true) : ∃ k : Nat, n = k ∧ k < 4294967296 := by
  simp [Lit.wf, IntKind.min, IntKind.max, IntKind.signed, IntKind.bits] at h
  exact ⟨n.toNat, by omega, by omega⟩
set_option maxRecDepth 100000 in
set_option maxHeartbeats 1000000 in
theorem walk (a0 a1 : Int) (s : ByteArray) (w : World) (w0 : (Lit.int .u32 a0).wf = true) (w1 : (Lit.int .u32 a1).wf = true) (hs : s.size ≤ maxLen) :
    Calls Try.prog 6 #[.int .u32 a0, .int .u32 a1, .string s] w fun e w' => e = .returned (.bool true) ∧ Below w.heap.size w w' := by
  obtain ⟨m, rfl, hm⟩ := u32_nat w0
  obtain ⟨n, rfl, hn⟩ := u32_nat w1
  clear w0 w1
  by_cases hl : 20000 < s.size
  · go_enter Try.func6, Try.ntmps6
    go_wp2
    go_ret
    exact ⟨rfl, Below.refl _ _⟩
  · have h1 := fun W => more_any m s W hm hs
    have h2 := fun W => more_any n s W hn hs
    have h3 := fun W => less_any m s W hm hs
    have h4 := fun W => less_any n s W hn hs
    have i1 := more_inj hm hn (tx s)
    have i2 := less_inj hm hn (tx s)
    generalize more m (tx s) = p at *
    generalize more n (tx s) = q at *
    generalize less m (tx s) = u at *
    generalize less n (tx s) = v at *
    have H1 := Lib.hid h1
    have H2 := Lib.hid h2
    have H3 := Lib.hid h3
    have H4 := Lib.hid h4
    clear h1 h2 h3 h4
    have k1 : (((p : Int) == (q : Int)) == ((m : Int) == (n : Int))) = true := by
      rw [beq_iff_eq, Bool.eq_iff_iff, beq_iff_eq, beq_iff_eq]; omega
    have k2 : (((u : Int) == (v : Int)) == ((m : Int) == (n : Int))) = true := by
      rw [beq_iff_eq, Bool.eq_iff_iff, beq_iff_eq, beq_iff_eq]; omega
    clear i1 i2
    go_enter Try.func6, Try.ntmps6
    go_wp2_with fail
    refine (H1.out _).mono ?_
    rintro e w' ⟨rfl, rfl⟩
    go_wp2_with fail
    refine (H2.out _).mono ?_
    rintro e w' ⟨rfl, rfl⟩
    go_wp2_with fail
    refine (H3.out _).mono ?_
    rintro e w1 ⟨rfl, hb1⟩
    go_wp2_with fail
    refine (H4.out _).mono ?_
    rintro e w2 ⟨rfl, hb2⟩
    go_wp2_with fail
    refine (works_any _).mono ?_
    rintro e w3 ⟨rfl, hb3⟩
    go_wp2_with fail
    go_ret
    have h12 := hb1.trans (hb2.mono hb1.size)
    exact ⟨rfl, h12.trans (hb3.mono h12.size)⟩
end Go.Proofs.Ytkhfalnlfcoiaaa.checksApartW
