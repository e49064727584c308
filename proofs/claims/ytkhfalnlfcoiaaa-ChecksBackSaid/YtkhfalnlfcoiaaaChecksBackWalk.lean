/-
  The walk of the law ChecksBack: it returns true and writes nothing that was there.
-/
import Derived.Test.YtkhfalnlfcoiaaaCWorks
namespace Go.Proofs.Ytkhfalnlfcoiaaa.checksBackW
open Go.RowKit
open Crc
theorem u32_nat {n : Int} (h : (Lit.int .u32 n).wf = true) : ∃ k : Nat, n = k ∧ k < 4294967296 := by
  simp [Lit.wf, IntKind.min, IntKind.max, IntKind.signed, IntKind.bits] at h
  exact ⟨n.toNat, by omega, by omega⟩
set_option maxRecDepth 100000 in
set_option maxHeartbeats 1000000 in
theorem walk (a0 : Int) (s : ByteArray) (w : World) (w0 : (Lit.int .u32 a0).wf = true) (hs : s.size ≤ maxLen) :
    Calls Try.prog 7 #[.int .u32 a0, .string s] w fun e w' => e = .returned (.bool true) ∧ Below w.heap.size w w' := by
  obtain ⟨n, rfl, hn⟩ := u32_nat w0
  clear w0
  by_cases hl : 20000 < s.size
  · go_enter Try.func7, Try.ntmps7
    go_wp2
    go_ret
    exact ⟨rfl, Below.refl _ _⟩
  · have h1 := fun W => more_any n s W hn hs
    have h2 := fun W => less_any (more n (tx s)) s W (more_lt _ _) hs
    rw [less_more hn] at h2
    generalize more n (tx s) = p at h1 h2
    have h3 := fun W => less_any n s W hn hs
    have h4 := fun W => more_any (less n (tx s)) s W (less_lt _ _) hs
    rw [more_less hn] at h4
    generalize less n (tx s) = q at h3 h4
    have h5 := fun W => more_any n ⟨#[]⟩ W hn (by decide)
    rw [show tx ⟨#[]⟩ = [] from rfl, more_nil hn] at h5
    have h6 := fun W => less_any n ⟨#[]⟩ W hn (by decide)
    rw [show tx ⟨#[]⟩ = [] from rfl, less_nil hn] at h6
    have h7 := fun W => sum_any ⟨#[]⟩ W (by decide)
    rw [show tx ⟨#[]⟩ = [] from rfl, more_nil (by decide)] at h7
    have H1 := Lib.hid h1
    have H2 := Lib.hid h2
    have H3 := Lib.hid h3
    have H4 := Lib.hid h4
    have H5 := Lib.hid h5
    have H6 := Lib.hid h6
    have H7 := Lib.hid h7
    clear h1 h2 h3 h4 h5 h6 h7
    go_enter Try.func7, Try.ntmps7
    go_wp2_with fail
    refine (H1.out _).mono ?_
    rintro e w' ⟨rfl, rfl⟩
    go_wp2_with fail
    refine (H2.out _).mono ?_
    rintro e w1 ⟨rfl, hb1⟩
    go_wp2_with fail
    refine (H3.out _).mono ?_
    rintro e w2 ⟨rfl, hb2⟩
    go_wp2_with fail
    refine (H4.out _).mono ?_
    rintro e w' ⟨rfl, rfl⟩
    go_wp2_with fail
    refine (H5.out _).mono ?_
    rintro e w' ⟨rfl, rfl⟩
    go_wp2_with fail
    refine (H6.out _).mono ?_
    rintro e w3 ⟨rfl, hb3⟩
    go_wp2_with fail
    refine (H7.out _).mono ?_
    rintro e w' ⟨rfl, rfl⟩
    go_wp2_with fail
    refine (works_any _).mono ?_
    rintro e w4 ⟨rfl, hb4⟩
    go_wp2_with fail
    go_ret
    have h12 := hb1.trans (hb2.mono hb1.size)
    have h13 := h12.trans (hb3.mono h12.size)
    exact ⟨rfl, h13.trans (hb4.mono h13.size)⟩
end Go.Proofs.Ytkhfalnlfcoiaaa.checksBackW
