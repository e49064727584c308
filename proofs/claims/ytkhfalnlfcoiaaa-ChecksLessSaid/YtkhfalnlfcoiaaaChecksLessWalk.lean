/-
  The walk of the law ChecksLess: it returns true and writes nothing that was there.
-/
import Derived.Test.YtkhfalnlfcoiaaaCWorks
namespace Go.Proofs.Ytkhfalnlfcoiaaa.checksLessW
open Go.RowKit
open Crc
theorem u32_nat {n : Int} (h : (Lit.int .u32 n).wf = true) : ∃ k : Nat, n = k ∧ k < 4294967296 := by
  simp [Lit.wf, IntKind.min, IntKind.max, IntKind.signed, IntKind.bits] at h
  exact ⟨n.toNat, by omega, by omega⟩
set_option maxRecDepth 100000 in
set_option maxHeartbeats 1000000 in
theorem walk (s : ByteArray) (a1 : Int) (w : World) (hs : s.size ≤ maxLen) (w1 : (Lit.int .u32 a1).wf = true) :
    Calls Try.prog 4 #[.string s, .int .u32 a1] w fun e w' => e = .returned (.bool true) ∧ Below w.heap.size w w' := by
  obtain ⟨n, rfl, hn⟩ := u32_nat w1
  clear w1
  by_cases hl : 20000 < s.size
  · go_enter Try.func4, Try.ntmps4
    go_wp2
    go_ret
    exact ⟨rfl, Below.refl _ _⟩
  · have hm := fun W => more_any (less n (tx s)) s W (less_lt _ _) hs
    rw [more_less hn] at hm
    have hL := fun W => less_any n s W hn hs
    have hR := fun W => Less_any n s W hn hs
    generalize less n (tx s) = m at hm hL hR
    have HM := Lib.hid hm
    have HL := Lib.hid hL
    have HR := Lib.hid hR
    clear hm hL hR
    go_enter Try.func4, Try.ntmps4
    go_wp2_with fail
    refine (HL.out _).mono ?_
    rintro e w1 ⟨rfl, hb1⟩
    go_wp2_with fail
    refine (HR.out _).mono ?_
    rintro e w' ⟨rfl, rfl⟩
    go_wp2_with fail
    refine (HM.out _).mono ?_
    rintro e w' ⟨rfl, rfl⟩
    go_wp2_with fail
    refine (works_any _).mono ?_
    rintro e w2 ⟨rfl, hb2⟩
    go_wp2_with fail
    go_ret
    exact ⟨rfl, hb1.trans (hb2.mono hb1.size)⟩
end Go.Proofs.Ytkhfalnlfcoiaaa.checksLessW
