/-
  The walk of the law MarksFew: it returns true and writes nothing that was there.
-/
import Derived.Test.YtjmclohljmcedaaWorks
namespace Go.Proofs.Ytjmclohljmcedaa.marksFewW
open Go.RowKit
open Go.Lib (uvarint zigzag unzigzag uvarint_small uvarint_big)
theorem i64_bd {n : Int} (h : (Lit.int .i64 n).wf = true) : -9223372036854775808 ≤ n ∧ n ≤ 9223372036854775807 := by
  simp [Lit.wf, IntKind.min, IntKind.max, IntKind.signed, IntKind.bits] at h
  omega
set_option maxRecDepth 100000 in
set_option maxHeartbeats 1000000 in
theorem walk (a0 : Int) (w : World) (w0 : (Lit.int .i64 a0).wf = true) :
    Calls Try.prog 10 #[.int .i64 a0] w fun e w' => e = .returned (.bool true) ∧ Below w.heap.size w w' := by
  obtain ⟨h0, h1⟩ := i64_bd w0
  clear w0
  have hzz := Lib.zigzag_lt h0 h1
  have h10 := Lib.uvarint_length64 hzz
  have HM := Lib.hid (show mark a0 = uvarint (zigzag a0) from rfl)
  by_cases hn : 0 ≤ a0
  all_goals
    have hz : Hid (((zigzag a0 : Nat) : Int) = if 0 ≤ a0 then 2 * a0 else 2 * -(a0 + 1) + 1) := by unfold zigzag; show _ = _; split <;> omega
    first | rw [if_pos hn] at hz | rw [if_neg hn] at hz
    go_enter Try.func10, Try.ntmps10
    go_wp2
    go_loop [3, 4] (fun r m => ∃ (f k : Nat), f < 18446744073709551616 ∧ r = .int .u64 f ∧ m = .int .i64 ((k : Int) + 1) ∧ k + (uvarint f).length = (uvarint (zigzag a0)).length) (fun r _ => (intOf r).toNat)
    case atStart => exact ⟨zigzag a0, 0, hzz, by rw [hz.out], rfl, by omega⟩
    case round =>
      obtain ⟨f, k, hf, rfl, rfl, hlen⟩ := hrel
      have HE := Lib.hid hlen
      have hup := Lib.uvarint_pos f
      have hk : k + 1 ≤ 10 := by omega
      clear hlen
      by_cases hbig : 128 ≤ f
      · have hu := congrArg List.length (uvarint_big hbig)
        rw [List.length_cons] at hu
        have HU := Lib.hid hu
        clear hu
        go_wp2
        go_round
        case rel => exact ⟨f / 128, k + 1, by omega, by go_num, by go_num, by have := HE.out; have := HU.out; omega⟩
        case measure => simp [intOf]; omega
      · have hu := congrArg List.length (uvarint_small (show f < 128 by omega))
        have hml : (((mark a0).length : Int) == (k : Int) + 1) = true := beq_iff_eq.2 (by rw [HM.out]; have := HE.out; simp at hu; omega)
        have hle : decide ((k : Int) + 1 ≤ 10) = true := decide_eq_true (by omega)
        clear hu
        go_wp2_with fail
        refine (put_any _ _ h0 h1).mono ?_
        rintro e w1 ⟨rfl, hb1⟩
        go_wp2_with fail
        refine (works_any _).mono ?_
        rintro e w3 ⟨rfl, hb3⟩
        go_wp2_with fail
        go_ret
        exact ⟨rfl, hb1.trans (hb3.mono hb1.size)⟩
end Go.Proofs.Ytjmclohljmcedaa.marksFewW
