/-
  The walk of the law FramesOne: it returns true and writes nothing that was there.
-/
import Derived.Test.YtkiccfnmnfeapaaFWorks
namespace Go.Proofs.Ytkiccfnmnfeapaa.framesOneW
open Go.RowKit
open Crc
theorem frameR_shape (p : List UInt8) : ∃ s n, frameR p = .tuple #[.string s, .int .i64 n] := by
  unfold frameR
  split
  · exact ⟨_, _, rfl⟩
  · exact ⟨_, _, rfl⟩
set_option maxRecDepth 100000 in
set_option maxHeartbeats 1000000 in
theorem walk (s : ByteArray) (w : World) (hs : s.size ≤ maxLen) :
    Calls Try.prog 3 #[.string s] w fun e w' => e = .returned (.bool true) ∧ Below w.heap.size w w' := by
  have HS := Lib.hid hs
  by_cases h1 : 20000 < s.size
  · have t1 : decide (20000 < (s.size : Int)) = true := decide_eq_true (by omega)
    go_enter Try.func3, Try.ntmps3
    go_wp2_with fail
    go_ret
    exact ⟨rfl, Below.refl _ _⟩
  · have t1 : decide (20000 < (s.size : Int)) = false := decide_eq_false (by omega)
    obtain ⟨f, n, hf⟩ := frameR_shape (tx s)
    have G1 := Lib.hid (fun X => frame_any s X hs)
    have G2 := Lib.hid (fun X => rframe_any s X hs)
    have HF := Lib.hid hf
    clear hf
    go_enter Try.func3, Try.ntmps3
    go_wp2_with fail
    refine (G1.out _).mono ?_
    rintro e w1 ⟨he, hb1⟩
    rw [HF.out] at he
    subst he
    go_wp2_with fail
    refine (G2.out _).mono ?_
    rintro e w2 ⟨he, hb2⟩
    rw [HF.out] at he
    subst he
    have h2 := hb1.trans (hb2.mono hb1.size)
    go_wp2_with fail
    refine (works_any _).mono ?_
    rintro e w3 ⟨rfl, hb3⟩
    go_wp2_with fail
    go_ret
    exact ⟨rfl, h2.trans (hb3.mono h2.size)⟩
end Go.Proofs.Ytkiccfnmnfeapaa.framesOneW
