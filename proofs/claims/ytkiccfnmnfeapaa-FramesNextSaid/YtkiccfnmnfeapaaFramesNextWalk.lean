/-
  The walk of the law FramesNext: it returns true and writes nothing that was there.
-/
import Derived.Test.YtkiccfnmnfeapaaFWorks
namespace Go.Proofs.Ytkiccfnmnfeapaa.framesNextW
open Go.RowKit
open Crc
theorem nextR_shape (g : Option (List UInt8 × Nat)) : ∃ s n b, nextR g = .tuple #[.string s, .int .i64 n, .bool b] := by
  rcases g with _ | ⟨p, q⟩
  · exact ⟨_, _, _, rfl⟩
  · exact ⟨_, _, _, rfl⟩
set_option maxRecDepth 100000 in
set_option maxHeartbeats 1000000 in
theorem walk (s : ByteArray) (a : Int) (w : World) (_hs : s.size ≤ maxLen) (_w1 : (Lit.int .i64 a).wf = true) :
    Calls Try.prog 4 #[.string s, .int .i64 a] w fun e w' => e = .returned (.bool true) ∧ Below w.heap.size w w' := by
  by_cases h1 : 20000 < s.size
  · have t1 : decide (20000 < (s.size : Int)) = true := decide_eq_true (by omega)
    go_enter Try.func4, Try.ntmps4
    go_wp2_with fail
    go_ret
    exact ⟨rfl, Below.refl _ _⟩
  · have t1 : decide (20000 < (s.size : Int)) = false := decide_eq_false (by omega)
    obtain ⟨p, n, b, hf⟩ := nextR_shape (nextOf (bytesOf s) a)
    have G1 := Lib.hid (fun X => next_any s a X (by omega))
    have G2 := Lib.hid (fun X => rnext_any s a X (by omega))
    have HF := Lib.hid hf
    clear hf
    cases b
    all_goals
      go_enter Try.func4, Try.ntmps4
      go_wp2_with fail
      refine (G1.out _).mono ?_
      rintro e w1 ⟨hb1, he⟩
      rw [HF.out] at he
      subst he
      go_wp2_with fail
      refine (G2.out _).mono ?_
      rintro e w2 ⟨hb2, he⟩
      rw [HF.out] at he
      subst he
      have h2 := hb1.trans (hb2.mono hb1.size)
      go_wp2_with fail
      refine (works_any _).mono ?_
      rintro e w3 ⟨rfl, hb3⟩
      go_wp2_with fail
      go_ret
      exact ⟨rfl, h2.trans (hb3.mono h2.size)⟩
end Go.Proofs.Ytkiccfnmnfeapaa.framesNextW
