/-
  The walk of the law MarksGet: it returns true and writes nothing that was there.
-/
import Derived.Test.YtjmclohljmcedaaWorks
namespace Go.Proofs.Ytjmclohljmcedaa.marksGetW
open Go.RowKit
open Go.Lib (uvarint zigzag unzigzag uvarint_small uvarint_big)
set_option maxRecDepth 100000 in
set_option maxHeartbeats 1000000 in
theorem walk (a0 : ByteArray) (a1 : Int) (w : World) (w0 : a0.size ≤ maxLen) (_w1 : (Lit.int .i64 a1).wf = true) :
    Calls Try.prog 4 #[.string a0, .int .i64 a1] w fun e w' => e = .returned (.bool true) ∧ Below w.heap.size w w' := by
  rcases hg : got (bytesOf a0) a1 with _ | ⟨n, k⟩
  all_goals
    have HG := Lib.hid hg
    clear hg
    go_enter Try.func4, Try.ntmps4
    go_wp2_with fail
    refine (get_any _ _ _ w0).mono ?_
    rintro e w1 ⟨rfl, he⟩
    rw [HG.out] at he
    simp only [getR] at he
    subst he
    go_wp2_with fail
    refine (rget_any _ _ _ w0).mono ?_
    rintro e w2 ⟨hb2, he⟩
    rw [HG.out] at he
    simp only [getR] at he
    subst he
    go_wp2_with fail
    refine (works_any _).mono ?_
    rintro e w3 ⟨rfl, hb3⟩
    go_wp2_with fail
    go_ret
    exact ⟨rfl, hb2.trans (hb3.mono hb2.size)⟩
end Go.Proofs.Ytjmclohljmcedaa.marksGetW
