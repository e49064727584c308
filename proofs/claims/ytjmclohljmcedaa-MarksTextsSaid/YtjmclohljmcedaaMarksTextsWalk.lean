/-
  The walk of the law MarksTexts: it returns true and writes nothing that was there.
-/
import Derived.Test.YtjmclohljmcedaaGetText
namespace Go.Proofs.Ytjmclohljmcedaa.marksTextsW
open Go.RowKit
set_option maxRecDepth 100000 in
set_option maxHeartbeats 1000000 in
theorem walk (a0 a1 : ByteArray) (a2 : Int) (w : World) (w0 : a0.size ≤ 140737488351232) (w1 : a1.size ≤ 140737488351232) (_w2 : (Lit.int .i64 a2).wf = true) :
    Calls Try.prog 5 #[.string a0, .string a1, .int .i64 a2] w fun e w' => e = .returned (.bool true) ∧ Below w.heap.size w w' := by
  rcases hg : gotText (bytesOf a1) a2 with _ | ⟨t, k⟩
  all_goals
    have HG := Lib.hid hg
    clear hg
    go_enter Try.func5, Try.ntmps5
    go_wp2_with fail
    refine (getText_any _ _ _ w1).mono ?_
    rintro e u1 ⟨hb1, he⟩
    rw [HG.out] at he
    simp only [textR] at he
    subst he
    go_wp2_with fail
    refine (rgetText_any _ _ _ w1).mono ?_
    rintro e u2 ⟨hb2, he⟩
    rw [HG.out] at he
    simp only [textR] at he
    subst he
    have h12 := hb1.trans (hb2.mono hb1.size)
    go_wp2_with fail
    refine (putText_any _ _ w0).mono ?_
    rintro e u3 ⟨rfl, hb3⟩
    have h13 := h12.trans (hb3.mono h12.size)
    go_wp2_with fail
    refine (rputText_any _ _ w0).mono ?_
    rintro e u4 ⟨rfl, hb4⟩
    have h14 := h13.trans (hb4.mono h13.size)
    go_wp2_with fail
    refine (works_any _).mono ?_
    rintro e u5 ⟨rfl, hb5⟩
    go_wp2_with fail
    go_ret
    exact ⟨rfl, h14.trans (hb5.mono h14.size)⟩
end Go.Proofs.Ytjmclohljmcedaa.marksTextsW
