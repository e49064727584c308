/-
  The walk of the law EpochsTurns.
-/
import Derived.Test.YtmdchepmojlbbaaRows
import Derived.Test.YtmdchepmojlbbaaEWorks
namespace Go.Proofs.Ytmdchepmojlbbaa.epochsTurnsW
open Go.RowKit
set_option maxRecDepth 100000 in
set_option maxHeartbeats 2000000 in
theorem walk (e s n : Int) (W : World) (_ : (Lit.int .i64 e).wf = true) (_ : (Lit.int .i64 s).wf = true) (_ : (Lit.int .i64 n).wf = true) :
    Calls Try.prog 3 #[.int .i64 e, .int .i64 s, .int .i64 n] W fun x W' => x = .returned (.bool true) ∧ Below W.heap.size W W' := by
  have H1 := Lib.hid (fun W => next_any e s n W)
  have H2 := Lib.hid (fun W => rnext_any e s n W)
  unfold nextV at H1 H2
  generalize (Epo.next e s n).1 = a at *
  generalize (Epo.next e s n).2 = b at *
  have H3 := Lib.hid (fun W => of_any e n W)
  have H4 := Lib.hid (fun W => rof_any e n W)
  generalize Epo.whose e n = o at *
  have H5 := Lib.hid (fun W => majority_any n W)
  have H6 := Lib.hid (fun W => rmajority_any n W)
  generalize Epo.maj n = m at *
  go_enter Try.func3, Try.ntmps3
  go_wp2_with fail
  refine (H1.out _).mono ?_
  rintro x w1 ⟨rfl, rfl⟩
  go_wp2_with fail
  refine (H2.out _).mono ?_
  rintro x w2 ⟨rfl, rfl⟩
  go_wp2_with fail
  refine (H3.out _).mono ?_
  rintro x w3 ⟨rfl, rfl⟩
  go_wp2_with fail
  refine (H4.out _).mono ?_
  rintro x w4 ⟨rfl, rfl⟩
  go_wp2_with fail
  refine (H5.out _).mono ?_
  rintro x w5 ⟨rfl, rfl⟩
  go_wp2_with fail
  refine (H6.out _).mono ?_
  rintro x w6 ⟨rfl, rfl⟩
  go_wp2_with fail
  refine (works_any _).mono ?_
  rintro x w7 ⟨rfl, hb⟩
  go_wp2_with fail
  go_ret
  exact ⟨rfl, hb⟩
end Go.Proofs.Ytmdchepmojlbbaa.epochsTurnsW
