/-
  The walk of the law OrdersDecode: it returns true and writes nothing that was there.
-/
import Derived.Test.YtncbjekmkihilaaDoorORDec
import Derived.Test.YtncbjekmkihilaaDoorOWorks
namespace Go.Proofs.YtncbjekmkihilaaDoor.ordersDecodeW
open Go.RowKit Go.Sort
theorem decR_cases (l : List UInt8) : ∃ (o : Od) (e : Int), decR l = .tuple #[o.v, .int .i64 e] := by
  unfold decR
  split
  · exact ⟨_, _, rfl⟩
  · exact ⟨_, _, rfl⟩
set_option maxRecDepth 100000 in
set_option maxHeartbeats 4000000 in
theorem walk (s : ByteArray) (w : World) (hA : Asked w) (hs : s.size ≤ maxLen) : Calls Tryd.prog 4 #[.string s] w fun e w' => e = .returned (.bool true) ∧ Below w.heap.size w w' := by
  have h1 := fun X hX => decode_any s X hX hs
  have h2 := fun X => rdecode_any s X hs
  obtain ⟨o, er, hR⟩ := decR_cases (bytesOf s)
  rw [hR] at h1 h2
  obtain ⟨a, b, c, d, f⟩ := o
  simp only [Od.v] at *
  have H1 := Lib.hid h1
  have H2 := Lib.hid h2
  have H3 := Lib.hid works_any
  clear h1 h2 hR hs
  go_enter Tryd.func4, Tryd.ntmps4
  go_wp2_with fail
  refine (H1.out _ hA).mono ?_
  rintro e w1 ⟨rfl, hb1⟩
  have B1 := Box5.new w1 (.int .i64 a) (.int .i64 b) (.int .i64 c) (.int .i64 d) (.int .i64 f) 23
  have hbz := hb1.alloc hb1.size (.cells #[.int .i64 a, .int .i64 b, .int .i64 c, .int .i64 d, .int .i64 f] 23)
  clear hb1
  go_wp2_with fail
  refine (H2.out _).mono ?_
  rintro e w2 ⟨rfl, hb2⟩
  obtain ⟨x0, x1, x2, x3, x4, xf, xs⟩ := B1.later hb2
  have hby := hbz.trans (hb2.mono hbz.size)
  have hb3 := hby.alloc hby.size (.cells #[.int .i64 a, .int .i64 b, .int .i64 c, .int .i64 d, .int .i64 f] 23)
  have hA3 := hA.keep hb3
  clear hb2 hbz hby B1
  go_wp2_with fail
  refine (H3.out _ hA3).mono ?_
  rintro e w4 ⟨rfl, hb4⟩
  have hbz := hb3.trans (hb4.mono hb3.size)
  go_wp2_with fail
  go_ret
  exact ⟨rfl, by repeat' (first | (with_reducible exact hbz) | (with_reducible refine below_drewN ?_ _) | (with_reducible refine Below.alloc ?_ ?_ _) | (with_reducible refine Below.setCell ?_ ?_ _) | go_size)⟩
end Go.Proofs.YtncbjekmkihilaaDoor.ordersDecodeW
