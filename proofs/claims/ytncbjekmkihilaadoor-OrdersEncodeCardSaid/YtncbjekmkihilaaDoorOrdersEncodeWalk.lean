/-
  The walk of the law OrdersEncode: it returns true and writes nothing that was there.
-/
import Derived.Test.YtncbjekmkihilaaDoorORef
import Derived.Test.YtncbjekmkihilaaDoorOWorks
namespace Go.Proofs.YtncbjekmkihilaaDoor.ordersEncodeW
open Go.RowKit Go.Sort
theorem encR_cases (o : Od) : ∃ (S : ByteArray) (e : Int), o.encR = .tuple #[.string S, .int .i64 e] := by
  unfold Od.encR
  split
  · exact ⟨_, _, rfl⟩
  · exact ⟨_, _, rfl⟩
set_option maxRecDepth 100000 in
set_option maxHeartbeats 4000000 in
theorem walk (o : Od) (w : World) (hA : Asked w) (hi : o.ints) : Calls Tryd.prog 3 #[o.v] w fun e w' => e = .returned (.bool true) ∧ Below w.heap.size w w' := by
  have h1 := fun X hX => encode_any o X hX hi
  have h2 := fun X => rencode_any o X hi
  have h3 := fun X hX => check_any o X hX
  have h4 := fun X => rcheck_any o X
  have h5 := works_any
  obtain ⟨S, er, hR⟩ := encR_cases o
  rw [hR] at h1 h2
  unfold NumPost at h3 h4 h5
  clear hi hR
  generalize o.err = ee at *
  obtain ⟨a, b, c, d, f⟩ := o
  simp only [Od.v] at *
  have H1 := Lib.hid h1
  have H2 := Lib.hid h2
  have H3 := Lib.hid h3
  have H4 := Lib.hid h4
  have H5 := Lib.hid h5
  clear h1 h2 h3 h4 h5
  have B0 := Box5.new w (.int .i64 a) (.int .i64 b) (.int .i64 c) (.int .i64 d) (.int .i64 f) 23
  have hbA : Below w.heap.size w (w.alloc (.cells #[.int .i64 a, .int .i64 b, .int .i64 c, .int .i64 d, .int .i64 f] 23)) := (Below.refl _ _).alloc (Nat.le_refl _) _
  have hA0 := hA.keep hbA
  go_enter Tryd.func3, Tryd.ntmps3
  go_wp2_with fail
  refine (H1.out _ hA0).mono ?_
  rintro e w1 ⟨rfl, hb1⟩
  have B1 := B0.later hb1
  have hbz := hbA.trans (hb1.mono hbA.size)
  clear hb1 hA0 H1 hbA
  obtain ⟨x0, x1, x2, x3, x4, xf, xs⟩ := id B1
  go_wp2_with fail
  refine (H2.out _).mono ?_
  rintro e w2 ⟨rfl, hb2⟩
  clear x0 x1 x2 x3 x4 xf xs H2
  obtain ⟨x0, x1, x2, x3, x4, xf, xs⟩ := B1.later hb2
  have hby := hbz.trans (hb2.mono hbz.size)
  have hA2 := hA.keep hby
  clear hb2 hbz B1 hA B0
  go_wp2_with fail
  have k0 : ∀ d' os, (grow (redrawn w2 d') os).cell? ⟨w.heap.size, 0, none⟩ = some (.int .i64 a) := fun d' os => cell_regrown x0 d' os
  have k1 : ∀ d' os, (grow (redrawn w2 d') os).cell? ⟨w.heap.size, 1, none⟩ = some (.int .i64 b) := fun d' os => cell_regrown x1 d' os
  have k2 : ∀ d' os, (grow (redrawn w2 d') os).cell? ⟨w.heap.size, 2, none⟩ = some (.int .i64 c) := fun d' os => cell_regrown x2 d' os
  have k3 : ∀ d' os, (grow (redrawn w2 d') os).cell? ⟨w.heap.size, 3, none⟩ = some (.int .i64 d) := fun d' os => cell_regrown x3 d' os
  have k4 : ∀ d' os, (grow (redrawn w2 d') os).cell? ⟨w.heap.size, 4, none⟩ = some (.int .i64 f) := fun d' os => cell_regrown x4 d' os
  have c1 : ∀ d' os, Calls Tryd.prog 11 #[.agg #[.int .i64 a, .int .i64 b, .int .i64 c, .int .i64 d, .int .i64 f]] (grow (redrawn w2 d') os) fun e w'' => e = .returned (.int .i64 ee) ∧ ∃ p : Regrown, w'' = grow (redrawn w2 p.d) p.os := fun d' os => Calls.regrown_of (H3.out _ (hA2.keep (below_regrown w2 d' os)))
  have c2 : ∀ d' os, Calls Tryd.prog 12 #[.agg #[.int .i64 a, .int .i64 b, .int .i64 c, .int .i64 d, .int .i64 f]] (grow (redrawn w2 d') os) fun e w'' => e = .returned (.int .i64 ee) ∧ ∃ p : Regrown, w'' = grow (redrawn w2 p.d) p.os := fun d' os => Calls.regrown_of (H4.out _)
  have c3 : ∀ d' os, Calls Tryd.prog 13 #[] (grow (redrawn w2 d') os) fun e w'' => e = .returned (.bool true) ∧ ∃ p : Regrown, w'' = grow (redrawn w2 p.d) p.os := fun d' os => Calls.regrown_of (H5.out _ (hA2.keep (below_regrown w2 d' os)))
  clear H3 H4 H5 x0 x1 x2 x3 x4 xf hA2
  refine wp_region_quiet_below (by kernel_rfl) (by kernel_rfl) ?_
  repeat (go_big_quiet_step (first | with_reducible exact c1 _ _ | with_reducible exact c2 _ _ | with_reducible exact c3 _ _))
  refine wpQuiet_nil ?_
  intro _ hw'
  obtain ⟨⟨dq, osq⟩, hw''⟩ := hw'
  subst hw''
  have hbq := below_regrown w2 dq osq
  generalize grow (redrawn w2 dq) osq = u2 at *
  clear k0 k1 k2 k3 k4 c1 c2 c3
  go_wp2_with fail
  go_ret
  exact ⟨rfl, hby.trans (hbq.mono hby.size)⟩
end Go.Proofs.YtncbjekmkihilaaDoor.ordersEncodeW
