/-
  May of the document's mail: some kinds. May of the document's mail: some kinds. May of the document's mail: some kinds. May of the document's mail: some kinds.
-/
import Derived.Test.YtkdnhfeamibmdaaDoorMmHas
namespace Go.Proofs.YtkdnhfeamibmdaaDoor
open Go.RowKit Go.Sort
set_option maxRecDepth 100000 in
set_option maxHeartbeats 8000000 in
theorem rmay_m7 (fr tt st ep vi ba le sp oi os oe ok oa ai ac av n : Int) (ne c : Nat) (A : Option Addr) (mb om : Bool) (w : World)
    (HM : Hid (mb = true ↔ 2 ≤ n ∧ n ≤ 7 ∧ 0 ≤ fr ∧ fr < n ∧ 0 ≤ tt ∧ tt < n ∧ 0 ≤ st ∧ st ≤ 3 ∧ st = 0 ∧ ep = 0 ∧ vi = 0 ∧ ba = 0 ∧ le = 0 ∧ sp = 0 ∧ ne = 0 ∧ om = true ∧ ai = 0 ∧ ac = 0 ∧ av = 0))
    (HO : Hid (∀ X, Calls Tryd.prog 73 #[.agg #[.int .i64 oi, .int .i64 os, .int .i64 oe, .int .i64 ok, .int .i64 oa]] X (NumPost (.bool om) X)))
    : Calls Tryd.prog 44 #[.agg #[.int .i64 7, .int .i64 fr, .int .i64 tt, .int .i64 st, .int .i64 ep, .int .i64 vi, .int .i64 ba, .int .i64 le, .int .i64 sp, .slice A ne c, .int .i64 oi, .int .i64 os, .int .i64 oe, .int .i64 ok, .int .i64 oa, .int .i64 ai, .int .i64 ac, .int .i64 av], .int .i64 n] w (NumPost (.bool mb) w) := by
  obtain ⟨w0, HW0⟩ : ∃ W, Hid (W = w.alloc (.cells #[.int .i64 7, .int .i64 fr, .int .i64 tt, .int .i64 st, .int .i64 ep, .int .i64 vi, .int .i64 ba, .int .i64 le, .int .i64 sp, .slice A ne c, .int .i64 oi, .int .i64 os, .int .i64 oe, .int .i64 ok, .int .i64 oa, .int .i64 ai, .int .i64 ac, .int .i64 av] 45)) := ⟨_, Lib.hid rfl⟩
  have h0 : Below w.heap.size w w0 := by rw [HW0.out]; exact (Below.refl _ _).alloc (Nat.le_refl _) _
  have hX0 : w0.heap[w.heap.size]? = some (.cells #[.int .i64 7, .int .i64 fr, .int .i64 tt, .int .i64 st, .int .i64 ep, .int .i64 vi, .int .i64 ba, .int .i64 le, .int .i64 sp, .slice A ne c, .int .i64 oi, .int .i64 os, .int .i64 oe, .int .i64 ok, .int .i64 oa, .int .i64 ai, .int .i64 ac, .int .i64 av] 45 (0, 0)) := by rw [HW0.out]; exact heap_alloc_new _ _
  have hs0 : w.heap.size < w0.heap.size := by rw [HW0.out]; simp
  have c0 : w0.cell? ⟨w.heap.size, 0, none⟩ = some (.int .i64 7) := (by rw [Lib.cell_of_heap hX0]; rfl)
  have c1 : w0.cell? ⟨w.heap.size, 1, none⟩ = some (.int .i64 fr) := (by rw [Lib.cell_of_heap hX0]; rfl)
  have c2 : w0.cell? ⟨w.heap.size, 2, none⟩ = some (.int .i64 tt) := (by rw [Lib.cell_of_heap hX0]; rfl)
  have c3 : w0.cell? ⟨w.heap.size, 3, none⟩ = some (.int .i64 st) := (by rw [Lib.cell_of_heap hX0]; rfl)
  have c4 : w0.cell? ⟨w.heap.size, 4, none⟩ = some (.int .i64 ep) := (by rw [Lib.cell_of_heap hX0]; rfl)
  have c5 : w0.cell? ⟨w.heap.size, 5, none⟩ = some (.int .i64 vi) := (by rw [Lib.cell_of_heap hX0]; rfl)
  have c6 : w0.cell? ⟨w.heap.size, 6, none⟩ = some (.int .i64 ba) := (by rw [Lib.cell_of_heap hX0]; rfl)
  have c7 : w0.cell? ⟨w.heap.size, 7, none⟩ = some (.int .i64 le) := (by rw [Lib.cell_of_heap hX0]; rfl)
  have c8 : w0.cell? ⟨w.heap.size, 8, none⟩ = some (.int .i64 sp) := (by rw [Lib.cell_of_heap hX0]; rfl)
  have c9 : w0.cell? ⟨w.heap.size, 9, none⟩ = some (.slice A ne c) := (by rw [Lib.cell_of_heap hX0]; rfl)
  have c10 : w0.cell? ⟨w.heap.size, 10, none⟩ = some (.int .i64 oi) := (by rw [Lib.cell_of_heap hX0]; rfl)
  have c11 : w0.cell? ⟨w.heap.size, 11, none⟩ = some (.int .i64 os) := (by rw [Lib.cell_of_heap hX0]; rfl)
  have c12 : w0.cell? ⟨w.heap.size, 12, none⟩ = some (.int .i64 oe) := (by rw [Lib.cell_of_heap hX0]; rfl)
  have c13 : w0.cell? ⟨w.heap.size, 13, none⟩ = some (.int .i64 ok) := (by rw [Lib.cell_of_heap hX0]; rfl)
  have c14 : w0.cell? ⟨w.heap.size, 14, none⟩ = some (.int .i64 oa) := (by rw [Lib.cell_of_heap hX0]; rfl)
  have c15 : w0.cell? ⟨w.heap.size, 15, none⟩ = some (.int .i64 ai) := (by rw [Lib.cell_of_heap hX0]; rfl)
  have c16 : w0.cell? ⟨w.heap.size, 16, none⟩ = some (.int .i64 ac) := (by rw [Lib.cell_of_heap hX0]; rfl)
  have c17 : w0.cell? ⟨w.heap.size, 17, none⟩ = some (.int .i64 av) := (by rw [Lib.cell_of_heap hX0]; rfl)
  have HB0 := Lib.hid h0
  have HX0 := Lib.hid hX0
  clear h0 hX0
  go_enter Tryd.func44, Tryd.ntmps44
  have HZ := fun X => has_none false false false false false false true false X
  simp at HZ
  go_wp2_with (first | rw [← HW0.out] | rw [← HW2.out] | rw [HZ] | (go_at_call 69; (refine (rsites_any _ _).mono ?_); rintro e w' ⟨rfl, rfl⟩) | (go_at_call 70; (refine (rhas_7 _).mono ?_); rintro e w1 ⟨rfl, hb⟩; (obtain ⟨w2, HW2⟩ : ∃ W, Hid (W = w1.alloc (.cells #[.bool false, .bool false, .bool false, .bool false, .bool false, .bool false, .bool true, .bool false] 117)) := ⟨_, Lib.hid rfl⟩); have hs1 : w.heap.size < w1.heap.size := Nat.lt_of_lt_of_le hs0 hb.size; have hb2 : Below w1.heap.size w1 w2 := (by rw [HW2.out]; exact (Below.refl _ _).alloc (Nat.le_refl _) _); have HH2 : Hid (w2.heap[w1.heap.size]? = some (.cells #[.bool false, .bool false, .bool false, .bool false, .bool false, .bool false, .bool true, .bool false] 117 (0, 0))) := (by show _ = _; rw [HW2.out]; exact heap_alloc_new _ _); have hs2 : w1.heap.size < w2.heap.size := (by rw [HW2.out]; simp); have HB1 := Lib.hid (HB0.out.trans (hb.mono HB0.out.size)); have HB2 := Lib.hid (HB1.out.trans (hb2.mono HB1.out.size)); have HX2 := Lib.hid ((hb2.block w.heap.size hs1).trans ((hb.block w.heap.size hs0).trans HX0.out)); have d0 : w2.cell? ⟨w.heap.size, 0, none⟩ = some (.int .i64 7) := (by rw [Lib.cell_of_heap HX2.out]; rfl); have d1 : w2.cell? ⟨w.heap.size, 1, none⟩ = some (.int .i64 fr) := (by rw [Lib.cell_of_heap HX2.out]; rfl); have d2 : w2.cell? ⟨w.heap.size, 2, none⟩ = some (.int .i64 tt) := (by rw [Lib.cell_of_heap HX2.out]; rfl); have d3 : w2.cell? ⟨w.heap.size, 3, none⟩ = some (.int .i64 st) := (by rw [Lib.cell_of_heap HX2.out]; rfl); have d4 : w2.cell? ⟨w.heap.size, 4, none⟩ = some (.int .i64 ep) := (by rw [Lib.cell_of_heap HX2.out]; rfl); have d5 : w2.cell? ⟨w.heap.size, 5, none⟩ = some (.int .i64 vi) := (by rw [Lib.cell_of_heap HX2.out]; rfl); have d6 : w2.cell? ⟨w.heap.size, 6, none⟩ = some (.int .i64 ba) := (by rw [Lib.cell_of_heap HX2.out]; rfl); have d7 : w2.cell? ⟨w.heap.size, 7, none⟩ = some (.int .i64 le) := (by rw [Lib.cell_of_heap HX2.out]; rfl); have d8 : w2.cell? ⟨w.heap.size, 8, none⟩ = some (.int .i64 sp) := (by rw [Lib.cell_of_heap HX2.out]; rfl); have d9 : w2.cell? ⟨w.heap.size, 9, none⟩ = some (.slice A ne c) := (by rw [Lib.cell_of_heap HX2.out]; rfl); have d10 : w2.cell? ⟨w.heap.size, 10, none⟩ = some (.int .i64 oi) := (by rw [Lib.cell_of_heap HX2.out]; rfl); have d11 : w2.cell? ⟨w.heap.size, 11, none⟩ = some (.int .i64 os) := (by rw [Lib.cell_of_heap HX2.out]; rfl); have d12 : w2.cell? ⟨w.heap.size, 12, none⟩ = some (.int .i64 oe) := (by rw [Lib.cell_of_heap HX2.out]; rfl); have d13 : w2.cell? ⟨w.heap.size, 13, none⟩ = some (.int .i64 ok) := (by rw [Lib.cell_of_heap HX2.out]; rfl); have d14 : w2.cell? ⟨w.heap.size, 14, none⟩ = some (.int .i64 oa) := (by rw [Lib.cell_of_heap HX2.out]; rfl); have d15 : w2.cell? ⟨w.heap.size, 15, none⟩ = some (.int .i64 ai) := (by rw [Lib.cell_of_heap HX2.out]; rfl); have d16 : w2.cell? ⟨w.heap.size, 16, none⟩ = some (.int .i64 ac) := (by rw [Lib.cell_of_heap HX2.out]; rfl); have d17 : w2.cell? ⟨w.heap.size, 17, none⟩ = some (.int .i64 av) := (by rw [Lib.cell_of_heap HX2.out]; rfl); have b0 : w2.cell? ⟨w1.heap.size, 0, none⟩ = some (.bool false) := (by rw [Lib.cell_of_heap HH2.out]; rfl); have b1 : w2.cell? ⟨w1.heap.size, 1, none⟩ = some (.bool false) := (by rw [Lib.cell_of_heap HH2.out]; rfl); have b2 : w2.cell? ⟨w1.heap.size, 2, none⟩ = some (.bool false) := (by rw [Lib.cell_of_heap HH2.out]; rfl); have b3 : w2.cell? ⟨w1.heap.size, 3, none⟩ = some (.bool false) := (by rw [Lib.cell_of_heap HH2.out]; rfl); have b4 : w2.cell? ⟨w1.heap.size, 4, none⟩ = some (.bool false) := (by rw [Lib.cell_of_heap HH2.out]; rfl); have b5 : w2.cell? ⟨w1.heap.size, 5, none⟩ = some (.bool false) := (by rw [Lib.cell_of_heap HH2.out]; rfl); have b6 : w2.cell? ⟨w1.heap.size, 6, none⟩ = some (.bool true) := (by rw [Lib.cell_of_heap HH2.out]; rfl); have b7 : w2.cell? ⟨w1.heap.size, 7, none⟩ = some (.bool false) := (by rw [Lib.cell_of_heap HH2.out]; rfl); clear hb hb2 c0 c1 c2 c3 c4 c5 c6 c7 c8 c9 c10 c11 c12 c13 c14 c15 c16 c17) | (go_at_call 56; (refine (rstream_any _ _).mono ?_); rintro e w' ⟨rfl, rfl⟩) | (go_at_call 57; (refine (repoch_any _ _ _).mono ?_); rintro e w' ⟨rfl, rfl⟩) | (go_at_call 71; (refine (rlength_any _ _).mono ?_); rintro e w' ⟨rfl, rfl⟩) | (go_at_call 73; (refine (HO.out _).mono ?_); rintro e w5 ⟨rfl, hb⟩; have hs5 : w1.heap.size < w5.heap.size := Nat.lt_of_lt_of_le hs2 hb.size; have hs6 : w.heap.size < w5.heap.size := (by omega); have HB5 := Lib.hid (HB2.out.trans (hb.mono HB2.out.size)); have HX5 := Lib.hid ((hb.block w.heap.size (by omega)).trans HX2.out); have HH5 := Lib.hid ((hb.block w1.heap.size hs2).trans HH2.out); clear d0 d1 d2 d3 d4 d5 d6 d7 d8 d9 d10 d11 d12 d13 d14 d15 d16 d17 b0 b1 b2 b3 b4 b5 b6 b7; have d0 : w5.cell? ⟨w.heap.size, 0, none⟩ = some (.int .i64 7) := (by rw [Lib.cell_of_heap HX5.out]; rfl); have d1 : w5.cell? ⟨w.heap.size, 1, none⟩ = some (.int .i64 fr) := (by rw [Lib.cell_of_heap HX5.out]; rfl); have d2 : w5.cell? ⟨w.heap.size, 2, none⟩ = some (.int .i64 tt) := (by rw [Lib.cell_of_heap HX5.out]; rfl); have d3 : w5.cell? ⟨w.heap.size, 3, none⟩ = some (.int .i64 st) := (by rw [Lib.cell_of_heap HX5.out]; rfl); have d4 : w5.cell? ⟨w.heap.size, 4, none⟩ = some (.int .i64 ep) := (by rw [Lib.cell_of_heap HX5.out]; rfl); have d5 : w5.cell? ⟨w.heap.size, 5, none⟩ = some (.int .i64 vi) := (by rw [Lib.cell_of_heap HX5.out]; rfl); have d6 : w5.cell? ⟨w.heap.size, 6, none⟩ = some (.int .i64 ba) := (by rw [Lib.cell_of_heap HX5.out]; rfl); have d7 : w5.cell? ⟨w.heap.size, 7, none⟩ = some (.int .i64 le) := (by rw [Lib.cell_of_heap HX5.out]; rfl); have d8 : w5.cell? ⟨w.heap.size, 8, none⟩ = some (.int .i64 sp) := (by rw [Lib.cell_of_heap HX5.out]; rfl); have d9 : w5.cell? ⟨w.heap.size, 9, none⟩ = some (.slice A ne c) := (by rw [Lib.cell_of_heap HX5.out]; rfl); have d10 : w5.cell? ⟨w.heap.size, 10, none⟩ = some (.int .i64 oi) := (by rw [Lib.cell_of_heap HX5.out]; rfl); have d11 : w5.cell? ⟨w.heap.size, 11, none⟩ = some (.int .i64 os) := (by rw [Lib.cell_of_heap HX5.out]; rfl); have d12 : w5.cell? ⟨w.heap.size, 12, none⟩ = some (.int .i64 oe) := (by rw [Lib.cell_of_heap HX5.out]; rfl); have d13 : w5.cell? ⟨w.heap.size, 13, none⟩ = some (.int .i64 ok) := (by rw [Lib.cell_of_heap HX5.out]; rfl); have d14 : w5.cell? ⟨w.heap.size, 14, none⟩ = some (.int .i64 oa) := (by rw [Lib.cell_of_heap HX5.out]; rfl); have d15 : w5.cell? ⟨w.heap.size, 15, none⟩ = some (.int .i64 ai) := (by rw [Lib.cell_of_heap HX5.out]; rfl); have d16 : w5.cell? ⟨w.heap.size, 16, none⟩ = some (.int .i64 ac) := (by rw [Lib.cell_of_heap HX5.out]; rfl); have d17 : w5.cell? ⟨w.heap.size, 17, none⟩ = some (.int .i64 av) := (by rw [Lib.cell_of_heap HX5.out]; rfl); have b0 : w5.cell? ⟨w1.heap.size, 0, none⟩ = some (.bool false) := (by rw [Lib.cell_of_heap HH5.out]; rfl); have b1 : w5.cell? ⟨w1.heap.size, 1, none⟩ = some (.bool false) := (by rw [Lib.cell_of_heap HH5.out]; rfl); have b2 : w5.cell? ⟨w1.heap.size, 2, none⟩ = some (.bool false) := (by rw [Lib.cell_of_heap HH5.out]; rfl); have b3 : w5.cell? ⟨w1.heap.size, 3, none⟩ = some (.bool false) := (by rw [Lib.cell_of_heap HH5.out]; rfl); have b4 : w5.cell? ⟨w1.heap.size, 4, none⟩ = some (.bool false) := (by rw [Lib.cell_of_heap HH5.out]; rfl); have b5 : w5.cell? ⟨w1.heap.size, 5, none⟩ = some (.bool false) := (by rw [Lib.cell_of_heap HH5.out]; rfl); have b6 : w5.cell? ⟨w1.heap.size, 6, none⟩ = some (.bool true) := (by rw [Lib.cell_of_heap HH5.out]; rfl); have b7 : w5.cell? ⟨w1.heap.size, 7, none⟩ = some (.bool false) := (by rw [Lib.cell_of_heap HH5.out]; rfl); clear hb))
  all_goals
    go_ret
    refine ⟨ret_bool ?_, by repeat' (first | (with_reducible assumption) | (with_reducible exact HB5.out) | (with_reducible exact HB2.out) | (with_reducible exact HB1.out) | (with_reducible exact HB0.out) | (with_reducible exact Below.refl _ _) | (with_reducible refine below_drewN ?_ _) | (with_reducible refine Below.alloc ?_ ?_ _) | (with_reducible refine Below.setCell ?_ ?_ _) | go_size)⟩
    have hm := HM.out
    clear HM HW0 HB0 HX0
    (try clear HB5 HX5 HH5 hs5 hs6)
    (try clear HB1 HB2 HX2 HH2 HW2 hs1 hs2 b0 b1 b2 b3 b4 b5 b6 b7)
    (try clear c0 c1 c2 c3 c4 c5 c6 c7 c8 c9 c10 c11 c12 c13 c14 c15 c16 c17)
    (try clear d0 d1 d2 d3 d4 d5 d6 d7 d8 d9 d10 d11 d12 d13 d14 d15 d16 d17)
    rw [Bool.eq_iff_iff, hm]
    clear hm
    (try clear HL)
    (try clear HO)
    (try clear HWR)
    cases om
    all_goals
    simp [inb] at *
    (try omega)
end Go.Proofs.YtkdnhfeamibmdaaDoor
namespace Go.Proofs.YtkdnhfeamibmdaaDoor
open Go.RowKit Go.Sort
set_option maxRecDepth 100000 in
set_option maxHeartbeats 8000000 in
theorem rmay_m8 (fr tt st ep vi ba le sp oi os oe ok oa ai ac av n : Int) (ne c : Nat) (A : Option Addr) (mb : Bool) (w : World)
    (HM : Hid (mb = true ↔ 2 ≤ n ∧ n ≤ 7 ∧ 0 ≤ fr ∧ fr < n ∧ 0 ≤ tt ∧ tt < n ∧ 0 ≤ st ∧ st ≤ 3 ∧ ep = 0 ∧ vi = 0 ∧ ba = 0 ∧ le = 0 ∧ sp = 0 ∧ ne = 0 ∧ oi = 0 ∧ os = 0 ∧ oe = 0 ∧ ok = 0 ∧ oa = 0 ∧ 1 ≤ ai ∧ ai ≤ 2147483647 ∧ 1 ≤ ac ∧ ac ≤ 7 ∧ 0 ≤ av ∧ av ≤ 64))
    : Calls Tryd.prog 44 #[.agg #[.int .i64 8, .int .i64 fr, .int .i64 tt, .int .i64 st, .int .i64 ep, .int .i64 vi, .int .i64 ba, .int .i64 le, .int .i64 sp, .slice A ne c, .int .i64 oi, .int .i64 os, .int .i64 oe, .int .i64 ok, .int .i64 oa, .int .i64 ai, .int .i64 ac, .int .i64 av], .int .i64 n] w (NumPost (.bool mb) w) := by
  obtain ⟨w0, HW0⟩ : ∃ W, Hid (W = w.alloc (.cells #[.int .i64 8, .int .i64 fr, .int .i64 tt, .int .i64 st, .int .i64 ep, .int .i64 vi, .int .i64 ba, .int .i64 le, .int .i64 sp, .slice A ne c, .int .i64 oi, .int .i64 os, .int .i64 oe, .int .i64 ok, .int .i64 oa, .int .i64 ai, .int .i64 ac, .int .i64 av] 45)) := ⟨_, Lib.hid rfl⟩
  have h0 : Below w.heap.size w w0 := by rw [HW0.out]; exact (Below.refl _ _).alloc (Nat.le_refl _) _
  have hX0 : w0.heap[w.heap.size]? = some (.cells #[.int .i64 8, .int .i64 fr, .int .i64 tt, .int .i64 st, .int .i64 ep, .int .i64 vi, .int .i64 ba, .int .i64 le, .int .i64 sp, .slice A ne c, .int .i64 oi, .int .i64 os, .int .i64 oe, .int .i64 ok, .int .i64 oa, .int .i64 ai, .int .i64 ac, .int .i64 av] 45 (0, 0)) := by rw [HW0.out]; exact heap_alloc_new _ _
  have hs0 : w.heap.size < w0.heap.size := by rw [HW0.out]; simp
  have c0 : w0.cell? ⟨w.heap.size, 0, none⟩ = some (.int .i64 8) := (by rw [Lib.cell_of_heap hX0]; rfl)
  have c1 : w0.cell? ⟨w.heap.size, 1, none⟩ = some (.int .i64 fr) := (by rw [Lib.cell_of_heap hX0]; rfl)
  have c2 : w0.cell? ⟨w.heap.size, 2, none⟩ = some (.int .i64 tt) := (by rw [Lib.cell_of_heap hX0]; rfl)
  have c3 : w0.cell? ⟨w.heap.size, 3, none⟩ = some (.int .i64 st) := (by rw [Lib.cell_of_heap hX0]; rfl)
  have c4 : w0.cell? ⟨w.heap.size, 4, none⟩ = some (.int .i64 ep) := (by rw [Lib.cell_of_heap hX0]; rfl)
  have c5 : w0.cell? ⟨w.heap.size, 5, none⟩ = some (.int .i64 vi) := (by rw [Lib.cell_of_heap hX0]; rfl)
  have c6 : w0.cell? ⟨w.heap.size, 6, none⟩ = some (.int .i64 ba) := (by rw [Lib.cell_of_heap hX0]; rfl)
  have c7 : w0.cell? ⟨w.heap.size, 7, none⟩ = some (.int .i64 le) := (by rw [Lib.cell_of_heap hX0]; rfl)
  have c8 : w0.cell? ⟨w.heap.size, 8, none⟩ = some (.int .i64 sp) := (by rw [Lib.cell_of_heap hX0]; rfl)
  have c9 : w0.cell? ⟨w.heap.size, 9, none⟩ = some (.slice A ne c) := (by rw [Lib.cell_of_heap hX0]; rfl)
  have c10 : w0.cell? ⟨w.heap.size, 10, none⟩ = some (.int .i64 oi) := (by rw [Lib.cell_of_heap hX0]; rfl)
  have c11 : w0.cell? ⟨w.heap.size, 11, none⟩ = some (.int .i64 os) := (by rw [Lib.cell_of_heap hX0]; rfl)
  have c12 : w0.cell? ⟨w.heap.size, 12, none⟩ = some (.int .i64 oe) := (by rw [Lib.cell_of_heap hX0]; rfl)
  have c13 : w0.cell? ⟨w.heap.size, 13, none⟩ = some (.int .i64 ok) := (by rw [Lib.cell_of_heap hX0]; rfl)
  have c14 : w0.cell? ⟨w.heap.size, 14, none⟩ = some (.int .i64 oa) := (by rw [Lib.cell_of_heap hX0]; rfl)
  have c15 : w0.cell? ⟨w.heap.size, 15, none⟩ = some (.int .i64 ai) := (by rw [Lib.cell_of_heap hX0]; rfl)
  have c16 : w0.cell? ⟨w.heap.size, 16, none⟩ = some (.int .i64 ac) := (by rw [Lib.cell_of_heap hX0]; rfl)
  have c17 : w0.cell? ⟨w.heap.size, 17, none⟩ = some (.int .i64 av) := (by rw [Lib.cell_of_heap hX0]; rfl)
  have HB0 := Lib.hid h0
  have HX0 := Lib.hid hX0
  clear h0 hX0
  go_enter Tryd.func44, Tryd.ntmps44
  have HZ := fun X => has_none false false false false false false false true X
  simp at HZ
  go_wp2_with (first | rw [← HW0.out] | rw [← HW2.out] | rw [HZ] | (go_at_call 69; (refine (rsites_any _ _).mono ?_); rintro e w' ⟨rfl, rfl⟩) | (go_at_call 70; (refine (rhas_8 _).mono ?_); rintro e w1 ⟨rfl, hb⟩; (obtain ⟨w2, HW2⟩ : ∃ W, Hid (W = w1.alloc (.cells #[.bool false, .bool false, .bool false, .bool false, .bool false, .bool false, .bool false, .bool true] 117)) := ⟨_, Lib.hid rfl⟩); have hs1 : w.heap.size < w1.heap.size := Nat.lt_of_lt_of_le hs0 hb.size; have hb2 : Below w1.heap.size w1 w2 := (by rw [HW2.out]; exact (Below.refl _ _).alloc (Nat.le_refl _) _); have HH2 : Hid (w2.heap[w1.heap.size]? = some (.cells #[.bool false, .bool false, .bool false, .bool false, .bool false, .bool false, .bool false, .bool true] 117 (0, 0))) := (by show _ = _; rw [HW2.out]; exact heap_alloc_new _ _); have hs2 : w1.heap.size < w2.heap.size := (by rw [HW2.out]; simp); have HB1 := Lib.hid (HB0.out.trans (hb.mono HB0.out.size)); have HB2 := Lib.hid (HB1.out.trans (hb2.mono HB1.out.size)); have HX2 := Lib.hid ((hb2.block w.heap.size hs1).trans ((hb.block w.heap.size hs0).trans HX0.out)); have d0 : w2.cell? ⟨w.heap.size, 0, none⟩ = some (.int .i64 8) := (by rw [Lib.cell_of_heap HX2.out]; rfl); have d1 : w2.cell? ⟨w.heap.size, 1, none⟩ = some (.int .i64 fr) := (by rw [Lib.cell_of_heap HX2.out]; rfl); have d2 : w2.cell? ⟨w.heap.size, 2, none⟩ = some (.int .i64 tt) := (by rw [Lib.cell_of_heap HX2.out]; rfl); have d3 : w2.cell? ⟨w.heap.size, 3, none⟩ = some (.int .i64 st) := (by rw [Lib.cell_of_heap HX2.out]; rfl); have d4 : w2.cell? ⟨w.heap.size, 4, none⟩ = some (.int .i64 ep) := (by rw [Lib.cell_of_heap HX2.out]; rfl); have d5 : w2.cell? ⟨w.heap.size, 5, none⟩ = some (.int .i64 vi) := (by rw [Lib.cell_of_heap HX2.out]; rfl); have d6 : w2.cell? ⟨w.heap.size, 6, none⟩ = some (.int .i64 ba) := (by rw [Lib.cell_of_heap HX2.out]; rfl); have d7 : w2.cell? ⟨w.heap.size, 7, none⟩ = some (.int .i64 le) := (by rw [Lib.cell_of_heap HX2.out]; rfl); have d8 : w2.cell? ⟨w.heap.size, 8, none⟩ = some (.int .i64 sp) := (by rw [Lib.cell_of_heap HX2.out]; rfl); have d9 : w2.cell? ⟨w.heap.size, 9, none⟩ = some (.slice A ne c) := (by rw [Lib.cell_of_heap HX2.out]; rfl); have d10 : w2.cell? ⟨w.heap.size, 10, none⟩ = some (.int .i64 oi) := (by rw [Lib.cell_of_heap HX2.out]; rfl); have d11 : w2.cell? ⟨w.heap.size, 11, none⟩ = some (.int .i64 os) := (by rw [Lib.cell_of_heap HX2.out]; rfl); have d12 : w2.cell? ⟨w.heap.size, 12, none⟩ = some (.int .i64 oe) := (by rw [Lib.cell_of_heap HX2.out]; rfl); have d13 : w2.cell? ⟨w.heap.size, 13, none⟩ = some (.int .i64 ok) := (by rw [Lib.cell_of_heap HX2.out]; rfl); have d14 : w2.cell? ⟨w.heap.size, 14, none⟩ = some (.int .i64 oa) := (by rw [Lib.cell_of_heap HX2.out]; rfl); have d15 : w2.cell? ⟨w.heap.size, 15, none⟩ = some (.int .i64 ai) := (by rw [Lib.cell_of_heap HX2.out]; rfl); have d16 : w2.cell? ⟨w.heap.size, 16, none⟩ = some (.int .i64 ac) := (by rw [Lib.cell_of_heap HX2.out]; rfl); have d17 : w2.cell? ⟨w.heap.size, 17, none⟩ = some (.int .i64 av) := (by rw [Lib.cell_of_heap HX2.out]; rfl); have b0 : w2.cell? ⟨w1.heap.size, 0, none⟩ = some (.bool false) := (by rw [Lib.cell_of_heap HH2.out]; rfl); have b1 : w2.cell? ⟨w1.heap.size, 1, none⟩ = some (.bool false) := (by rw [Lib.cell_of_heap HH2.out]; rfl); have b2 : w2.cell? ⟨w1.heap.size, 2, none⟩ = some (.bool false) := (by rw [Lib.cell_of_heap HH2.out]; rfl); have b3 : w2.cell? ⟨w1.heap.size, 3, none⟩ = some (.bool false) := (by rw [Lib.cell_of_heap HH2.out]; rfl); have b4 : w2.cell? ⟨w1.heap.size, 4, none⟩ = some (.bool false) := (by rw [Lib.cell_of_heap HH2.out]; rfl); have b5 : w2.cell? ⟨w1.heap.size, 5, none⟩ = some (.bool false) := (by rw [Lib.cell_of_heap HH2.out]; rfl); have b6 : w2.cell? ⟨w1.heap.size, 6, none⟩ = some (.bool false) := (by rw [Lib.cell_of_heap HH2.out]; rfl); have b7 : w2.cell? ⟨w1.heap.size, 7, none⟩ = some (.bool true) := (by rw [Lib.cell_of_heap HH2.out]; rfl); clear hb hb2 c0 c1 c2 c3 c4 c5 c6 c7 c8 c9 c10 c11 c12 c13 c14 c15 c16 c17) | (go_at_call 56; (refine (rstream_any _ _).mono ?_); rintro e w' ⟨rfl, rfl⟩) | (go_at_call 57; (refine (repoch_any _ _ _).mono ?_); rintro e w' ⟨rfl, rfl⟩) | (go_at_call 71; (refine (rlength_any _ _).mono ?_); rintro e w' ⟨rfl, rfl⟩))
  all_goals
    go_ret
    refine ⟨ret_bool ?_, by repeat' (first | (with_reducible assumption) | (with_reducible exact HB2.out) | (with_reducible exact HB1.out) | (with_reducible exact HB0.out) | (with_reducible exact Below.refl _ _) | (with_reducible refine below_drewN ?_ _) | (with_reducible refine Below.alloc ?_ ?_ _) | (with_reducible refine Below.setCell ?_ ?_ _) | go_size)⟩
    have hm := HM.out
    clear HM HW0 HB0 HX0
    (try clear HB1 HB2 HX2 HH2 HW2 hs1 hs2 b0 b1 b2 b3 b4 b5 b6 b7)
    (try clear c0 c1 c2 c3 c4 c5 c6 c7 c8 c9 c10 c11 c12 c13 c14 c15 c16 c17)
    (try clear d0 d1 d2 d3 d4 d5 d6 d7 d8 d9 d10 d11 d12 d13 d14 d15 d16 d17)
    rw [Bool.eq_iff_iff, hm]
    clear hm
    simp [inb] at *
    (try omega)
end Go.Proofs.YtkdnhfeamibmdaaDoor
namespace Go.Proofs.YtkdnhfeamibmdaaDoor
open Go.RowKit Go.Sort
set_option maxRecDepth 100000 in
set_option maxHeartbeats 8000000 in
theorem rmay_m9 (fr tt st ep vi ba le sp oi os oe ok oa ai ac av n : Int) (ne c : Nat) (A : Option Addr) (mb : Bool) (w : World)
    (HM : Hid (mb = true ↔ 2 ≤ n ∧ n ≤ 7 ∧ 0 ≤ fr ∧ fr < n ∧ 0 ≤ tt ∧ tt < n ∧ 0 ≤ st ∧ st ≤ 3 ∧ 1 ≤ ep ∧ ep ≤ 1048576 ∧ vi = 0 ∧ ba = 0 ∧ le = 0 ∧ sp = 0 ∧ ne = 0 ∧ oi = 0 ∧ os = 0 ∧ oe = 0 ∧ ok = 0 ∧ oa = 0 ∧ ai = 0 ∧ ac = 0 ∧ av = 0))
    : Calls Tryd.prog 44 #[.agg #[.int .i64 9, .int .i64 fr, .int .i64 tt, .int .i64 st, .int .i64 ep, .int .i64 vi, .int .i64 ba, .int .i64 le, .int .i64 sp, .slice A ne c, .int .i64 oi, .int .i64 os, .int .i64 oe, .int .i64 ok, .int .i64 oa, .int .i64 ai, .int .i64 ac, .int .i64 av], .int .i64 n] w (NumPost (.bool mb) w) := by
  obtain ⟨w0, HW0⟩ : ∃ W, Hid (W = w.alloc (.cells #[.int .i64 9, .int .i64 fr, .int .i64 tt, .int .i64 st, .int .i64 ep, .int .i64 vi, .int .i64 ba, .int .i64 le, .int .i64 sp, .slice A ne c, .int .i64 oi, .int .i64 os, .int .i64 oe, .int .i64 ok, .int .i64 oa, .int .i64 ai, .int .i64 ac, .int .i64 av] 45)) := ⟨_, Lib.hid rfl⟩
  have h0 : Below w.heap.size w w0 := by rw [HW0.out]; exact (Below.refl _ _).alloc (Nat.le_refl _) _
  have hX0 : w0.heap[w.heap.size]? = some (.cells #[.int .i64 9, .int .i64 fr, .int .i64 tt, .int .i64 st, .int .i64 ep, .int .i64 vi, .int .i64 ba, .int .i64 le, .int .i64 sp, .slice A ne c, .int .i64 oi, .int .i64 os, .int .i64 oe, .int .i64 ok, .int .i64 oa, .int .i64 ai, .int .i64 ac, .int .i64 av] 45 (0, 0)) := by rw [HW0.out]; exact heap_alloc_new _ _
  have hs0 : w.heap.size < w0.heap.size := by rw [HW0.out]; simp
  have c0 : w0.cell? ⟨w.heap.size, 0, none⟩ = some (.int .i64 9) := (by rw [Lib.cell_of_heap hX0]; rfl)
  have c1 : w0.cell? ⟨w.heap.size, 1, none⟩ = some (.int .i64 fr) := (by rw [Lib.cell_of_heap hX0]; rfl)
  have c2 : w0.cell? ⟨w.heap.size, 2, none⟩ = some (.int .i64 tt) := (by rw [Lib.cell_of_heap hX0]; rfl)
  have c3 : w0.cell? ⟨w.heap.size, 3, none⟩ = some (.int .i64 st) := (by rw [Lib.cell_of_heap hX0]; rfl)
  have c4 : w0.cell? ⟨w.heap.size, 4, none⟩ = some (.int .i64 ep) := (by rw [Lib.cell_of_heap hX0]; rfl)
  have c5 : w0.cell? ⟨w.heap.size, 5, none⟩ = some (.int .i64 vi) := (by rw [Lib.cell_of_heap hX0]; rfl)
  have c6 : w0.cell? ⟨w.heap.size, 6, none⟩ = some (.int .i64 ba) := (by rw [Lib.cell_of_heap hX0]; rfl)
  have c7 : w0.cell? ⟨w.heap.size, 7, none⟩ = some (.int .i64 le) := (by rw [Lib.cell_of_heap hX0]; rfl)
  have c8 : w0.cell? ⟨w.heap.size, 8, none⟩ = some (.int .i64 sp) := (by rw [Lib.cell_of_heap hX0]; rfl)
  have c9 : w0.cell? ⟨w.heap.size, 9, none⟩ = some (.slice A ne c) := (by rw [Lib.cell_of_heap hX0]; rfl)
  have c10 : w0.cell? ⟨w.heap.size, 10, none⟩ = some (.int .i64 oi) := (by rw [Lib.cell_of_heap hX0]; rfl)
  have c11 : w0.cell? ⟨w.heap.size, 11, none⟩ = some (.int .i64 os) := (by rw [Lib.cell_of_heap hX0]; rfl)
  have c12 : w0.cell? ⟨w.heap.size, 12, none⟩ = some (.int .i64 oe) := (by rw [Lib.cell_of_heap hX0]; rfl)
  have c13 : w0.cell? ⟨w.heap.size, 13, none⟩ = some (.int .i64 ok) := (by rw [Lib.cell_of_heap hX0]; rfl)
  have c14 : w0.cell? ⟨w.heap.size, 14, none⟩ = some (.int .i64 oa) := (by rw [Lib.cell_of_heap hX0]; rfl)
  have c15 : w0.cell? ⟨w.heap.size, 15, none⟩ = some (.int .i64 ai) := (by rw [Lib.cell_of_heap hX0]; rfl)
  have c16 : w0.cell? ⟨w.heap.size, 16, none⟩ = some (.int .i64 ac) := (by rw [Lib.cell_of_heap hX0]; rfl)
  have c17 : w0.cell? ⟨w.heap.size, 17, none⟩ = some (.int .i64 av) := (by rw [Lib.cell_of_heap hX0]; rfl)
  have HB0 := Lib.hid h0
  have HX0 := Lib.hid hX0
  clear h0 hX0
  go_enter Tryd.func44, Tryd.ntmps44
  have HZ := fun X => has_none true false false false false false false false X
  simp at HZ
  go_wp2_with (first | rw [← HW0.out] | rw [← HW2.out] | rw [HZ] | (go_at_call 69; (refine (rsites_any _ _).mono ?_); rintro e w' ⟨rfl, rfl⟩) | (go_at_call 70; (refine (rhas_9 _).mono ?_); rintro e w1 ⟨rfl, hb⟩; (obtain ⟨w2, HW2⟩ : ∃ W, Hid (W = w1.alloc (.cells #[.bool true, .bool false, .bool false, .bool false, .bool false, .bool false, .bool false, .bool false] 117)) := ⟨_, Lib.hid rfl⟩); have hs1 : w.heap.size < w1.heap.size := Nat.lt_of_lt_of_le hs0 hb.size; have hb2 : Below w1.heap.size w1 w2 := (by rw [HW2.out]; exact (Below.refl _ _).alloc (Nat.le_refl _) _); have HH2 : Hid (w2.heap[w1.heap.size]? = some (.cells #[.bool true, .bool false, .bool false, .bool false, .bool false, .bool false, .bool false, .bool false] 117 (0, 0))) := (by show _ = _; rw [HW2.out]; exact heap_alloc_new _ _); have hs2 : w1.heap.size < w2.heap.size := (by rw [HW2.out]; simp); have HB1 := Lib.hid (HB0.out.trans (hb.mono HB0.out.size)); have HB2 := Lib.hid (HB1.out.trans (hb2.mono HB1.out.size)); have HX2 := Lib.hid ((hb2.block w.heap.size hs1).trans ((hb.block w.heap.size hs0).trans HX0.out)); have d0 : w2.cell? ⟨w.heap.size, 0, none⟩ = some (.int .i64 9) := (by rw [Lib.cell_of_heap HX2.out]; rfl); have d1 : w2.cell? ⟨w.heap.size, 1, none⟩ = some (.int .i64 fr) := (by rw [Lib.cell_of_heap HX2.out]; rfl); have d2 : w2.cell? ⟨w.heap.size, 2, none⟩ = some (.int .i64 tt) := (by rw [Lib.cell_of_heap HX2.out]; rfl); have d3 : w2.cell? ⟨w.heap.size, 3, none⟩ = some (.int .i64 st) := (by rw [Lib.cell_of_heap HX2.out]; rfl); have d4 : w2.cell? ⟨w.heap.size, 4, none⟩ = some (.int .i64 ep) := (by rw [Lib.cell_of_heap HX2.out]; rfl); have d5 : w2.cell? ⟨w.heap.size, 5, none⟩ = some (.int .i64 vi) := (by rw [Lib.cell_of_heap HX2.out]; rfl); have d6 : w2.cell? ⟨w.heap.size, 6, none⟩ = some (.int .i64 ba) := (by rw [Lib.cell_of_heap HX2.out]; rfl); have d7 : w2.cell? ⟨w.heap.size, 7, none⟩ = some (.int .i64 le) := (by rw [Lib.cell_of_heap HX2.out]; rfl); have d8 : w2.cell? ⟨w.heap.size, 8, none⟩ = some (.int .i64 sp) := (by rw [Lib.cell_of_heap HX2.out]; rfl); have d9 : w2.cell? ⟨w.heap.size, 9, none⟩ = some (.slice A ne c) := (by rw [Lib.cell_of_heap HX2.out]; rfl); have d10 : w2.cell? ⟨w.heap.size, 10, none⟩ = some (.int .i64 oi) := (by rw [Lib.cell_of_heap HX2.out]; rfl); have d11 : w2.cell? ⟨w.heap.size, 11, none⟩ = some (.int .i64 os) := (by rw [Lib.cell_of_heap HX2.out]; rfl); have d12 : w2.cell? ⟨w.heap.size, 12, none⟩ = some (.int .i64 oe) := (by rw [Lib.cell_of_heap HX2.out]; rfl); have d13 : w2.cell? ⟨w.heap.size, 13, none⟩ = some (.int .i64 ok) := (by rw [Lib.cell_of_heap HX2.out]; rfl); have d14 : w2.cell? ⟨w.heap.size, 14, none⟩ = some (.int .i64 oa) := (by rw [Lib.cell_of_heap HX2.out]; rfl); have d15 : w2.cell? ⟨w.heap.size, 15, none⟩ = some (.int .i64 ai) := (by rw [Lib.cell_of_heap HX2.out]; rfl); have d16 : w2.cell? ⟨w.heap.size, 16, none⟩ = some (.int .i64 ac) := (by rw [Lib.cell_of_heap HX2.out]; rfl); have d17 : w2.cell? ⟨w.heap.size, 17, none⟩ = some (.int .i64 av) := (by rw [Lib.cell_of_heap HX2.out]; rfl); have b0 : w2.cell? ⟨w1.heap.size, 0, none⟩ = some (.bool true) := (by rw [Lib.cell_of_heap HH2.out]; rfl); have b1 : w2.cell? ⟨w1.heap.size, 1, none⟩ = some (.bool false) := (by rw [Lib.cell_of_heap HH2.out]; rfl); have b2 : w2.cell? ⟨w1.heap.size, 2, none⟩ = some (.bool false) := (by rw [Lib.cell_of_heap HH2.out]; rfl); have b3 : w2.cell? ⟨w1.heap.size, 3, none⟩ = some (.bool false) := (by rw [Lib.cell_of_heap HH2.out]; rfl); have b4 : w2.cell? ⟨w1.heap.size, 4, none⟩ = some (.bool false) := (by rw [Lib.cell_of_heap HH2.out]; rfl); have b5 : w2.cell? ⟨w1.heap.size, 5, none⟩ = some (.bool false) := (by rw [Lib.cell_of_heap HH2.out]; rfl); have b6 : w2.cell? ⟨w1.heap.size, 6, none⟩ = some (.bool false) := (by rw [Lib.cell_of_heap HH2.out]; rfl); have b7 : w2.cell? ⟨w1.heap.size, 7, none⟩ = some (.bool false) := (by rw [Lib.cell_of_heap HH2.out]; rfl); clear hb hb2 c0 c1 c2 c3 c4 c5 c6 c7 c8 c9 c10 c11 c12 c13 c14 c15 c16 c17) | (go_at_call 56; (refine (rstream_any _ _).mono ?_); rintro e w' ⟨rfl, rfl⟩) | (go_at_call 57; (refine (repoch_any _ _ _).mono ?_); rintro e w' ⟨rfl, rfl⟩) | (go_at_call 71; (refine (rlength_any _ _).mono ?_); rintro e w' ⟨rfl, rfl⟩))
  all_goals
    go_ret
    refine ⟨ret_bool ?_, by repeat' (first | (with_reducible assumption) | (with_reducible exact HB2.out) | (with_reducible exact HB1.out) | (with_reducible exact HB0.out) | (with_reducible exact Below.refl _ _) | (with_reducible refine below_drewN ?_ _) | (with_reducible refine Below.alloc ?_ ?_ _) | (with_reducible refine Below.setCell ?_ ?_ _) | go_size)⟩
    have hm := HM.out
    clear HM HW0 HB0 HX0
    (try clear HB1 HB2 HX2 HH2 HW2 hs1 hs2 b0 b1 b2 b3 b4 b5 b6 b7)
    (try clear c0 c1 c2 c3 c4 c5 c6 c7 c8 c9 c10 c11 c12 c13 c14 c15 c16 c17)
    (try clear d0 d1 d2 d3 d4 d5 d6 d7 d8 d9 d10 d11 d12 d13 d14 d15 d16 d17)
    rw [Bool.eq_iff_iff, hm]
    clear hm
    simp [inb] at *
    (try omega)
end Go.Proofs.YtkdnhfeamibmdaaDoor
namespace Go.Proofs.YtkdnhfeamibmdaaDoor
open Go.RowKit Go.Sort
set_option maxRecDepth 100000 in
set_option maxHeartbeats 8000000 in
theorem rmay_m10 (fr tt st ep vi ba le sp oi os oe ok oa ai ac av n : Int) (ne c : Nat) (A : Option Addr) (mb : Bool) (w : World)
    (HM : Hid (mb = true ↔ 2 ≤ n ∧ n ≤ 7 ∧ 0 ≤ fr ∧ fr < n ∧ 0 ≤ tt ∧ tt < n ∧ 0 ≤ st ∧ st ≤ 3 ∧ 1 ≤ ep ∧ ep ≤ 1048576 ∧ vi = 0 ∧ ba = 0 ∧ le = 0 ∧ sp = 0 ∧ ne = 0 ∧ oi = 0 ∧ os = 0 ∧ oe = 0 ∧ ok = 0 ∧ oa = 0 ∧ ai = 0 ∧ ac = 0 ∧ av = 0))
    : Calls Tryd.prog 44 #[.agg #[.int .i64 10, .int .i64 fr, .int .i64 tt, .int .i64 st, .int .i64 ep, .int .i64 vi, .int .i64 ba, .int .i64 le, .int .i64 sp, .slice A ne c, .int .i64 oi, .int .i64 os, .int .i64 oe, .int .i64 ok, .int .i64 oa, .int .i64 ai, .int .i64 ac, .int .i64 av], .int .i64 n] w (NumPost (.bool mb) w) := by
  obtain ⟨w0, HW0⟩ : ∃ W, Hid (W = w.alloc (.cells #[.int .i64 10, .int .i64 fr, .int .i64 tt, .int .i64 st, .int .i64 ep, .int .i64 vi, .int .i64 ba, .int .i64 le, .int .i64 sp, .slice A ne c, .int .i64 oi, .int .i64 os, .int .i64 oe, .int .i64 ok, .int .i64 oa, .int .i64 ai, .int .i64 ac, .int .i64 av] 45)) := ⟨_, Lib.hid rfl⟩
  have h0 : Below w.heap.size w w0 := by rw [HW0.out]; exact (Below.refl _ _).alloc (Nat.le_refl _) _
  have hX0 : w0.heap[w.heap.size]? = some (.cells #[.int .i64 10, .int .i64 fr, .int .i64 tt, .int .i64 st, .int .i64 ep, .int .i64 vi, .int .i64 ba, .int .i64 le, .int .i64 sp, .slice A ne c, .int .i64 oi, .int .i64 os, .int .i64 oe, .int .i64 ok, .int .i64 oa, .int .i64 ai, .int .i64 ac, .int .i64 av] 45 (0, 0)) := by rw [HW0.out]; exact heap_alloc_new _ _
  have hs0 : w.heap.size < w0.heap.size := by rw [HW0.out]; simp
  have c0 : w0.cell? ⟨w.heap.size, 0, none⟩ = some (.int .i64 10) := (by rw [Lib.cell_of_heap hX0]; rfl)
  have c1 : w0.cell? ⟨w.heap.size, 1, none⟩ = some (.int .i64 fr) := (by rw [Lib.cell_of_heap hX0]; rfl)
  have c2 : w0.cell? ⟨w.heap.size, 2, none⟩ = some (.int .i64 tt) := (by rw [Lib.cell_of_heap hX0]; rfl)
  have c3 : w0.cell? ⟨w.heap.size, 3, none⟩ = some (.int .i64 st) := (by rw [Lib.cell_of_heap hX0]; rfl)
  have c4 : w0.cell? ⟨w.heap.size, 4, none⟩ = some (.int .i64 ep) := (by rw [Lib.cell_of_heap hX0]; rfl)
  have c5 : w0.cell? ⟨w.heap.size, 5, none⟩ = some (.int .i64 vi) := (by rw [Lib.cell_of_heap hX0]; rfl)
  have c6 : w0.cell? ⟨w.heap.size, 6, none⟩ = some (.int .i64 ba) := (by rw [Lib.cell_of_heap hX0]; rfl)
  have c7 : w0.cell? ⟨w.heap.size, 7, none⟩ = some (.int .i64 le) := (by rw [Lib.cell_of_heap hX0]; rfl)
  have c8 : w0.cell? ⟨w.heap.size, 8, none⟩ = some (.int .i64 sp) := (by rw [Lib.cell_of_heap hX0]; rfl)
  have c9 : w0.cell? ⟨w.heap.size, 9, none⟩ = some (.slice A ne c) := (by rw [Lib.cell_of_heap hX0]; rfl)
  have c10 : w0.cell? ⟨w.heap.size, 10, none⟩ = some (.int .i64 oi) := (by rw [Lib.cell_of_heap hX0]; rfl)
  have c11 : w0.cell? ⟨w.heap.size, 11, none⟩ = some (.int .i64 os) := (by rw [Lib.cell_of_heap hX0]; rfl)
  have c12 : w0.cell? ⟨w.heap.size, 12, none⟩ = some (.int .i64 oe) := (by rw [Lib.cell_of_heap hX0]; rfl)
  have c13 : w0.cell? ⟨w.heap.size, 13, none⟩ = some (.int .i64 ok) := (by rw [Lib.cell_of_heap hX0]; rfl)
  have c14 : w0.cell? ⟨w.heap.size, 14, none⟩ = some (.int .i64 oa) := (by rw [Lib.cell_of_heap hX0]; rfl)
  have c15 : w0.cell? ⟨w.heap.size, 15, none⟩ = some (.int .i64 ai) := (by rw [Lib.cell_of_heap hX0]; rfl)
  have c16 : w0.cell? ⟨w.heap.size, 16, none⟩ = some (.int .i64 ac) := (by rw [Lib.cell_of_heap hX0]; rfl)
  have c17 : w0.cell? ⟨w.heap.size, 17, none⟩ = some (.int .i64 av) := (by rw [Lib.cell_of_heap hX0]; rfl)
  have HB0 := Lib.hid h0
  have HX0 := Lib.hid hX0
  clear h0 hX0
  go_enter Tryd.func44, Tryd.ntmps44
  have HZ := fun X => has_none true false false false false false false false X
  simp at HZ
  go_wp2_with (first | rw [← HW0.out] | rw [← HW2.out] | rw [HZ] | (go_at_call 69; (refine (rsites_any _ _).mono ?_); rintro e w' ⟨rfl, rfl⟩) | (go_at_call 70; (refine (rhas_10 _).mono ?_); rintro e w1 ⟨rfl, hb⟩; (obtain ⟨w2, HW2⟩ : ∃ W, Hid (W = w1.alloc (.cells #[.bool true, .bool false, .bool false, .bool false, .bool false, .bool false, .bool false, .bool false] 117)) := ⟨_, Lib.hid rfl⟩); have hs1 : w.heap.size < w1.heap.size := Nat.lt_of_lt_of_le hs0 hb.size; have hb2 : Below w1.heap.size w1 w2 := (by rw [HW2.out]; exact (Below.refl _ _).alloc (Nat.le_refl _) _); have HH2 : Hid (w2.heap[w1.heap.size]? = some (.cells #[.bool true, .bool false, .bool false, .bool false, .bool false, .bool false, .bool false, .bool false] 117 (0, 0))) := (by show _ = _; rw [HW2.out]; exact heap_alloc_new _ _); have hs2 : w1.heap.size < w2.heap.size := (by rw [HW2.out]; simp); have HB1 := Lib.hid (HB0.out.trans (hb.mono HB0.out.size)); have HB2 := Lib.hid (HB1.out.trans (hb2.mono HB1.out.size)); have HX2 := Lib.hid ((hb2.block w.heap.size hs1).trans ((hb.block w.heap.size hs0).trans HX0.out)); have d0 : w2.cell? ⟨w.heap.size, 0, none⟩ = some (.int .i64 10) := (by rw [Lib.cell_of_heap HX2.out]; rfl); have d1 : w2.cell? ⟨w.heap.size, 1, none⟩ = some (.int .i64 fr) := (by rw [Lib.cell_of_heap HX2.out]; rfl); have d2 : w2.cell? ⟨w.heap.size, 2, none⟩ = some (.int .i64 tt) := (by rw [Lib.cell_of_heap HX2.out]; rfl); have d3 : w2.cell? ⟨w.heap.size, 3, none⟩ = some (.int .i64 st) := (by rw [Lib.cell_of_heap HX2.out]; rfl); have d4 : w2.cell? ⟨w.heap.size, 4, none⟩ = some (.int .i64 ep) := (by rw [Lib.cell_of_heap HX2.out]; rfl); have d5 : w2.cell? ⟨w.heap.size, 5, none⟩ = some (.int .i64 vi) := (by rw [Lib.cell_of_heap HX2.out]; rfl); have d6 : w2.cell? ⟨w.heap.size, 6, none⟩ = some (.int .i64 ba) := (by rw [Lib.cell_of_heap HX2.out]; rfl); have d7 : w2.cell? ⟨w.heap.size, 7, none⟩ = some (.int .i64 le) := (by rw [Lib.cell_of_heap HX2.out]; rfl); have d8 : w2.cell? ⟨w.heap.size, 8, none⟩ = some (.int .i64 sp) := (by rw [Lib.cell_of_heap HX2.out]; rfl); have d9 : w2.cell? ⟨w.heap.size, 9, none⟩ = some (.slice A ne c) := (by rw [Lib.cell_of_heap HX2.out]; rfl); have d10 : w2.cell? ⟨w.heap.size, 10, none⟩ = some (.int .i64 oi) := (by rw [Lib.cell_of_heap HX2.out]; rfl); have d11 : w2.cell? ⟨w.heap.size, 11, none⟩ = some (.int .i64 os) := (by rw [Lib.cell_of_heap HX2.out]; rfl); have d12 : w2.cell? ⟨w.heap.size, 12, none⟩ = some (.int .i64 oe) := (by rw [Lib.cell_of_heap HX2.out]; rfl); have d13 : w2.cell? ⟨w.heap.size, 13, none⟩ = some (.int .i64 ok) := (by rw [Lib.cell_of_heap HX2.out]; rfl); have d14 : w2.cell? ⟨w.heap.size, 14, none⟩ = some (.int .i64 oa) := (by rw [Lib.cell_of_heap HX2.out]; rfl); have d15 : w2.cell? ⟨w.heap.size, 15, none⟩ = some (.int .i64 ai) := (by rw [Lib.cell_of_heap HX2.out]; rfl); have d16 : w2.cell? ⟨w.heap.size, 16, none⟩ = some (.int .i64 ac) := (by rw [Lib.cell_of_heap HX2.out]; rfl); have d17 : w2.cell? ⟨w.heap.size, 17, none⟩ = some (.int .i64 av) := (by rw [Lib.cell_of_heap HX2.out]; rfl); have b0 : w2.cell? ⟨w1.heap.size, 0, none⟩ = some (.bool true) := (by rw [Lib.cell_of_heap HH2.out]; rfl); have b1 : w2.cell? ⟨w1.heap.size, 1, none⟩ = some (.bool false) := (by rw [Lib.cell_of_heap HH2.out]; rfl); have b2 : w2.cell? ⟨w1.heap.size, 2, none⟩ = some (.bool false) := (by rw [Lib.cell_of_heap HH2.out]; rfl); have b3 : w2.cell? ⟨w1.heap.size, 3, none⟩ = some (.bool false) := (by rw [Lib.cell_of_heap HH2.out]; rfl); have b4 : w2.cell? ⟨w1.heap.size, 4, none⟩ = some (.bool false) := (by rw [Lib.cell_of_heap HH2.out]; rfl); have b5 : w2.cell? ⟨w1.heap.size, 5, none⟩ = some (.bool false) := (by rw [Lib.cell_of_heap HH2.out]; rfl); have b6 : w2.cell? ⟨w1.heap.size, 6, none⟩ = some (.bool false) := (by rw [Lib.cell_of_heap HH2.out]; rfl); have b7 : w2.cell? ⟨w1.heap.size, 7, none⟩ = some (.bool false) := (by rw [Lib.cell_of_heap HH2.out]; rfl); clear hb hb2 c0 c1 c2 c3 c4 c5 c6 c7 c8 c9 c10 c11 c12 c13 c14 c15 c16 c17) | (go_at_call 56; (refine (rstream_any _ _).mono ?_); rintro e w' ⟨rfl, rfl⟩) | (go_at_call 57; (refine (repoch_any _ _ _).mono ?_); rintro e w' ⟨rfl, rfl⟩) | (go_at_call 71; (refine (rlength_any _ _).mono ?_); rintro e w' ⟨rfl, rfl⟩))
  all_goals
    go_ret
    refine ⟨ret_bool ?_, by repeat' (first | (with_reducible assumption) | (with_reducible exact HB2.out) | (with_reducible exact HB1.out) | (with_reducible exact HB0.out) | (with_reducible exact Below.refl _ _) | (with_reducible refine below_drewN ?_ _) | (with_reducible refine Below.alloc ?_ ?_ _) | (with_reducible refine Below.setCell ?_ ?_ _) | go_size)⟩
    have hm := HM.out
    clear HM HW0 HB0 HX0
    (try clear HB1 HB2 HX2 HH2 HW2 hs1 hs2 b0 b1 b2 b3 b4 b5 b6 b7)
    (try clear c0 c1 c2 c3 c4 c5 c6 c7 c8 c9 c10 c11 c12 c13 c14 c15 c16 c17)
    (try clear d0 d1 d2 d3 d4 d5 d6 d7 d8 d9 d10 d11 d12 d13 d14 d15 d16 d17)
    rw [Bool.eq_iff_iff, hm]
    clear hm
    simp [inb] at *
    (try omega)
end Go.Proofs.YtkdnhfeamibmdaaDoor
