/-
  The walk of the law DeedsEither, all four applied, the first event a take.
-/
import Derived.Test.YtpboleiifmepeaaDoorDeedsEitherB
namespace Go.Proofs.YtpboleiifmepeaaDoor.deedsEitherW
open Go.RowKit Go.Sort
set_option maxRecDepth 100000 in
set_option maxHeartbeats 8000000 in
theorem s1_32 (t : Int) (c : Bool) (x v a b t2 x2 v2 t3 x3 v3 t4 x4 v4 : Int) (c2 c3 c4 : Bool) (_z : Int) (w : World) (HAK : Hid (∀ X : World, Below w.heap.size w X → Asked X))
    (HM : Hid (∀ X : World, Calls Tryd.prog 15 #[.agg #[.int .i64 t, .bool c, .int .i64 x, .int .i64 v]] X (NumPost (.bool true) X)))
    (P1 : Hid (∀ X : World, Calls Tryd.prog 13 #[.agg #[.int .i64 t, .bool c, .int .i64 x, .int .i64 v], .agg #[.int .i64 3, .int .i64 a]] X (NumPost (.agg #[.int .i64 t, .bool c, .int .i64 x, .int .i64 v]) X)))
    (P2 : Hid (∀ X : World, Calls Tryd.prog 13 #[.agg #[.int .i64 t, .bool c, .int .i64 x, .int .i64 v], .agg #[.int .i64 2, .int .i64 b]] X (NumPost (.agg #[.int .i64 t2, .bool c2, .int .i64 x2, .int .i64 v2]) X)))
    (P3 : Hid (∀ X : World, Calls Tryd.prog 13 #[.agg #[.int .i64 t, .bool c, .int .i64 x, .int .i64 v], .agg #[.int .i64 2, .int .i64 b]] X (NumPost (.agg #[.int .i64 t3, .bool c3, .int .i64 x3, .int .i64 v3]) X)))
    (P4 : Hid (∀ X : World, Calls Tryd.prog 13 #[.agg #[.int .i64 t3, .bool c3, .int .i64 x3, .int .i64 v3], .agg #[.int .i64 3, .int .i64 a]] X (NumPost (.agg #[.int .i64 t4, .bool c4, .int .i64 x4, .int .i64 v4]) X))) :
    Calls Tryd.prog 8 #[.agg #[.int .i64 t, .bool c, .int .i64 x, .int .i64 v], .agg #[.int .i64 3, .int .i64 a, .int .i64 2, .int .i64 b]] w (fun e w' => e = .returned (.bool true) ∧ Below w.heap.size w w') := by
  have HW := Lib.hid (fun X (hX : Below w.heap.size w X) => aeWorks_any X (HAK.out X hX))
  clear HAK
  obtain ⟨w1, HX1⟩ : ∃ W : World, Hid (W = ((w.alloc (.cells #[.int .i64 t, .bool c, .int .i64 x, .int .i64 v] 23)).alloc (.cells #[.int .i64 3, .int .i64 a, .int .i64 2, .int .i64 b] 41))) := ⟨_, Lib.hid rfl⟩
  obtain ⟨hz1, hb1, h_s1, h_l1⟩ := two_blocks HX1.out
  replace hz1 : w.heap.size + 2 ≤ w1.heap.size := by omega
  have c1_s0 : w1.cell? ⟨w.heap.size, 0, none⟩ = some (.int .i64 t) := by rw [Lib.cell_of_heap h_s1]; rfl
  have c1_s1 : w1.cell? ⟨w.heap.size, 1, none⟩ = some (.bool c) := by rw [Lib.cell_of_heap h_s1]; rfl
  have c1_s2 : w1.cell? ⟨w.heap.size, 2, none⟩ = some (.int .i64 x) := by rw [Lib.cell_of_heap h_s1]; rfl
  have c1_s3 : w1.cell? ⟨w.heap.size, 3, none⟩ = some (.int .i64 v) := by rw [Lib.cell_of_heap h_s1]; rfl
  go_enter Tryd.func8, Tryd.ntmps8
  go_wp2_with (rw [← HX1.out])
  refine (HM.out _).mono ?_
  rintro e w2 ⟨rfl, hb⟩
  clear c1_s0 c1_s1 c1_s2 c1_s3
  have h_s2 := (hb.block (w.heap.size) (by omega)).trans h_s1
  have h_l2 := (hb.block (w.heap.size + 1) (by omega)).trans h_l1
  have hb2 : Below w.heap.size w w2 := hb1.trans (hb.mono (by omega))
  have hz2 : w1.heap.size ≤ w2.heap.size := hb.size
  clear hb
  have c2_s0 : w2.cell? ⟨w.heap.size, 0, none⟩ = some (.int .i64 t) := by rw [Lib.cell_of_heap h_s2]; rfl
  have c2_s1 : w2.cell? ⟨w.heap.size, 1, none⟩ = some (.bool c) := by rw [Lib.cell_of_heap h_s2]; rfl
  have c2_s2 : w2.cell? ⟨w.heap.size, 2, none⟩ = some (.int .i64 x) := by rw [Lib.cell_of_heap h_s2]; rfl
  have c2_s3 : w2.cell? ⟨w.heap.size, 3, none⟩ = some (.int .i64 v) := by rw [Lib.cell_of_heap h_s2]; rfl
  have c2_l0 : w2.cell? ⟨w.heap.size + 1, 0, none⟩ = some (.int .i64 3) := by rw [Lib.cell_of_heap h_l2]; rfl
  have c2_l1 : w2.cell? ⟨w.heap.size + 1, 1, none⟩ = some (.int .i64 a) := by rw [Lib.cell_of_heap h_l2]; rfl
  have c2_l2 : w2.cell? ⟨w.heap.size + 1, 2, none⟩ = some (.int .i64 2) := by rw [Lib.cell_of_heap h_l2]; rfl
  have c2_l3 : w2.cell? ⟨w.heap.size + 1, 3, none⟩ = some (.int .i64 b) := by rw [Lib.cell_of_heap h_l2]; rfl
  go_wp2_with fail
  refine (P1.out _).mono ?_
  rintro e w3 ⟨rfl, hb⟩
  clear c2_s0 c2_s1 c2_s2 c2_s3 c2_l0 c2_l1 c2_l2 c2_l3
  have h_s3 := (hb.block (w.heap.size) (by omega)).trans h_s2
  have h_l3 := (hb.block (w.heap.size + 1) (by omega)).trans h_l2
  have hb3 : Below w.heap.size w w3 := hb2.trans (hb.mono (by omega))
  have hz3 : w2.heap.size ≤ w3.heap.size := hb.size
  clear hb
  obtain ⟨w4, HX4⟩ : ∃ W : World, Hid (W = w3.alloc (.cells #[.int .i64 t, .bool c, .int .i64 x, .int .i64 v] 23)) := ⟨_, Lib.hid rfl⟩
  have hb : Below w3.heap.size w3 w4 := by rw [HX4.out]; exact (Below.refl _ _).alloc (Nat.le_refl _) _
  have h_A4 : w4.heap[w3.heap.size]? = some (.cells #[.int .i64 t, .bool c, .int .i64 x, .int .i64 v] 23 (0, 0)) := by rw [HX4.out]; exact heap_alloc_new _ _
  have hy4 : w3.heap.size < w4.heap.size := by rw [HX4.out]; simp
  have h_s4 := (hb.block (w.heap.size) (by omega)).trans h_s3
  have h_l4 := (hb.block (w.heap.size + 1) (by omega)).trans h_l3
  have hb4 : Below w.heap.size w w4 := hb3.trans (hb.mono (by omega))
  have hz4 : w3.heap.size ≤ w4.heap.size := hb.size
  clear hb
  have c4_A0 : w4.cell? ⟨w3.heap.size, 0, none⟩ = some (.int .i64 t) := by rw [Lib.cell_of_heap h_A4]; rfl
  have c4_A1 : w4.cell? ⟨w3.heap.size, 1, none⟩ = some (.bool c) := by rw [Lib.cell_of_heap h_A4]; rfl
  have c4_A2 : w4.cell? ⟨w3.heap.size, 2, none⟩ = some (.int .i64 x) := by rw [Lib.cell_of_heap h_A4]; rfl
  have c4_A3 : w4.cell? ⟨w3.heap.size, 3, none⟩ = some (.int .i64 v) := by rw [Lib.cell_of_heap h_A4]; rfl
  have c4_l0 : w4.cell? ⟨w.heap.size + 1, 0, none⟩ = some (.int .i64 3) := by rw [Lib.cell_of_heap h_l4]; rfl
  have c4_l1 : w4.cell? ⟨w.heap.size + 1, 1, none⟩ = some (.int .i64 a) := by rw [Lib.cell_of_heap h_l4]; rfl
  have c4_l2 : w4.cell? ⟨w.heap.size + 1, 2, none⟩ = some (.int .i64 2) := by rw [Lib.cell_of_heap h_l4]; rfl
  have c4_l3 : w4.cell? ⟨w.heap.size + 1, 3, none⟩ = some (.int .i64 b) := by rw [Lib.cell_of_heap h_l4]; rfl
  go_wp2_with (rw [← HX4.out])
  refine (P2.out _).mono ?_
  rintro e w5 ⟨rfl, hb⟩
  clear c4_A0 c4_A1 c4_A2 c4_A3 c4_l0 c4_l1 c4_l2 c4_l3
  have h_s5 := (hb.block (w.heap.size) (by omega)).trans h_s4
  have h_l5 := (hb.block (w.heap.size + 1) (by omega)).trans h_l4
  have h_A5 := (hb.block (w3.heap.size) (by omega)).trans h_A4
  have hb5 : Below w.heap.size w w5 := hb4.trans (hb.mono (by omega))
  have hz5 : w4.heap.size ≤ w5.heap.size := hb.size
  clear hb
  obtain ⟨w6, HX6⟩ : ∃ W : World, Hid (W = w5.alloc (.cells #[.int .i64 t2, .bool c2, .int .i64 x2, .int .i64 v2] 23)) := ⟨_, Lib.hid rfl⟩
  have hb : Below w5.heap.size w5 w6 := by rw [HX6.out]; exact (Below.refl _ _).alloc (Nat.le_refl _) _
  have h_B6 : w6.heap[w5.heap.size]? = some (.cells #[.int .i64 t2, .bool c2, .int .i64 x2, .int .i64 v2] 23 (0, 0)) := by rw [HX6.out]; exact heap_alloc_new _ _
  have hy6 : w5.heap.size < w6.heap.size := by rw [HX6.out]; simp
  have h_s6 := (hb.block (w.heap.size) (by omega)).trans h_s5
  have h_l6 := (hb.block (w.heap.size + 1) (by omega)).trans h_l5
  have h_A6 := (hb.block (w3.heap.size) (by omega)).trans h_A5
  have hb6 : Below w.heap.size w w6 := hb5.trans (hb.mono (by omega))
  have hz6 : w5.heap.size ≤ w6.heap.size := hb.size
  clear hb
  have c6_s0 : w6.cell? ⟨w.heap.size, 0, none⟩ = some (.int .i64 t) := by rw [Lib.cell_of_heap h_s6]; rfl
  have c6_s1 : w6.cell? ⟨w.heap.size, 1, none⟩ = some (.bool c) := by rw [Lib.cell_of_heap h_s6]; rfl
  have c6_s2 : w6.cell? ⟨w.heap.size, 2, none⟩ = some (.int .i64 x) := by rw [Lib.cell_of_heap h_s6]; rfl
  have c6_s3 : w6.cell? ⟨w.heap.size, 3, none⟩ = some (.int .i64 v) := by rw [Lib.cell_of_heap h_s6]; rfl
  have c6_l0 : w6.cell? ⟨w.heap.size + 1, 0, none⟩ = some (.int .i64 3) := by rw [Lib.cell_of_heap h_l6]; rfl
  have c6_l1 : w6.cell? ⟨w.heap.size + 1, 1, none⟩ = some (.int .i64 a) := by rw [Lib.cell_of_heap h_l6]; rfl
  have c6_l2 : w6.cell? ⟨w.heap.size + 1, 2, none⟩ = some (.int .i64 2) := by rw [Lib.cell_of_heap h_l6]; rfl
  have c6_l3 : w6.cell? ⟨w.heap.size + 1, 3, none⟩ = some (.int .i64 b) := by rw [Lib.cell_of_heap h_l6]; rfl
  go_wp2_with (rw [← HX6.out])
  refine (P3.out _).mono ?_
  rintro e w7 ⟨rfl, hb⟩
  clear c6_s0 c6_s1 c6_s2 c6_s3 c6_l0 c6_l1 c6_l2 c6_l3
  have h_s7 := (hb.block (w.heap.size) (by omega)).trans h_s6
  have h_l7 := (hb.block (w.heap.size + 1) (by omega)).trans h_l6
  have h_A7 := (hb.block (w3.heap.size) (by omega)).trans h_A6
  have h_B7 := (hb.block (w5.heap.size) (by omega)).trans h_B6
  have hb7 : Below w.heap.size w w7 := hb6.trans (hb.mono (by omega))
  have hz7 : w6.heap.size ≤ w7.heap.size := hb.size
  clear hb
  obtain ⟨w8, HX8⟩ : ∃ W : World, Hid (W = w7.alloc (.cells #[.int .i64 t3, .bool c3, .int .i64 x3, .int .i64 v3] 23)) := ⟨_, Lib.hid rfl⟩
  have hb : Below w7.heap.size w7 w8 := by rw [HX8.out]; exact (Below.refl _ _).alloc (Nat.le_refl _) _
  have h_C8 : w8.heap[w7.heap.size]? = some (.cells #[.int .i64 t3, .bool c3, .int .i64 x3, .int .i64 v3] 23 (0, 0)) := by rw [HX8.out]; exact heap_alloc_new _ _
  have hy8 : w7.heap.size < w8.heap.size := by rw [HX8.out]; simp
  have h_s8 := (hb.block (w.heap.size) (by omega)).trans h_s7
  have h_l8 := (hb.block (w.heap.size + 1) (by omega)).trans h_l7
  have h_A8 := (hb.block (w3.heap.size) (by omega)).trans h_A7
  have h_B8 := (hb.block (w5.heap.size) (by omega)).trans h_B7
  have hb8 : Below w.heap.size w w8 := hb7.trans (hb.mono (by omega))
  have hz8 : w7.heap.size ≤ w8.heap.size := hb.size
  clear hb
  have c8_C0 : w8.cell? ⟨w7.heap.size, 0, none⟩ = some (.int .i64 t3) := by rw [Lib.cell_of_heap h_C8]; rfl
  have c8_C1 : w8.cell? ⟨w7.heap.size, 1, none⟩ = some (.bool c3) := by rw [Lib.cell_of_heap h_C8]; rfl
  have c8_C2 : w8.cell? ⟨w7.heap.size, 2, none⟩ = some (.int .i64 x3) := by rw [Lib.cell_of_heap h_C8]; rfl
  have c8_C3 : w8.cell? ⟨w7.heap.size, 3, none⟩ = some (.int .i64 v3) := by rw [Lib.cell_of_heap h_C8]; rfl
  have c8_l0 : w8.cell? ⟨w.heap.size + 1, 0, none⟩ = some (.int .i64 3) := by rw [Lib.cell_of_heap h_l8]; rfl
  have c8_l1 : w8.cell? ⟨w.heap.size + 1, 1, none⟩ = some (.int .i64 a) := by rw [Lib.cell_of_heap h_l8]; rfl
  have c8_l2 : w8.cell? ⟨w.heap.size + 1, 2, none⟩ = some (.int .i64 2) := by rw [Lib.cell_of_heap h_l8]; rfl
  have c8_l3 : w8.cell? ⟨w.heap.size + 1, 3, none⟩ = some (.int .i64 b) := by rw [Lib.cell_of_heap h_l8]; rfl
  go_wp2_with (rw [← HX8.out])
  refine (P4.out _).mono ?_
  rintro e w9 ⟨rfl, hb⟩
  clear c8_C0 c8_C1 c8_C2 c8_C3 c8_l0 c8_l1 c8_l2 c8_l3
  have h_s9 := (hb.block (w.heap.size) (by omega)).trans h_s8
  have h_l9 := (hb.block (w.heap.size + 1) (by omega)).trans h_l8
  have h_A9 := (hb.block (w3.heap.size) (by omega)).trans h_A8
  have h_B9 := (hb.block (w5.heap.size) (by omega)).trans h_B8
  have h_C9 := (hb.block (w7.heap.size) (by omega)).trans h_C8
  have hb9 : Below w.heap.size w w9 := hb8.trans (hb.mono (by omega))
  have hz9 : w8.heap.size ≤ w9.heap.size := hb.size
  clear hb
  obtain ⟨w10, HX10⟩ : ∃ W : World, Hid (W = w9.alloc (.cells #[.int .i64 t4, .bool c4, .int .i64 x4, .int .i64 v4] 23)) := ⟨_, Lib.hid rfl⟩
  have hb : Below w9.heap.size w9 w10 := by rw [HX10.out]; exact (Below.refl _ _).alloc (Nat.le_refl _) _
  have h_D10 : w10.heap[w9.heap.size]? = some (.cells #[.int .i64 t4, .bool c4, .int .i64 x4, .int .i64 v4] 23 (0, 0)) := by rw [HX10.out]; exact heap_alloc_new _ _
  have hy10 : w9.heap.size < w10.heap.size := by rw [HX10.out]; simp
  have h_s10 := (hb.block (w.heap.size) (by omega)).trans h_s9
  have h_l10 := (hb.block (w.heap.size + 1) (by omega)).trans h_l9
  have h_A10 := (hb.block (w3.heap.size) (by omega)).trans h_A9
  have h_B10 := (hb.block (w5.heap.size) (by omega)).trans h_B9
  have h_C10 := (hb.block (w7.heap.size) (by omega)).trans h_C9
  have hb10 : Below w.heap.size w w10 := hb9.trans (hb.mono (by omega))
  have hz10 : w9.heap.size ≤ w10.heap.size := hb.size
  clear hb
  have c10_s0 : w10.cell? ⟨w.heap.size, 0, none⟩ = some (.int .i64 t) := by rw [Lib.cell_of_heap h_s10]; rfl
  have c10_s1 : w10.cell? ⟨w.heap.size, 1, none⟩ = some (.bool c) := by rw [Lib.cell_of_heap h_s10]; rfl
  have c10_s2 : w10.cell? ⟨w.heap.size, 2, none⟩ = some (.int .i64 x) := by rw [Lib.cell_of_heap h_s10]; rfl
  have c10_s3 : w10.cell? ⟨w.heap.size, 3, none⟩ = some (.int .i64 v) := by rw [Lib.cell_of_heap h_s10]; rfl
  have c10_l0 : w10.cell? ⟨w.heap.size + 1, 0, none⟩ = some (.int .i64 3) := by rw [Lib.cell_of_heap h_l10]; rfl
  have c10_l1 : w10.cell? ⟨w.heap.size + 1, 1, none⟩ = some (.int .i64 a) := by rw [Lib.cell_of_heap h_l10]; rfl
  have c10_l2 : w10.cell? ⟨w.heap.size + 1, 2, none⟩ = some (.int .i64 2) := by rw [Lib.cell_of_heap h_l10]; rfl
  have c10_l3 : w10.cell? ⟨w.heap.size + 1, 3, none⟩ = some (.int .i64 b) := by rw [Lib.cell_of_heap h_l10]; rfl
  have c10_A0 : w10.cell? ⟨w3.heap.size, 0, none⟩ = some (.int .i64 t) := by rw [Lib.cell_of_heap h_A10]; rfl
  have c10_A1 : w10.cell? ⟨w3.heap.size, 1, none⟩ = some (.bool c) := by rw [Lib.cell_of_heap h_A10]; rfl
  have c10_A2 : w10.cell? ⟨w3.heap.size, 2, none⟩ = some (.int .i64 x) := by rw [Lib.cell_of_heap h_A10]; rfl
  have c10_A3 : w10.cell? ⟨w3.heap.size, 3, none⟩ = some (.int .i64 v) := by rw [Lib.cell_of_heap h_A10]; rfl
  have c10_B0 : w10.cell? ⟨w5.heap.size, 0, none⟩ = some (.int .i64 t2) := by rw [Lib.cell_of_heap h_B10]; rfl
  have c10_B1 : w10.cell? ⟨w5.heap.size, 1, none⟩ = some (.bool c2) := by rw [Lib.cell_of_heap h_B10]; rfl
  have c10_B2 : w10.cell? ⟨w5.heap.size, 2, none⟩ = some (.int .i64 x2) := by rw [Lib.cell_of_heap h_B10]; rfl
  have c10_B3 : w10.cell? ⟨w5.heap.size, 3, none⟩ = some (.int .i64 v2) := by rw [Lib.cell_of_heap h_B10]; rfl
  have c10_C0 : w10.cell? ⟨w7.heap.size, 0, none⟩ = some (.int .i64 t3) := by rw [Lib.cell_of_heap h_C10]; rfl
  have c10_C1 : w10.cell? ⟨w7.heap.size, 1, none⟩ = some (.bool c3) := by rw [Lib.cell_of_heap h_C10]; rfl
  have c10_C2 : w10.cell? ⟨w7.heap.size, 2, none⟩ = some (.int .i64 x3) := by rw [Lib.cell_of_heap h_C10]; rfl
  have c10_C3 : w10.cell? ⟨w7.heap.size, 3, none⟩ = some (.int .i64 v3) := by rw [Lib.cell_of_heap h_C10]; rfl
  have c10_D0 : w10.cell? ⟨w9.heap.size, 0, none⟩ = some (.int .i64 t4) := by rw [Lib.cell_of_heap h_D10]; rfl
  have c10_D1 : w10.cell? ⟨w9.heap.size, 1, none⟩ = some (.bool c4) := by rw [Lib.cell_of_heap h_D10]; rfl
  have c10_D2 : w10.cell? ⟨w9.heap.size, 2, none⟩ = some (.int .i64 x4) := by rw [Lib.cell_of_heap h_D10]; rfl
  have c10_D3 : w10.cell? ⟨w9.heap.size, 3, none⟩ = some (.int .i64 v4) := by rw [Lib.cell_of_heap h_D10]; rfl
  go_wp2_with (rw [← HX10.out])
  refine (HW.out _ hb10).mono ?_
  rintro e w11 ⟨rfl, hb⟩
  clear c10_s0 c10_s1 c10_s2 c10_s3 c10_l0 c10_l1 c10_l2 c10_l3 c10_A0 c10_A1 c10_A2 c10_A3 c10_B0 c10_B1 c10_B2 c10_B3 c10_C0 c10_C1 c10_C2 c10_C3 c10_D0 c10_D1 c10_D2 c10_D3
  have h_s11 := (hb.block (w.heap.size) (by omega)).trans h_s10
  have h_l11 := (hb.block (w.heap.size + 1) (by omega)).trans h_l10
  have h_A11 := (hb.block (w3.heap.size) (by omega)).trans h_A10
  have h_B11 := (hb.block (w5.heap.size) (by omega)).trans h_B10
  have h_C11 := (hb.block (w7.heap.size) (by omega)).trans h_C10
  have h_D11 := (hb.block (w9.heap.size) (by omega)).trans h_D10
  have hb11 : Below w.heap.size w w11 := hb10.trans (hb.mono (by omega))
  have hz11 : w10.heap.size ≤ w11.heap.size := hb.size
  clear hb
  go_wp2_with fail
  all_goals
    go_ret
    exact ⟨rfl, hb11⟩
set_option maxRecDepth 100000 in
set_option maxHeartbeats 8000000 in
theorem s2_32 (t x v a b y u t3 x3 v3 t4 x4 v4 : Int) (c3 c4 : Bool) (_z : Int) (w : World) (HAK : Hid (∀ X : World, Below w.heap.size w X → Asked X))
    (HM : Hid (∀ X : World, Calls Tryd.prog 15 #[.agg #[.int .i64 t, .bool false, .int .i64 x, .int .i64 v]] X (NumPost (.bool true) X)))
    (P1 : Hid (∀ X : World, Calls Tryd.prog 13 #[.agg #[.int .i64 t, .bool false, .int .i64 x, .int .i64 v], .agg #[.int .i64 3, .int .i64 a]] X (NumPost (.agg #[.int .i64 t, .bool false, .int .i64 y, .int .i64 u]) X)))
    (P2 : Hid (∀ X : World, Calls Tryd.prog 13 #[.agg #[.int .i64 t, .bool false, .int .i64 y, .int .i64 u], .agg #[.int .i64 2, .int .i64 b]] X (NumPost (.agg #[.int .i64 t, .bool false, .int .i64 y, .int .i64 u]) X)))
    (P3 : Hid (∀ X : World, Calls Tryd.prog 13 #[.agg #[.int .i64 t, .bool false, .int .i64 x, .int .i64 v], .agg #[.int .i64 2, .int .i64 b]] X (NumPost (.agg #[.int .i64 t3, .bool c3, .int .i64 x3, .int .i64 v3]) X)))
    (P4 : Hid (∀ X : World, Calls Tryd.prog 13 #[.agg #[.int .i64 t3, .bool c3, .int .i64 x3, .int .i64 v3], .agg #[.int .i64 3, .int .i64 a]] X (NumPost (.agg #[.int .i64 t4, .bool c4, .int .i64 x4, .int .i64 v4]) X))) (e1 : (y == x) = false) :
    Calls Tryd.prog 8 #[.agg #[.int .i64 t, .bool false, .int .i64 x, .int .i64 v], .agg #[.int .i64 3, .int .i64 a, .int .i64 2, .int .i64 b]] w (fun e w' => e = .returned (.bool true) ∧ Below w.heap.size w w') := by
  have HW := Lib.hid (fun X (hX : Below w.heap.size w X) => aeWorks_any X (HAK.out X hX))
  clear HAK
  obtain ⟨w1, HX1⟩ : ∃ W : World, Hid (W = ((w.alloc (.cells #[.int .i64 t, .bool false, .int .i64 x, .int .i64 v] 23)).alloc (.cells #[.int .i64 3, .int .i64 a, .int .i64 2, .int .i64 b] 41))) := ⟨_, Lib.hid rfl⟩
  obtain ⟨hz1, hb1, h_s1, h_l1⟩ := two_blocks HX1.out
  replace hz1 : w.heap.size + 2 ≤ w1.heap.size := by omega
  have c1_s0 : w1.cell? ⟨w.heap.size, 0, none⟩ = some (.int .i64 t) := by rw [Lib.cell_of_heap h_s1]; rfl
  have c1_s1 : w1.cell? ⟨w.heap.size, 1, none⟩ = some (.bool false) := by rw [Lib.cell_of_heap h_s1]; rfl
  have c1_s2 : w1.cell? ⟨w.heap.size, 2, none⟩ = some (.int .i64 x) := by rw [Lib.cell_of_heap h_s1]; rfl
  have c1_s3 : w1.cell? ⟨w.heap.size, 3, none⟩ = some (.int .i64 v) := by rw [Lib.cell_of_heap h_s1]; rfl
  go_enter Tryd.func8, Tryd.ntmps8
  go_wp2_with (rw [← HX1.out])
  refine (HM.out _).mono ?_
  rintro e w2 ⟨rfl, hb⟩
  clear c1_s0 c1_s1 c1_s2 c1_s3
  have h_s2 := (hb.block (w.heap.size) (by omega)).trans h_s1
  have h_l2 := (hb.block (w.heap.size + 1) (by omega)).trans h_l1
  have hb2 : Below w.heap.size w w2 := hb1.trans (hb.mono (by omega))
  have hz2 : w1.heap.size ≤ w2.heap.size := hb.size
  clear hb
  have c2_s0 : w2.cell? ⟨w.heap.size, 0, none⟩ = some (.int .i64 t) := by rw [Lib.cell_of_heap h_s2]; rfl
  have c2_s1 : w2.cell? ⟨w.heap.size, 1, none⟩ = some (.bool false) := by rw [Lib.cell_of_heap h_s2]; rfl
  have c2_s2 : w2.cell? ⟨w.heap.size, 2, none⟩ = some (.int .i64 x) := by rw [Lib.cell_of_heap h_s2]; rfl
  have c2_s3 : w2.cell? ⟨w.heap.size, 3, none⟩ = some (.int .i64 v) := by rw [Lib.cell_of_heap h_s2]; rfl
  have c2_l0 : w2.cell? ⟨w.heap.size + 1, 0, none⟩ = some (.int .i64 3) := by rw [Lib.cell_of_heap h_l2]; rfl
  have c2_l1 : w2.cell? ⟨w.heap.size + 1, 1, none⟩ = some (.int .i64 a) := by rw [Lib.cell_of_heap h_l2]; rfl
  have c2_l2 : w2.cell? ⟨w.heap.size + 1, 2, none⟩ = some (.int .i64 2) := by rw [Lib.cell_of_heap h_l2]; rfl
  have c2_l3 : w2.cell? ⟨w.heap.size + 1, 3, none⟩ = some (.int .i64 b) := by rw [Lib.cell_of_heap h_l2]; rfl
  go_wp2_with fail
  refine (P1.out _).mono ?_
  rintro e w3 ⟨rfl, hb⟩
  clear c2_s0 c2_s1 c2_s2 c2_s3 c2_l0 c2_l1 c2_l2 c2_l3
  have h_s3 := (hb.block (w.heap.size) (by omega)).trans h_s2
  have h_l3 := (hb.block (w.heap.size + 1) (by omega)).trans h_l2
  have hb3 : Below w.heap.size w w3 := hb2.trans (hb.mono (by omega))
  have hz3 : w2.heap.size ≤ w3.heap.size := hb.size
  clear hb
  obtain ⟨w4, HX4⟩ : ∃ W : World, Hid (W = w3.alloc (.cells #[.int .i64 t, .bool false, .int .i64 y, .int .i64 u] 23)) := ⟨_, Lib.hid rfl⟩
  have hb : Below w3.heap.size w3 w4 := by rw [HX4.out]; exact (Below.refl _ _).alloc (Nat.le_refl _) _
  have h_A4 : w4.heap[w3.heap.size]? = some (.cells #[.int .i64 t, .bool false, .int .i64 y, .int .i64 u] 23 (0, 0)) := by rw [HX4.out]; exact heap_alloc_new _ _
  have hy4 : w3.heap.size < w4.heap.size := by rw [HX4.out]; simp
  have h_s4 := (hb.block (w.heap.size) (by omega)).trans h_s3
  have h_l4 := (hb.block (w.heap.size + 1) (by omega)).trans h_l3
  have hb4 : Below w.heap.size w w4 := hb3.trans (hb.mono (by omega))
  have hz4 : w3.heap.size ≤ w4.heap.size := hb.size
  clear hb
  have c4_A0 : w4.cell? ⟨w3.heap.size, 0, none⟩ = some (.int .i64 t) := by rw [Lib.cell_of_heap h_A4]; rfl
  have c4_A1 : w4.cell? ⟨w3.heap.size, 1, none⟩ = some (.bool false) := by rw [Lib.cell_of_heap h_A4]; rfl
  have c4_A2 : w4.cell? ⟨w3.heap.size, 2, none⟩ = some (.int .i64 y) := by rw [Lib.cell_of_heap h_A4]; rfl
  have c4_A3 : w4.cell? ⟨w3.heap.size, 3, none⟩ = some (.int .i64 u) := by rw [Lib.cell_of_heap h_A4]; rfl
  have c4_l0 : w4.cell? ⟨w.heap.size + 1, 0, none⟩ = some (.int .i64 3) := by rw [Lib.cell_of_heap h_l4]; rfl
  have c4_l1 : w4.cell? ⟨w.heap.size + 1, 1, none⟩ = some (.int .i64 a) := by rw [Lib.cell_of_heap h_l4]; rfl
  have c4_l2 : w4.cell? ⟨w.heap.size + 1, 2, none⟩ = some (.int .i64 2) := by rw [Lib.cell_of_heap h_l4]; rfl
  have c4_l3 : w4.cell? ⟨w.heap.size + 1, 3, none⟩ = some (.int .i64 b) := by rw [Lib.cell_of_heap h_l4]; rfl
  go_wp2_with (rw [← HX4.out])
  refine (P2.out _).mono ?_
  rintro e w5 ⟨rfl, hb⟩
  clear c4_A0 c4_A1 c4_A2 c4_A3 c4_l0 c4_l1 c4_l2 c4_l3
  have h_s5 := (hb.block (w.heap.size) (by omega)).trans h_s4
  have h_l5 := (hb.block (w.heap.size + 1) (by omega)).trans h_l4
  have h_A5 := (hb.block (w3.heap.size) (by omega)).trans h_A4
  have hb5 : Below w.heap.size w w5 := hb4.trans (hb.mono (by omega))
  have hz5 : w4.heap.size ≤ w5.heap.size := hb.size
  clear hb
  obtain ⟨w6, HX6⟩ : ∃ W : World, Hid (W = w5.alloc (.cells #[.int .i64 t, .bool false, .int .i64 y, .int .i64 u] 23)) := ⟨_, Lib.hid rfl⟩
  have hb : Below w5.heap.size w5 w6 := by rw [HX6.out]; exact (Below.refl _ _).alloc (Nat.le_refl _) _
  have h_B6 : w6.heap[w5.heap.size]? = some (.cells #[.int .i64 t, .bool false, .int .i64 y, .int .i64 u] 23 (0, 0)) := by rw [HX6.out]; exact heap_alloc_new _ _
  have hy6 : w5.heap.size < w6.heap.size := by rw [HX6.out]; simp
  have h_s6 := (hb.block (w.heap.size) (by omega)).trans h_s5
  have h_l6 := (hb.block (w.heap.size + 1) (by omega)).trans h_l5
  have h_A6 := (hb.block (w3.heap.size) (by omega)).trans h_A5
  have hb6 : Below w.heap.size w w6 := hb5.trans (hb.mono (by omega))
  have hz6 : w5.heap.size ≤ w6.heap.size := hb.size
  clear hb
  have c6_s0 : w6.cell? ⟨w.heap.size, 0, none⟩ = some (.int .i64 t) := by rw [Lib.cell_of_heap h_s6]; rfl
  have c6_s1 : w6.cell? ⟨w.heap.size, 1, none⟩ = some (.bool false) := by rw [Lib.cell_of_heap h_s6]; rfl
  have c6_s2 : w6.cell? ⟨w.heap.size, 2, none⟩ = some (.int .i64 x) := by rw [Lib.cell_of_heap h_s6]; rfl
  have c6_s3 : w6.cell? ⟨w.heap.size, 3, none⟩ = some (.int .i64 v) := by rw [Lib.cell_of_heap h_s6]; rfl
  have c6_l0 : w6.cell? ⟨w.heap.size + 1, 0, none⟩ = some (.int .i64 3) := by rw [Lib.cell_of_heap h_l6]; rfl
  have c6_l1 : w6.cell? ⟨w.heap.size + 1, 1, none⟩ = some (.int .i64 a) := by rw [Lib.cell_of_heap h_l6]; rfl
  have c6_l2 : w6.cell? ⟨w.heap.size + 1, 2, none⟩ = some (.int .i64 2) := by rw [Lib.cell_of_heap h_l6]; rfl
  have c6_l3 : w6.cell? ⟨w.heap.size + 1, 3, none⟩ = some (.int .i64 b) := by rw [Lib.cell_of_heap h_l6]; rfl
  go_wp2_with (rw [← HX6.out])
  refine (P3.out _).mono ?_
  rintro e w7 ⟨rfl, hb⟩
  clear c6_s0 c6_s1 c6_s2 c6_s3 c6_l0 c6_l1 c6_l2 c6_l3
  have h_s7 := (hb.block (w.heap.size) (by omega)).trans h_s6
  have h_l7 := (hb.block (w.heap.size + 1) (by omega)).trans h_l6
  have h_A7 := (hb.block (w3.heap.size) (by omega)).trans h_A6
  have h_B7 := (hb.block (w5.heap.size) (by omega)).trans h_B6
  have hb7 : Below w.heap.size w w7 := hb6.trans (hb.mono (by omega))
  have hz7 : w6.heap.size ≤ w7.heap.size := hb.size
  clear hb
  obtain ⟨w8, HX8⟩ : ∃ W : World, Hid (W = w7.alloc (.cells #[.int .i64 t3, .bool c3, .int .i64 x3, .int .i64 v3] 23)) := ⟨_, Lib.hid rfl⟩
  have hb : Below w7.heap.size w7 w8 := by rw [HX8.out]; exact (Below.refl _ _).alloc (Nat.le_refl _) _
  have h_C8 : w8.heap[w7.heap.size]? = some (.cells #[.int .i64 t3, .bool c3, .int .i64 x3, .int .i64 v3] 23 (0, 0)) := by rw [HX8.out]; exact heap_alloc_new _ _
  have hy8 : w7.heap.size < w8.heap.size := by rw [HX8.out]; simp
  have h_s8 := (hb.block (w.heap.size) (by omega)).trans h_s7
  have h_l8 := (hb.block (w.heap.size + 1) (by omega)).trans h_l7
  have h_A8 := (hb.block (w3.heap.size) (by omega)).trans h_A7
  have h_B8 := (hb.block (w5.heap.size) (by omega)).trans h_B7
  have hb8 : Below w.heap.size w w8 := hb7.trans (hb.mono (by omega))
  have hz8 : w7.heap.size ≤ w8.heap.size := hb.size
  clear hb
  have c8_C0 : w8.cell? ⟨w7.heap.size, 0, none⟩ = some (.int .i64 t3) := by rw [Lib.cell_of_heap h_C8]; rfl
  have c8_C1 : w8.cell? ⟨w7.heap.size, 1, none⟩ = some (.bool c3) := by rw [Lib.cell_of_heap h_C8]; rfl
  have c8_C2 : w8.cell? ⟨w7.heap.size, 2, none⟩ = some (.int .i64 x3) := by rw [Lib.cell_of_heap h_C8]; rfl
  have c8_C3 : w8.cell? ⟨w7.heap.size, 3, none⟩ = some (.int .i64 v3) := by rw [Lib.cell_of_heap h_C8]; rfl
  have c8_l0 : w8.cell? ⟨w.heap.size + 1, 0, none⟩ = some (.int .i64 3) := by rw [Lib.cell_of_heap h_l8]; rfl
  have c8_l1 : w8.cell? ⟨w.heap.size + 1, 1, none⟩ = some (.int .i64 a) := by rw [Lib.cell_of_heap h_l8]; rfl
  have c8_l2 : w8.cell? ⟨w.heap.size + 1, 2, none⟩ = some (.int .i64 2) := by rw [Lib.cell_of_heap h_l8]; rfl
  have c8_l3 : w8.cell? ⟨w.heap.size + 1, 3, none⟩ = some (.int .i64 b) := by rw [Lib.cell_of_heap h_l8]; rfl
  go_wp2_with (rw [← HX8.out])
  refine (P4.out _).mono ?_
  rintro e w9 ⟨rfl, hb⟩
  clear c8_C0 c8_C1 c8_C2 c8_C3 c8_l0 c8_l1 c8_l2 c8_l3
  have h_s9 := (hb.block (w.heap.size) (by omega)).trans h_s8
  have h_l9 := (hb.block (w.heap.size + 1) (by omega)).trans h_l8
  have h_A9 := (hb.block (w3.heap.size) (by omega)).trans h_A8
  have h_B9 := (hb.block (w5.heap.size) (by omega)).trans h_B8
  have h_C9 := (hb.block (w7.heap.size) (by omega)).trans h_C8
  have hb9 : Below w.heap.size w w9 := hb8.trans (hb.mono (by omega))
  have hz9 : w8.heap.size ≤ w9.heap.size := hb.size
  clear hb
  obtain ⟨w10, HX10⟩ : ∃ W : World, Hid (W = w9.alloc (.cells #[.int .i64 t4, .bool c4, .int .i64 x4, .int .i64 v4] 23)) := ⟨_, Lib.hid rfl⟩
  have hb : Below w9.heap.size w9 w10 := by rw [HX10.out]; exact (Below.refl _ _).alloc (Nat.le_refl _) _
  have h_D10 : w10.heap[w9.heap.size]? = some (.cells #[.int .i64 t4, .bool c4, .int .i64 x4, .int .i64 v4] 23 (0, 0)) := by rw [HX10.out]; exact heap_alloc_new _ _
  have hy10 : w9.heap.size < w10.heap.size := by rw [HX10.out]; simp
  have h_s10 := (hb.block (w.heap.size) (by omega)).trans h_s9
  have h_l10 := (hb.block (w.heap.size + 1) (by omega)).trans h_l9
  have h_A10 := (hb.block (w3.heap.size) (by omega)).trans h_A9
  have h_B10 := (hb.block (w5.heap.size) (by omega)).trans h_B9
  have h_C10 := (hb.block (w7.heap.size) (by omega)).trans h_C9
  have hb10 : Below w.heap.size w w10 := hb9.trans (hb.mono (by omega))
  have hz10 : w9.heap.size ≤ w10.heap.size := hb.size
  clear hb
  have c10_s0 : w10.cell? ⟨w.heap.size, 0, none⟩ = some (.int .i64 t) := by rw [Lib.cell_of_heap h_s10]; rfl
  have c10_s1 : w10.cell? ⟨w.heap.size, 1, none⟩ = some (.bool false) := by rw [Lib.cell_of_heap h_s10]; rfl
  have c10_s2 : w10.cell? ⟨w.heap.size, 2, none⟩ = some (.int .i64 x) := by rw [Lib.cell_of_heap h_s10]; rfl
  have c10_s3 : w10.cell? ⟨w.heap.size, 3, none⟩ = some (.int .i64 v) := by rw [Lib.cell_of_heap h_s10]; rfl
  have c10_l0 : w10.cell? ⟨w.heap.size + 1, 0, none⟩ = some (.int .i64 3) := by rw [Lib.cell_of_heap h_l10]; rfl
  have c10_l1 : w10.cell? ⟨w.heap.size + 1, 1, none⟩ = some (.int .i64 a) := by rw [Lib.cell_of_heap h_l10]; rfl
  have c10_l2 : w10.cell? ⟨w.heap.size + 1, 2, none⟩ = some (.int .i64 2) := by rw [Lib.cell_of_heap h_l10]; rfl
  have c10_l3 : w10.cell? ⟨w.heap.size + 1, 3, none⟩ = some (.int .i64 b) := by rw [Lib.cell_of_heap h_l10]; rfl
  have c10_A0 : w10.cell? ⟨w3.heap.size, 0, none⟩ = some (.int .i64 t) := by rw [Lib.cell_of_heap h_A10]; rfl
  have c10_A1 : w10.cell? ⟨w3.heap.size, 1, none⟩ = some (.bool false) := by rw [Lib.cell_of_heap h_A10]; rfl
  have c10_A2 : w10.cell? ⟨w3.heap.size, 2, none⟩ = some (.int .i64 y) := by rw [Lib.cell_of_heap h_A10]; rfl
  have c10_A3 : w10.cell? ⟨w3.heap.size, 3, none⟩ = some (.int .i64 u) := by rw [Lib.cell_of_heap h_A10]; rfl
  have c10_B0 : w10.cell? ⟨w5.heap.size, 0, none⟩ = some (.int .i64 t) := by rw [Lib.cell_of_heap h_B10]; rfl
  have c10_B1 : w10.cell? ⟨w5.heap.size, 1, none⟩ = some (.bool false) := by rw [Lib.cell_of_heap h_B10]; rfl
  have c10_B2 : w10.cell? ⟨w5.heap.size, 2, none⟩ = some (.int .i64 y) := by rw [Lib.cell_of_heap h_B10]; rfl
  have c10_B3 : w10.cell? ⟨w5.heap.size, 3, none⟩ = some (.int .i64 u) := by rw [Lib.cell_of_heap h_B10]; rfl
  have c10_C0 : w10.cell? ⟨w7.heap.size, 0, none⟩ = some (.int .i64 t3) := by rw [Lib.cell_of_heap h_C10]; rfl
  have c10_C1 : w10.cell? ⟨w7.heap.size, 1, none⟩ = some (.bool c3) := by rw [Lib.cell_of_heap h_C10]; rfl
  have c10_C2 : w10.cell? ⟨w7.heap.size, 2, none⟩ = some (.int .i64 x3) := by rw [Lib.cell_of_heap h_C10]; rfl
  have c10_C3 : w10.cell? ⟨w7.heap.size, 3, none⟩ = some (.int .i64 v3) := by rw [Lib.cell_of_heap h_C10]; rfl
  have c10_D0 : w10.cell? ⟨w9.heap.size, 0, none⟩ = some (.int .i64 t4) := by rw [Lib.cell_of_heap h_D10]; rfl
  have c10_D1 : w10.cell? ⟨w9.heap.size, 1, none⟩ = some (.bool c4) := by rw [Lib.cell_of_heap h_D10]; rfl
  have c10_D2 : w10.cell? ⟨w9.heap.size, 2, none⟩ = some (.int .i64 x4) := by rw [Lib.cell_of_heap h_D10]; rfl
  have c10_D3 : w10.cell? ⟨w9.heap.size, 3, none⟩ = some (.int .i64 v4) := by rw [Lib.cell_of_heap h_D10]; rfl
  go_wp2_with (rw [← HX10.out])
  refine (HW.out _ hb10).mono ?_
  rintro e w11 ⟨rfl, hb⟩
  clear c10_s0 c10_s1 c10_s2 c10_s3 c10_l0 c10_l1 c10_l2 c10_l3 c10_A0 c10_A1 c10_A2 c10_A3 c10_B0 c10_B1 c10_B2 c10_B3 c10_C0 c10_C1 c10_C2 c10_C3 c10_D0 c10_D1 c10_D2 c10_D3
  have h_s11 := (hb.block (w.heap.size) (by omega)).trans h_s10
  have h_l11 := (hb.block (w.heap.size + 1) (by omega)).trans h_l10
  have h_A11 := (hb.block (w3.heap.size) (by omega)).trans h_A10
  have h_B11 := (hb.block (w5.heap.size) (by omega)).trans h_B10
  have h_C11 := (hb.block (w7.heap.size) (by omega)).trans h_C10
  have h_D11 := (hb.block (w9.heap.size) (by omega)).trans h_D10
  have hb11 : Below w.heap.size w w11 := hb10.trans (hb.mono (by omega))
  have hz11 : w10.heap.size ≤ w11.heap.size := hb.size
  clear hb
  go_wp2_with fail
  all_goals
    go_ret
    exact ⟨rfl, hb11⟩
set_option maxRecDepth 100000 in
set_option maxHeartbeats 8000000 in
theorem s3_32 (t x v a b y u z u2 t4 x4 v4 : Int) (c4 : Bool) (_z : Int) (w : World) (HAK : Hid (∀ X : World, Below w.heap.size w X → Asked X))
    (HM : Hid (∀ X : World, Calls Tryd.prog 15 #[.agg #[.int .i64 t, .bool false, .int .i64 x, .int .i64 v]] X (NumPost (.bool true) X)))
    (P1 : Hid (∀ X : World, Calls Tryd.prog 13 #[.agg #[.int .i64 t, .bool false, .int .i64 x, .int .i64 v], .agg #[.int .i64 3, .int .i64 a]] X (NumPost (.agg #[.int .i64 t, .bool false, .int .i64 y, .int .i64 u]) X)))
    (P2 : Hid (∀ X : World, Calls Tryd.prog 13 #[.agg #[.int .i64 t, .bool false, .int .i64 y, .int .i64 u], .agg #[.int .i64 2, .int .i64 b]] X (NumPost (.agg #[.int .i64 t, .bool false, .int .i64 z, .int .i64 u2]) X)))
    (P3 : Hid (∀ X : World, Calls Tryd.prog 13 #[.agg #[.int .i64 t, .bool false, .int .i64 x, .int .i64 v], .agg #[.int .i64 2, .int .i64 b]] X (NumPost (.agg #[.int .i64 t, .bool false, .int .i64 x, .int .i64 v]) X)))
    (P4 : Hid (∀ X : World, Calls Tryd.prog 13 #[.agg #[.int .i64 t, .bool false, .int .i64 x, .int .i64 v], .agg #[.int .i64 3, .int .i64 a]] X (NumPost (.agg #[.int .i64 t4, .bool c4, .int .i64 x4, .int .i64 v4]) X))) (e1 : (y == x) = false) (e2 : (z == y) = false) :
    Calls Tryd.prog 8 #[.agg #[.int .i64 t, .bool false, .int .i64 x, .int .i64 v], .agg #[.int .i64 3, .int .i64 a, .int .i64 2, .int .i64 b]] w (fun e w' => e = .returned (.bool true) ∧ Below w.heap.size w w') := by
  have HW := Lib.hid (fun X (hX : Below w.heap.size w X) => aeWorks_any X (HAK.out X hX))
  clear HAK
  obtain ⟨w1, HX1⟩ : ∃ W : World, Hid (W = ((w.alloc (.cells #[.int .i64 t, .bool false, .int .i64 x, .int .i64 v] 23)).alloc (.cells #[.int .i64 3, .int .i64 a, .int .i64 2, .int .i64 b] 41))) := ⟨_, Lib.hid rfl⟩
  obtain ⟨hz1, hb1, h_s1, h_l1⟩ := two_blocks HX1.out
  replace hz1 : w.heap.size + 2 ≤ w1.heap.size := by omega
  have c1_s0 : w1.cell? ⟨w.heap.size, 0, none⟩ = some (.int .i64 t) := by rw [Lib.cell_of_heap h_s1]; rfl
  have c1_s1 : w1.cell? ⟨w.heap.size, 1, none⟩ = some (.bool false) := by rw [Lib.cell_of_heap h_s1]; rfl
  have c1_s2 : w1.cell? ⟨w.heap.size, 2, none⟩ = some (.int .i64 x) := by rw [Lib.cell_of_heap h_s1]; rfl
  have c1_s3 : w1.cell? ⟨w.heap.size, 3, none⟩ = some (.int .i64 v) := by rw [Lib.cell_of_heap h_s1]; rfl
  go_enter Tryd.func8, Tryd.ntmps8
  go_wp2_with (rw [← HX1.out])
  refine (HM.out _).mono ?_
  rintro e w2 ⟨rfl, hb⟩
  clear c1_s0 c1_s1 c1_s2 c1_s3
  have h_s2 := (hb.block (w.heap.size) (by omega)).trans h_s1
  have h_l2 := (hb.block (w.heap.size + 1) (by omega)).trans h_l1
  have hb2 : Below w.heap.size w w2 := hb1.trans (hb.mono (by omega))
  have hz2 : w1.heap.size ≤ w2.heap.size := hb.size
  clear hb
  have c2_s0 : w2.cell? ⟨w.heap.size, 0, none⟩ = some (.int .i64 t) := by rw [Lib.cell_of_heap h_s2]; rfl
  have c2_s1 : w2.cell? ⟨w.heap.size, 1, none⟩ = some (.bool false) := by rw [Lib.cell_of_heap h_s2]; rfl
  have c2_s2 : w2.cell? ⟨w.heap.size, 2, none⟩ = some (.int .i64 x) := by rw [Lib.cell_of_heap h_s2]; rfl
  have c2_s3 : w2.cell? ⟨w.heap.size, 3, none⟩ = some (.int .i64 v) := by rw [Lib.cell_of_heap h_s2]; rfl
  have c2_l0 : w2.cell? ⟨w.heap.size + 1, 0, none⟩ = some (.int .i64 3) := by rw [Lib.cell_of_heap h_l2]; rfl
  have c2_l1 : w2.cell? ⟨w.heap.size + 1, 1, none⟩ = some (.int .i64 a) := by rw [Lib.cell_of_heap h_l2]; rfl
  have c2_l2 : w2.cell? ⟨w.heap.size + 1, 2, none⟩ = some (.int .i64 2) := by rw [Lib.cell_of_heap h_l2]; rfl
  have c2_l3 : w2.cell? ⟨w.heap.size + 1, 3, none⟩ = some (.int .i64 b) := by rw [Lib.cell_of_heap h_l2]; rfl
  go_wp2_with fail
  refine (P1.out _).mono ?_
  rintro e w3 ⟨rfl, hb⟩
  clear c2_s0 c2_s1 c2_s2 c2_s3 c2_l0 c2_l1 c2_l2 c2_l3
  have h_s3 := (hb.block (w.heap.size) (by omega)).trans h_s2
  have h_l3 := (hb.block (w.heap.size + 1) (by omega)).trans h_l2
  have hb3 : Below w.heap.size w w3 := hb2.trans (hb.mono (by omega))
  have hz3 : w2.heap.size ≤ w3.heap.size := hb.size
  clear hb
  obtain ⟨w4, HX4⟩ : ∃ W : World, Hid (W = w3.alloc (.cells #[.int .i64 t, .bool false, .int .i64 y, .int .i64 u] 23)) := ⟨_, Lib.hid rfl⟩
  have hb : Below w3.heap.size w3 w4 := by rw [HX4.out]; exact (Below.refl _ _).alloc (Nat.le_refl _) _
  have h_A4 : w4.heap[w3.heap.size]? = some (.cells #[.int .i64 t, .bool false, .int .i64 y, .int .i64 u] 23 (0, 0)) := by rw [HX4.out]; exact heap_alloc_new _ _
  have hy4 : w3.heap.size < w4.heap.size := by rw [HX4.out]; simp
  have h_s4 := (hb.block (w.heap.size) (by omega)).trans h_s3
  have h_l4 := (hb.block (w.heap.size + 1) (by omega)).trans h_l3
  have hb4 : Below w.heap.size w w4 := hb3.trans (hb.mono (by omega))
  have hz4 : w3.heap.size ≤ w4.heap.size := hb.size
  clear hb
  have c4_A0 : w4.cell? ⟨w3.heap.size, 0, none⟩ = some (.int .i64 t) := by rw [Lib.cell_of_heap h_A4]; rfl
  have c4_A1 : w4.cell? ⟨w3.heap.size, 1, none⟩ = some (.bool false) := by rw [Lib.cell_of_heap h_A4]; rfl
  have c4_A2 : w4.cell? ⟨w3.heap.size, 2, none⟩ = some (.int .i64 y) := by rw [Lib.cell_of_heap h_A4]; rfl
  have c4_A3 : w4.cell? ⟨w3.heap.size, 3, none⟩ = some (.int .i64 u) := by rw [Lib.cell_of_heap h_A4]; rfl
  have c4_l0 : w4.cell? ⟨w.heap.size + 1, 0, none⟩ = some (.int .i64 3) := by rw [Lib.cell_of_heap h_l4]; rfl
  have c4_l1 : w4.cell? ⟨w.heap.size + 1, 1, none⟩ = some (.int .i64 a) := by rw [Lib.cell_of_heap h_l4]; rfl
  have c4_l2 : w4.cell? ⟨w.heap.size + 1, 2, none⟩ = some (.int .i64 2) := by rw [Lib.cell_of_heap h_l4]; rfl
  have c4_l3 : w4.cell? ⟨w.heap.size + 1, 3, none⟩ = some (.int .i64 b) := by rw [Lib.cell_of_heap h_l4]; rfl
  go_wp2_with (rw [← HX4.out])
  refine (P2.out _).mono ?_
  rintro e w5 ⟨rfl, hb⟩
  clear c4_A0 c4_A1 c4_A2 c4_A3 c4_l0 c4_l1 c4_l2 c4_l3
  have h_s5 := (hb.block (w.heap.size) (by omega)).trans h_s4
  have h_l5 := (hb.block (w.heap.size + 1) (by omega)).trans h_l4
  have h_A5 := (hb.block (w3.heap.size) (by omega)).trans h_A4
  have hb5 : Below w.heap.size w w5 := hb4.trans (hb.mono (by omega))
  have hz5 : w4.heap.size ≤ w5.heap.size := hb.size
  clear hb
  obtain ⟨w6, HX6⟩ : ∃ W : World, Hid (W = w5.alloc (.cells #[.int .i64 t, .bool false, .int .i64 z, .int .i64 u2] 23)) := ⟨_, Lib.hid rfl⟩
  have hb : Below w5.heap.size w5 w6 := by rw [HX6.out]; exact (Below.refl _ _).alloc (Nat.le_refl _) _
  have h_B6 : w6.heap[w5.heap.size]? = some (.cells #[.int .i64 t, .bool false, .int .i64 z, .int .i64 u2] 23 (0, 0)) := by rw [HX6.out]; exact heap_alloc_new _ _
  have hy6 : w5.heap.size < w6.heap.size := by rw [HX6.out]; simp
  have h_s6 := (hb.block (w.heap.size) (by omega)).trans h_s5
  have h_l6 := (hb.block (w.heap.size + 1) (by omega)).trans h_l5
  have h_A6 := (hb.block (w3.heap.size) (by omega)).trans h_A5
  have hb6 : Below w.heap.size w w6 := hb5.trans (hb.mono (by omega))
  have hz6 : w5.heap.size ≤ w6.heap.size := hb.size
  clear hb
  have c6_s0 : w6.cell? ⟨w.heap.size, 0, none⟩ = some (.int .i64 t) := by rw [Lib.cell_of_heap h_s6]; rfl
  have c6_s1 : w6.cell? ⟨w.heap.size, 1, none⟩ = some (.bool false) := by rw [Lib.cell_of_heap h_s6]; rfl
  have c6_s2 : w6.cell? ⟨w.heap.size, 2, none⟩ = some (.int .i64 x) := by rw [Lib.cell_of_heap h_s6]; rfl
  have c6_s3 : w6.cell? ⟨w.heap.size, 3, none⟩ = some (.int .i64 v) := by rw [Lib.cell_of_heap h_s6]; rfl
  have c6_l0 : w6.cell? ⟨w.heap.size + 1, 0, none⟩ = some (.int .i64 3) := by rw [Lib.cell_of_heap h_l6]; rfl
  have c6_l1 : w6.cell? ⟨w.heap.size + 1, 1, none⟩ = some (.int .i64 a) := by rw [Lib.cell_of_heap h_l6]; rfl
  have c6_l2 : w6.cell? ⟨w.heap.size + 1, 2, none⟩ = some (.int .i64 2) := by rw [Lib.cell_of_heap h_l6]; rfl
  have c6_l3 : w6.cell? ⟨w.heap.size + 1, 3, none⟩ = some (.int .i64 b) := by rw [Lib.cell_of_heap h_l6]; rfl
  go_wp2_with (rw [← HX6.out])
  refine (P3.out _).mono ?_
  rintro e w7 ⟨rfl, hb⟩
  clear c6_s0 c6_s1 c6_s2 c6_s3 c6_l0 c6_l1 c6_l2 c6_l3
  have h_s7 := (hb.block (w.heap.size) (by omega)).trans h_s6
  have h_l7 := (hb.block (w.heap.size + 1) (by omega)).trans h_l6
  have h_A7 := (hb.block (w3.heap.size) (by omega)).trans h_A6
  have h_B7 := (hb.block (w5.heap.size) (by omega)).trans h_B6
  have hb7 : Below w.heap.size w w7 := hb6.trans (hb.mono (by omega))
  have hz7 : w6.heap.size ≤ w7.heap.size := hb.size
  clear hb
  obtain ⟨w8, HX8⟩ : ∃ W : World, Hid (W = w7.alloc (.cells #[.int .i64 t, .bool false, .int .i64 x, .int .i64 v] 23)) := ⟨_, Lib.hid rfl⟩
  have hb : Below w7.heap.size w7 w8 := by rw [HX8.out]; exact (Below.refl _ _).alloc (Nat.le_refl _) _
  have h_C8 : w8.heap[w7.heap.size]? = some (.cells #[.int .i64 t, .bool false, .int .i64 x, .int .i64 v] 23 (0, 0)) := by rw [HX8.out]; exact heap_alloc_new _ _
  have hy8 : w7.heap.size < w8.heap.size := by rw [HX8.out]; simp
  have h_s8 := (hb.block (w.heap.size) (by omega)).trans h_s7
  have h_l8 := (hb.block (w.heap.size + 1) (by omega)).trans h_l7
  have h_A8 := (hb.block (w3.heap.size) (by omega)).trans h_A7
  have h_B8 := (hb.block (w5.heap.size) (by omega)).trans h_B7
  have hb8 : Below w.heap.size w w8 := hb7.trans (hb.mono (by omega))
  have hz8 : w7.heap.size ≤ w8.heap.size := hb.size
  clear hb
  have c8_C0 : w8.cell? ⟨w7.heap.size, 0, none⟩ = some (.int .i64 t) := by rw [Lib.cell_of_heap h_C8]; rfl
  have c8_C1 : w8.cell? ⟨w7.heap.size, 1, none⟩ = some (.bool false) := by rw [Lib.cell_of_heap h_C8]; rfl
  have c8_C2 : w8.cell? ⟨w7.heap.size, 2, none⟩ = some (.int .i64 x) := by rw [Lib.cell_of_heap h_C8]; rfl
  have c8_C3 : w8.cell? ⟨w7.heap.size, 3, none⟩ = some (.int .i64 v) := by rw [Lib.cell_of_heap h_C8]; rfl
  have c8_l0 : w8.cell? ⟨w.heap.size + 1, 0, none⟩ = some (.int .i64 3) := by rw [Lib.cell_of_heap h_l8]; rfl
  have c8_l1 : w8.cell? ⟨w.heap.size + 1, 1, none⟩ = some (.int .i64 a) := by rw [Lib.cell_of_heap h_l8]; rfl
  have c8_l2 : w8.cell? ⟨w.heap.size + 1, 2, none⟩ = some (.int .i64 2) := by rw [Lib.cell_of_heap h_l8]; rfl
  have c8_l3 : w8.cell? ⟨w.heap.size + 1, 3, none⟩ = some (.int .i64 b) := by rw [Lib.cell_of_heap h_l8]; rfl
  go_wp2_with (rw [← HX8.out])
  refine (P4.out _).mono ?_
  rintro e w9 ⟨rfl, hb⟩
  clear c8_C0 c8_C1 c8_C2 c8_C3 c8_l0 c8_l1 c8_l2 c8_l3
  have h_s9 := (hb.block (w.heap.size) (by omega)).trans h_s8
  have h_l9 := (hb.block (w.heap.size + 1) (by omega)).trans h_l8
  have h_A9 := (hb.block (w3.heap.size) (by omega)).trans h_A8
  have h_B9 := (hb.block (w5.heap.size) (by omega)).trans h_B8
  have h_C9 := (hb.block (w7.heap.size) (by omega)).trans h_C8
  have hb9 : Below w.heap.size w w9 := hb8.trans (hb.mono (by omega))
  have hz9 : w8.heap.size ≤ w9.heap.size := hb.size
  clear hb
  obtain ⟨w10, HX10⟩ : ∃ W : World, Hid (W = w9.alloc (.cells #[.int .i64 t4, .bool c4, .int .i64 x4, .int .i64 v4] 23)) := ⟨_, Lib.hid rfl⟩
  have hb : Below w9.heap.size w9 w10 := by rw [HX10.out]; exact (Below.refl _ _).alloc (Nat.le_refl _) _
  have h_D10 : w10.heap[w9.heap.size]? = some (.cells #[.int .i64 t4, .bool c4, .int .i64 x4, .int .i64 v4] 23 (0, 0)) := by rw [HX10.out]; exact heap_alloc_new _ _
  have hy10 : w9.heap.size < w10.heap.size := by rw [HX10.out]; simp
  have h_s10 := (hb.block (w.heap.size) (by omega)).trans h_s9
  have h_l10 := (hb.block (w.heap.size + 1) (by omega)).trans h_l9
  have h_A10 := (hb.block (w3.heap.size) (by omega)).trans h_A9
  have h_B10 := (hb.block (w5.heap.size) (by omega)).trans h_B9
  have h_C10 := (hb.block (w7.heap.size) (by omega)).trans h_C9
  have hb10 : Below w.heap.size w w10 := hb9.trans (hb.mono (by omega))
  have hz10 : w9.heap.size ≤ w10.heap.size := hb.size
  clear hb
  have c10_s0 : w10.cell? ⟨w.heap.size, 0, none⟩ = some (.int .i64 t) := by rw [Lib.cell_of_heap h_s10]; rfl
  have c10_s1 : w10.cell? ⟨w.heap.size, 1, none⟩ = some (.bool false) := by rw [Lib.cell_of_heap h_s10]; rfl
  have c10_s2 : w10.cell? ⟨w.heap.size, 2, none⟩ = some (.int .i64 x) := by rw [Lib.cell_of_heap h_s10]; rfl
  have c10_s3 : w10.cell? ⟨w.heap.size, 3, none⟩ = some (.int .i64 v) := by rw [Lib.cell_of_heap h_s10]; rfl
  have c10_l0 : w10.cell? ⟨w.heap.size + 1, 0, none⟩ = some (.int .i64 3) := by rw [Lib.cell_of_heap h_l10]; rfl
  have c10_l1 : w10.cell? ⟨w.heap.size + 1, 1, none⟩ = some (.int .i64 a) := by rw [Lib.cell_of_heap h_l10]; rfl
  have c10_l2 : w10.cell? ⟨w.heap.size + 1, 2, none⟩ = some (.int .i64 2) := by rw [Lib.cell_of_heap h_l10]; rfl
  have c10_l3 : w10.cell? ⟨w.heap.size + 1, 3, none⟩ = some (.int .i64 b) := by rw [Lib.cell_of_heap h_l10]; rfl
  have c10_A0 : w10.cell? ⟨w3.heap.size, 0, none⟩ = some (.int .i64 t) := by rw [Lib.cell_of_heap h_A10]; rfl
  have c10_A1 : w10.cell? ⟨w3.heap.size, 1, none⟩ = some (.bool false) := by rw [Lib.cell_of_heap h_A10]; rfl
  have c10_A2 : w10.cell? ⟨w3.heap.size, 2, none⟩ = some (.int .i64 y) := by rw [Lib.cell_of_heap h_A10]; rfl
  have c10_A3 : w10.cell? ⟨w3.heap.size, 3, none⟩ = some (.int .i64 u) := by rw [Lib.cell_of_heap h_A10]; rfl
  have c10_B0 : w10.cell? ⟨w5.heap.size, 0, none⟩ = some (.int .i64 t) := by rw [Lib.cell_of_heap h_B10]; rfl
  have c10_B1 : w10.cell? ⟨w5.heap.size, 1, none⟩ = some (.bool false) := by rw [Lib.cell_of_heap h_B10]; rfl
  have c10_B2 : w10.cell? ⟨w5.heap.size, 2, none⟩ = some (.int .i64 z) := by rw [Lib.cell_of_heap h_B10]; rfl
  have c10_B3 : w10.cell? ⟨w5.heap.size, 3, none⟩ = some (.int .i64 u2) := by rw [Lib.cell_of_heap h_B10]; rfl
  have c10_C0 : w10.cell? ⟨w7.heap.size, 0, none⟩ = some (.int .i64 t) := by rw [Lib.cell_of_heap h_C10]; rfl
  have c10_C1 : w10.cell? ⟨w7.heap.size, 1, none⟩ = some (.bool false) := by rw [Lib.cell_of_heap h_C10]; rfl
  have c10_C2 : w10.cell? ⟨w7.heap.size, 2, none⟩ = some (.int .i64 x) := by rw [Lib.cell_of_heap h_C10]; rfl
  have c10_C3 : w10.cell? ⟨w7.heap.size, 3, none⟩ = some (.int .i64 v) := by rw [Lib.cell_of_heap h_C10]; rfl
  have c10_D0 : w10.cell? ⟨w9.heap.size, 0, none⟩ = some (.int .i64 t4) := by rw [Lib.cell_of_heap h_D10]; rfl
  have c10_D1 : w10.cell? ⟨w9.heap.size, 1, none⟩ = some (.bool c4) := by rw [Lib.cell_of_heap h_D10]; rfl
  have c10_D2 : w10.cell? ⟨w9.heap.size, 2, none⟩ = some (.int .i64 x4) := by rw [Lib.cell_of_heap h_D10]; rfl
  have c10_D3 : w10.cell? ⟨w9.heap.size, 3, none⟩ = some (.int .i64 v4) := by rw [Lib.cell_of_heap h_D10]; rfl
  go_wp2_with (rw [← HX10.out])
  refine (HW.out _ hb10).mono ?_
  rintro e w11 ⟨rfl, hb⟩
  clear c10_s0 c10_s1 c10_s2 c10_s3 c10_l0 c10_l1 c10_l2 c10_l3 c10_A0 c10_A1 c10_A2 c10_A3 c10_B0 c10_B1 c10_B2 c10_B3 c10_C0 c10_C1 c10_C2 c10_C3 c10_D0 c10_D1 c10_D2 c10_D3
  have h_s11 := (hb.block (w.heap.size) (by omega)).trans h_s10
  have h_l11 := (hb.block (w.heap.size + 1) (by omega)).trans h_l10
  have h_A11 := (hb.block (w3.heap.size) (by omega)).trans h_A10
  have h_B11 := (hb.block (w5.heap.size) (by omega)).trans h_B10
  have h_C11 := (hb.block (w7.heap.size) (by omega)).trans h_C10
  have h_D11 := (hb.block (w9.heap.size) (by omega)).trans h_D10
  have hb11 : Below w.heap.size w w11 := hb10.trans (hb.mono (by omega))
  have hz11 : w10.heap.size ≤ w11.heap.size := hb.size
  clear hb
  go_wp2_with fail
  all_goals
    go_ret
    exact ⟨rfl, hb11⟩
set_option maxRecDepth 100000 in
set_option maxHeartbeats 8000000 in
theorem s4_32 (t x v a b y u z u2 y2 : Int) (w : World) (HAK : Hid (∀ X : World, Below w.heap.size w X → Asked X))
    (HM : Hid (∀ X : World, Calls Tryd.prog 15 #[.agg #[.int .i64 t, .bool false, .int .i64 x, .int .i64 v]] X (NumPost (.bool true) X)))
    (P1 : Hid (∀ X : World, Calls Tryd.prog 13 #[.agg #[.int .i64 t, .bool false, .int .i64 x, .int .i64 v], .agg #[.int .i64 3, .int .i64 a]] X (NumPost (.agg #[.int .i64 t, .bool false, .int .i64 y, .int .i64 u]) X)))
    (P2 : Hid (∀ X : World, Calls Tryd.prog 13 #[.agg #[.int .i64 t, .bool false, .int .i64 y, .int .i64 u], .agg #[.int .i64 2, .int .i64 b]] X (NumPost (.agg #[.int .i64 t, .bool false, .int .i64 z, .int .i64 u2]) X)))
    (P3 : Hid (∀ X : World, Calls Tryd.prog 13 #[.agg #[.int .i64 t, .bool false, .int .i64 x, .int .i64 v], .agg #[.int .i64 2, .int .i64 b]] X (NumPost (.agg #[.int .i64 t, .bool false, .int .i64 y2, .int .i64 u]) X)))
    (P4 : Hid (∀ X : World, Calls Tryd.prog 13 #[.agg #[.int .i64 t, .bool false, .int .i64 y2, .int .i64 u], .agg #[.int .i64 3, .int .i64 a]] X (NumPost (.agg #[.int .i64 t, .bool false, .int .i64 y2, .int .i64 u]) X))) (e1 : (y == x) = false) (e2 : (z == y) = false) (e3 : (y2 == x) = false) :
    Calls Tryd.prog 8 #[.agg #[.int .i64 t, .bool false, .int .i64 x, .int .i64 v], .agg #[.int .i64 3, .int .i64 a, .int .i64 2, .int .i64 b]] w (fun e w' => e = .returned (.bool true) ∧ Below w.heap.size w w') := by
  have HW := Lib.hid (fun X (hX : Below w.heap.size w X) => aeWorks_any X (HAK.out X hX))
  clear HAK
  obtain ⟨w1, HX1⟩ : ∃ W : World, Hid (W = ((w.alloc (.cells #[.int .i64 t, .bool false, .int .i64 x, .int .i64 v] 23)).alloc (.cells #[.int .i64 3, .int .i64 a, .int .i64 2, .int .i64 b] 41))) := ⟨_, Lib.hid rfl⟩
  obtain ⟨hz1, hb1, h_s1, h_l1⟩ := two_blocks HX1.out
  replace hz1 : w.heap.size + 2 ≤ w1.heap.size := by omega
  have c1_s0 : w1.cell? ⟨w.heap.size, 0, none⟩ = some (.int .i64 t) := by rw [Lib.cell_of_heap h_s1]; rfl
  have c1_s1 : w1.cell? ⟨w.heap.size, 1, none⟩ = some (.bool false) := by rw [Lib.cell_of_heap h_s1]; rfl
  have c1_s2 : w1.cell? ⟨w.heap.size, 2, none⟩ = some (.int .i64 x) := by rw [Lib.cell_of_heap h_s1]; rfl
  have c1_s3 : w1.cell? ⟨w.heap.size, 3, none⟩ = some (.int .i64 v) := by rw [Lib.cell_of_heap h_s1]; rfl
  go_enter Tryd.func8, Tryd.ntmps8
  go_wp2_with (rw [← HX1.out])
  refine (HM.out _).mono ?_
  rintro e w2 ⟨rfl, hb⟩
  clear c1_s0 c1_s1 c1_s2 c1_s3
  have h_s2 := (hb.block (w.heap.size) (by omega)).trans h_s1
  have h_l2 := (hb.block (w.heap.size + 1) (by omega)).trans h_l1
  have hb2 : Below w.heap.size w w2 := hb1.trans (hb.mono (by omega))
  have hz2 : w1.heap.size ≤ w2.heap.size := hb.size
  clear hb
  have c2_s0 : w2.cell? ⟨w.heap.size, 0, none⟩ = some (.int .i64 t) := by rw [Lib.cell_of_heap h_s2]; rfl
  have c2_s1 : w2.cell? ⟨w.heap.size, 1, none⟩ = some (.bool false) := by rw [Lib.cell_of_heap h_s2]; rfl
  have c2_s2 : w2.cell? ⟨w.heap.size, 2, none⟩ = some (.int .i64 x) := by rw [Lib.cell_of_heap h_s2]; rfl
  have c2_s3 : w2.cell? ⟨w.heap.size, 3, none⟩ = some (.int .i64 v) := by rw [Lib.cell_of_heap h_s2]; rfl
  have c2_l0 : w2.cell? ⟨w.heap.size + 1, 0, none⟩ = some (.int .i64 3) := by rw [Lib.cell_of_heap h_l2]; rfl
  have c2_l1 : w2.cell? ⟨w.heap.size + 1, 1, none⟩ = some (.int .i64 a) := by rw [Lib.cell_of_heap h_l2]; rfl
  have c2_l2 : w2.cell? ⟨w.heap.size + 1, 2, none⟩ = some (.int .i64 2) := by rw [Lib.cell_of_heap h_l2]; rfl
  have c2_l3 : w2.cell? ⟨w.heap.size + 1, 3, none⟩ = some (.int .i64 b) := by rw [Lib.cell_of_heap h_l2]; rfl
  go_wp2_with fail
  refine (P1.out _).mono ?_
  rintro e w3 ⟨rfl, hb⟩
  clear c2_s0 c2_s1 c2_s2 c2_s3 c2_l0 c2_l1 c2_l2 c2_l3
  have h_s3 := (hb.block (w.heap.size) (by omega)).trans h_s2
  have h_l3 := (hb.block (w.heap.size + 1) (by omega)).trans h_l2
  have hb3 : Below w.heap.size w w3 := hb2.trans (hb.mono (by omega))
  have hz3 : w2.heap.size ≤ w3.heap.size := hb.size
  clear hb
  obtain ⟨w4, HX4⟩ : ∃ W : World, Hid (W = w3.alloc (.cells #[.int .i64 t, .bool false, .int .i64 y, .int .i64 u] 23)) := ⟨_, Lib.hid rfl⟩
  have hb : Below w3.heap.size w3 w4 := by rw [HX4.out]; exact (Below.refl _ _).alloc (Nat.le_refl _) _
  have h_A4 : w4.heap[w3.heap.size]? = some (.cells #[.int .i64 t, .bool false, .int .i64 y, .int .i64 u] 23 (0, 0)) := by rw [HX4.out]; exact heap_alloc_new _ _
  have hy4 : w3.heap.size < w4.heap.size := by rw [HX4.out]; simp
  have h_s4 := (hb.block (w.heap.size) (by omega)).trans h_s3
  have h_l4 := (hb.block (w.heap.size + 1) (by omega)).trans h_l3
  have hb4 : Below w.heap.size w w4 := hb3.trans (hb.mono (by omega))
  have hz4 : w3.heap.size ≤ w4.heap.size := hb.size
  clear hb
  have c4_A0 : w4.cell? ⟨w3.heap.size, 0, none⟩ = some (.int .i64 t) := by rw [Lib.cell_of_heap h_A4]; rfl
  have c4_A1 : w4.cell? ⟨w3.heap.size, 1, none⟩ = some (.bool false) := by rw [Lib.cell_of_heap h_A4]; rfl
  have c4_A2 : w4.cell? ⟨w3.heap.size, 2, none⟩ = some (.int .i64 y) := by rw [Lib.cell_of_heap h_A4]; rfl
  have c4_A3 : w4.cell? ⟨w3.heap.size, 3, none⟩ = some (.int .i64 u) := by rw [Lib.cell_of_heap h_A4]; rfl
  have c4_l0 : w4.cell? ⟨w.heap.size + 1, 0, none⟩ = some (.int .i64 3) := by rw [Lib.cell_of_heap h_l4]; rfl
  have c4_l1 : w4.cell? ⟨w.heap.size + 1, 1, none⟩ = some (.int .i64 a) := by rw [Lib.cell_of_heap h_l4]; rfl
  have c4_l2 : w4.cell? ⟨w.heap.size + 1, 2, none⟩ = some (.int .i64 2) := by rw [Lib.cell_of_heap h_l4]; rfl
  have c4_l3 : w4.cell? ⟨w.heap.size + 1, 3, none⟩ = some (.int .i64 b) := by rw [Lib.cell_of_heap h_l4]; rfl
  go_wp2_with (rw [← HX4.out])
  refine (P2.out _).mono ?_
  rintro e w5 ⟨rfl, hb⟩
  clear c4_A0 c4_A1 c4_A2 c4_A3 c4_l0 c4_l1 c4_l2 c4_l3
  have h_s5 := (hb.block (w.heap.size) (by omega)).trans h_s4
  have h_l5 := (hb.block (w.heap.size + 1) (by omega)).trans h_l4
  have h_A5 := (hb.block (w3.heap.size) (by omega)).trans h_A4
  have hb5 : Below w.heap.size w w5 := hb4.trans (hb.mono (by omega))
  have hz5 : w4.heap.size ≤ w5.heap.size := hb.size
  clear hb
  obtain ⟨w6, HX6⟩ : ∃ W : World, Hid (W = w5.alloc (.cells #[.int .i64 t, .bool false, .int .i64 z, .int .i64 u2] 23)) := ⟨_, Lib.hid rfl⟩
  have hb : Below w5.heap.size w5 w6 := by rw [HX6.out]; exact (Below.refl _ _).alloc (Nat.le_refl _) _
  have h_B6 : w6.heap[w5.heap.size]? = some (.cells #[.int .i64 t, .bool false, .int .i64 z, .int .i64 u2] 23 (0, 0)) := by rw [HX6.out]; exact heap_alloc_new _ _
  have hy6 : w5.heap.size < w6.heap.size := by rw [HX6.out]; simp
  have h_s6 := (hb.block (w.heap.size) (by omega)).trans h_s5
  have h_l6 := (hb.block (w.heap.size + 1) (by omega)).trans h_l5
  have h_A6 := (hb.block (w3.heap.size) (by omega)).trans h_A5
  have hb6 : Below w.heap.size w w6 := hb5.trans (hb.mono (by omega))
  have hz6 : w5.heap.size ≤ w6.heap.size := hb.size
  clear hb
  have c6_s0 : w6.cell? ⟨w.heap.size, 0, none⟩ = some (.int .i64 t) := by rw [Lib.cell_of_heap h_s6]; rfl
  have c6_s1 : w6.cell? ⟨w.heap.size, 1, none⟩ = some (.bool false) := by rw [Lib.cell_of_heap h_s6]; rfl
  have c6_s2 : w6.cell? ⟨w.heap.size, 2, none⟩ = some (.int .i64 x) := by rw [Lib.cell_of_heap h_s6]; rfl
  have c6_s3 : w6.cell? ⟨w.heap.size, 3, none⟩ = some (.int .i64 v) := by rw [Lib.cell_of_heap h_s6]; rfl
  have c6_l0 : w6.cell? ⟨w.heap.size + 1, 0, none⟩ = some (.int .i64 3) := by rw [Lib.cell_of_heap h_l6]; rfl
  have c6_l1 : w6.cell? ⟨w.heap.size + 1, 1, none⟩ = some (.int .i64 a) := by rw [Lib.cell_of_heap h_l6]; rfl
  have c6_l2 : w6.cell? ⟨w.heap.size + 1, 2, none⟩ = some (.int .i64 2) := by rw [Lib.cell_of_heap h_l6]; rfl
  have c6_l3 : w6.cell? ⟨w.heap.size + 1, 3, none⟩ = some (.int .i64 b) := by rw [Lib.cell_of_heap h_l6]; rfl
  go_wp2_with (rw [← HX6.out])
  refine (P3.out _).mono ?_
  rintro e w7 ⟨rfl, hb⟩
  clear c6_s0 c6_s1 c6_s2 c6_s3 c6_l0 c6_l1 c6_l2 c6_l3
  have h_s7 := (hb.block (w.heap.size) (by omega)).trans h_s6
  have h_l7 := (hb.block (w.heap.size + 1) (by omega)).trans h_l6
  have h_A7 := (hb.block (w3.heap.size) (by omega)).trans h_A6
  have h_B7 := (hb.block (w5.heap.size) (by omega)).trans h_B6
  have hb7 : Below w.heap.size w w7 := hb6.trans (hb.mono (by omega))
  have hz7 : w6.heap.size ≤ w7.heap.size := hb.size
  clear hb
  obtain ⟨w8, HX8⟩ : ∃ W : World, Hid (W = w7.alloc (.cells #[.int .i64 t, .bool false, .int .i64 y2, .int .i64 u] 23)) := ⟨_, Lib.hid rfl⟩
  have hb : Below w7.heap.size w7 w8 := by rw [HX8.out]; exact (Below.refl _ _).alloc (Nat.le_refl _) _
  have h_C8 : w8.heap[w7.heap.size]? = some (.cells #[.int .i64 t, .bool false, .int .i64 y2, .int .i64 u] 23 (0, 0)) := by rw [HX8.out]; exact heap_alloc_new _ _
  have hy8 : w7.heap.size < w8.heap.size := by rw [HX8.out]; simp
  have h_s8 := (hb.block (w.heap.size) (by omega)).trans h_s7
  have h_l8 := (hb.block (w.heap.size + 1) (by omega)).trans h_l7
  have h_A8 := (hb.block (w3.heap.size) (by omega)).trans h_A7
  have h_B8 := (hb.block (w5.heap.size) (by omega)).trans h_B7
  have hb8 : Below w.heap.size w w8 := hb7.trans (hb.mono (by omega))
  have hz8 : w7.heap.size ≤ w8.heap.size := hb.size
  clear hb
  have c8_C0 : w8.cell? ⟨w7.heap.size, 0, none⟩ = some (.int .i64 t) := by rw [Lib.cell_of_heap h_C8]; rfl
  have c8_C1 : w8.cell? ⟨w7.heap.size, 1, none⟩ = some (.bool false) := by rw [Lib.cell_of_heap h_C8]; rfl
  have c8_C2 : w8.cell? ⟨w7.heap.size, 2, none⟩ = some (.int .i64 y2) := by rw [Lib.cell_of_heap h_C8]; rfl
  have c8_C3 : w8.cell? ⟨w7.heap.size, 3, none⟩ = some (.int .i64 u) := by rw [Lib.cell_of_heap h_C8]; rfl
  have c8_l0 : w8.cell? ⟨w.heap.size + 1, 0, none⟩ = some (.int .i64 3) := by rw [Lib.cell_of_heap h_l8]; rfl
  have c8_l1 : w8.cell? ⟨w.heap.size + 1, 1, none⟩ = some (.int .i64 a) := by rw [Lib.cell_of_heap h_l8]; rfl
  have c8_l2 : w8.cell? ⟨w.heap.size + 1, 2, none⟩ = some (.int .i64 2) := by rw [Lib.cell_of_heap h_l8]; rfl
  have c8_l3 : w8.cell? ⟨w.heap.size + 1, 3, none⟩ = some (.int .i64 b) := by rw [Lib.cell_of_heap h_l8]; rfl
  go_wp2_with (rw [← HX8.out])
  refine (P4.out _).mono ?_
  rintro e w9 ⟨rfl, hb⟩
  clear c8_C0 c8_C1 c8_C2 c8_C3 c8_l0 c8_l1 c8_l2 c8_l3
  have h_s9 := (hb.block (w.heap.size) (by omega)).trans h_s8
  have h_l9 := (hb.block (w.heap.size + 1) (by omega)).trans h_l8
  have h_A9 := (hb.block (w3.heap.size) (by omega)).trans h_A8
  have h_B9 := (hb.block (w5.heap.size) (by omega)).trans h_B8
  have h_C9 := (hb.block (w7.heap.size) (by omega)).trans h_C8
  have hb9 : Below w.heap.size w w9 := hb8.trans (hb.mono (by omega))
  have hz9 : w8.heap.size ≤ w9.heap.size := hb.size
  clear hb
  obtain ⟨w10, HX10⟩ : ∃ W : World, Hid (W = w9.alloc (.cells #[.int .i64 t, .bool false, .int .i64 y2, .int .i64 u] 23)) := ⟨_, Lib.hid rfl⟩
  have hb : Below w9.heap.size w9 w10 := by rw [HX10.out]; exact (Below.refl _ _).alloc (Nat.le_refl _) _
  have h_D10 : w10.heap[w9.heap.size]? = some (.cells #[.int .i64 t, .bool false, .int .i64 y2, .int .i64 u] 23 (0, 0)) := by rw [HX10.out]; exact heap_alloc_new _ _
  have hy10 : w9.heap.size < w10.heap.size := by rw [HX10.out]; simp
  have h_s10 := (hb.block (w.heap.size) (by omega)).trans h_s9
  have h_l10 := (hb.block (w.heap.size + 1) (by omega)).trans h_l9
  have h_A10 := (hb.block (w3.heap.size) (by omega)).trans h_A9
  have h_B10 := (hb.block (w5.heap.size) (by omega)).trans h_B9
  have h_C10 := (hb.block (w7.heap.size) (by omega)).trans h_C9
  have hb10 : Below w.heap.size w w10 := hb9.trans (hb.mono (by omega))
  have hz10 : w9.heap.size ≤ w10.heap.size := hb.size
  clear hb
  have c10_s0 : w10.cell? ⟨w.heap.size, 0, none⟩ = some (.int .i64 t) := by rw [Lib.cell_of_heap h_s10]; rfl
  have c10_s1 : w10.cell? ⟨w.heap.size, 1, none⟩ = some (.bool false) := by rw [Lib.cell_of_heap h_s10]; rfl
  have c10_s2 : w10.cell? ⟨w.heap.size, 2, none⟩ = some (.int .i64 x) := by rw [Lib.cell_of_heap h_s10]; rfl
  have c10_s3 : w10.cell? ⟨w.heap.size, 3, none⟩ = some (.int .i64 v) := by rw [Lib.cell_of_heap h_s10]; rfl
  have c10_l0 : w10.cell? ⟨w.heap.size + 1, 0, none⟩ = some (.int .i64 3) := by rw [Lib.cell_of_heap h_l10]; rfl
  have c10_l1 : w10.cell? ⟨w.heap.size + 1, 1, none⟩ = some (.int .i64 a) := by rw [Lib.cell_of_heap h_l10]; rfl
  have c10_l2 : w10.cell? ⟨w.heap.size + 1, 2, none⟩ = some (.int .i64 2) := by rw [Lib.cell_of_heap h_l10]; rfl
  have c10_l3 : w10.cell? ⟨w.heap.size + 1, 3, none⟩ = some (.int .i64 b) := by rw [Lib.cell_of_heap h_l10]; rfl
  have c10_A0 : w10.cell? ⟨w3.heap.size, 0, none⟩ = some (.int .i64 t) := by rw [Lib.cell_of_heap h_A10]; rfl
  have c10_A1 : w10.cell? ⟨w3.heap.size, 1, none⟩ = some (.bool false) := by rw [Lib.cell_of_heap h_A10]; rfl
  have c10_A2 : w10.cell? ⟨w3.heap.size, 2, none⟩ = some (.int .i64 y) := by rw [Lib.cell_of_heap h_A10]; rfl
  have c10_A3 : w10.cell? ⟨w3.heap.size, 3, none⟩ = some (.int .i64 u) := by rw [Lib.cell_of_heap h_A10]; rfl
  have c10_B0 : w10.cell? ⟨w5.heap.size, 0, none⟩ = some (.int .i64 t) := by rw [Lib.cell_of_heap h_B10]; rfl
  have c10_B1 : w10.cell? ⟨w5.heap.size, 1, none⟩ = some (.bool false) := by rw [Lib.cell_of_heap h_B10]; rfl
  have c10_B2 : w10.cell? ⟨w5.heap.size, 2, none⟩ = some (.int .i64 z) := by rw [Lib.cell_of_heap h_B10]; rfl
  have c10_B3 : w10.cell? ⟨w5.heap.size, 3, none⟩ = some (.int .i64 u2) := by rw [Lib.cell_of_heap h_B10]; rfl
  have c10_C0 : w10.cell? ⟨w7.heap.size, 0, none⟩ = some (.int .i64 t) := by rw [Lib.cell_of_heap h_C10]; rfl
  have c10_C1 : w10.cell? ⟨w7.heap.size, 1, none⟩ = some (.bool false) := by rw [Lib.cell_of_heap h_C10]; rfl
  have c10_C2 : w10.cell? ⟨w7.heap.size, 2, none⟩ = some (.int .i64 y2) := by rw [Lib.cell_of_heap h_C10]; rfl
  have c10_C3 : w10.cell? ⟨w7.heap.size, 3, none⟩ = some (.int .i64 u) := by rw [Lib.cell_of_heap h_C10]; rfl
  have c10_D0 : w10.cell? ⟨w9.heap.size, 0, none⟩ = some (.int .i64 t) := by rw [Lib.cell_of_heap h_D10]; rfl
  have c10_D1 : w10.cell? ⟨w9.heap.size, 1, none⟩ = some (.bool false) := by rw [Lib.cell_of_heap h_D10]; rfl
  have c10_D2 : w10.cell? ⟨w9.heap.size, 2, none⟩ = some (.int .i64 y2) := by rw [Lib.cell_of_heap h_D10]; rfl
  have c10_D3 : w10.cell? ⟨w9.heap.size, 3, none⟩ = some (.int .i64 u) := by rw [Lib.cell_of_heap h_D10]; rfl
  go_wp2_with (rw [← HX10.out])
  refine (HW.out _ hb10).mono ?_
  rintro e w11 ⟨rfl, hb⟩
  clear c10_s0 c10_s1 c10_s2 c10_s3 c10_l0 c10_l1 c10_l2 c10_l3 c10_A0 c10_A1 c10_A2 c10_A3 c10_B0 c10_B1 c10_B2 c10_B3 c10_C0 c10_C1 c10_C2 c10_C3 c10_D0 c10_D1 c10_D2 c10_D3
  have h_s11 := (hb.block (w.heap.size) (by omega)).trans h_s10
  have h_l11 := (hb.block (w.heap.size + 1) (by omega)).trans h_l10
  have h_A11 := (hb.block (w3.heap.size) (by omega)).trans h_A10
  have h_B11 := (hb.block (w5.heap.size) (by omega)).trans h_B10
  have h_C11 := (hb.block (w7.heap.size) (by omega)).trans h_C10
  have h_D11 := (hb.block (w9.heap.size) (by omega)).trans h_D10
  have hb11 : Below w.heap.size w w11 := hb10.trans (hb.mono (by omega))
  have hz11 : w10.heap.size ≤ w11.heap.size := hb.size
  clear hb
  go_wp2_with fail
  all_goals
    go_ret
    exact ⟨rfl, hb11⟩
set_option maxRecDepth 100000 in
set_option maxHeartbeats 8000000 in
theorem s5_32 (t x v a b : Int) (w : World) (HAK : Hid (∀ X : World, Below w.heap.size w X → Asked X))
    (HM : Hid (∀ X : World, Calls Tryd.prog 15 #[.agg #[.int .i64 t, .bool false, .int .i64 x, .int .i64 v]] X (NumPost (.bool true) X)))
    (P1 : Hid (∀ X : World, Calls Tryd.prog 13 #[.agg #[.int .i64 t, .bool false, .int .i64 x, .int .i64 v], .agg #[.int .i64 3, .int .i64 a]] X (NumPost (.agg #[.int .i64 t, .bool false, .int .i64 (x - a), .int .i64 (v + 1)]) X)))
    (P2 : Hid (∀ X : World, Calls Tryd.prog 13 #[.agg #[.int .i64 t, .bool false, .int .i64 (x - a), .int .i64 (v + 1)], .agg #[.int .i64 2, .int .i64 b]] X (NumPost (.agg #[.int .i64 t, .bool false, .int .i64 ((x - a) + b), .int .i64 (v + 1 + 1)]) X)))
    (P3 : Hid (∀ X : World, Calls Tryd.prog 13 #[.agg #[.int .i64 t, .bool false, .int .i64 x, .int .i64 v], .agg #[.int .i64 2, .int .i64 b]] X (NumPost (.agg #[.int .i64 t, .bool false, .int .i64 (x + b), .int .i64 (v + 1)]) X)))
    (P4 : Hid (∀ X : World, Calls Tryd.prog 13 #[.agg #[.int .i64 t, .bool false, .int .i64 (x + b), .int .i64 (v + 1)], .agg #[.int .i64 3, .int .i64 a]] X (NumPost (.agg #[.int .i64 t, .bool false, .int .i64 ((x - a) + b), .int .i64 (v + 1 + 1)]) X))) (e1 : ((x - a) == x) = false) (e2 : (((x - a) + b) == (x - a)) = false) (e3 : ((x + b) == x) = false) (e4 : (((x - a) + b) == (x + b)) = false)
    (b0 : -1099511627776 ≤ x ∧ x ≤ 1099511627776) (b1 : 1 ≤ a ∧ a ≤ 4398046511104) (b2 : 1 ≤ b ∧ b ≤ 4398046511104) :
    Calls Tryd.prog 8 #[.agg #[.int .i64 t, .bool false, .int .i64 x, .int .i64 v], .agg #[.int .i64 3, .int .i64 a, .int .i64 2, .int .i64 b]] w (fun e w' => e = .returned (.bool true) ∧ Below w.heap.size w w') := by
  have HW := Lib.hid (fun X (hX : Below w.heap.size w X) => aeWorks_any X (HAK.out X hX))
  clear HAK
  obtain ⟨w1, HX1⟩ : ∃ W : World, Hid (W = ((w.alloc (.cells #[.int .i64 t, .bool false, .int .i64 x, .int .i64 v] 23)).alloc (.cells #[.int .i64 3, .int .i64 a, .int .i64 2, .int .i64 b] 41))) := ⟨_, Lib.hid rfl⟩
  obtain ⟨hz1, hb1, h_s1, h_l1⟩ := two_blocks HX1.out
  replace hz1 : w.heap.size + 2 ≤ w1.heap.size := by omega
  have c1_s0 : w1.cell? ⟨w.heap.size, 0, none⟩ = some (.int .i64 t) := by rw [Lib.cell_of_heap h_s1]; rfl
  have c1_s1 : w1.cell? ⟨w.heap.size, 1, none⟩ = some (.bool false) := by rw [Lib.cell_of_heap h_s1]; rfl
  have c1_s2 : w1.cell? ⟨w.heap.size, 2, none⟩ = some (.int .i64 x) := by rw [Lib.cell_of_heap h_s1]; rfl
  have c1_s3 : w1.cell? ⟨w.heap.size, 3, none⟩ = some (.int .i64 v) := by rw [Lib.cell_of_heap h_s1]; rfl
  go_enter Tryd.func8, Tryd.ntmps8
  go_wp2_with (rw [← HX1.out])
  refine (HM.out _).mono ?_
  rintro e w2 ⟨rfl, hb⟩
  clear c1_s0 c1_s1 c1_s2 c1_s3
  have h_s2 := (hb.block (w.heap.size) (by omega)).trans h_s1
  have h_l2 := (hb.block (w.heap.size + 1) (by omega)).trans h_l1
  have hb2 : Below w.heap.size w w2 := hb1.trans (hb.mono (by omega))
  have hz2 : w1.heap.size ≤ w2.heap.size := hb.size
  clear hb
  have c2_s0 : w2.cell? ⟨w.heap.size, 0, none⟩ = some (.int .i64 t) := by rw [Lib.cell_of_heap h_s2]; rfl
  have c2_s1 : w2.cell? ⟨w.heap.size, 1, none⟩ = some (.bool false) := by rw [Lib.cell_of_heap h_s2]; rfl
  have c2_s2 : w2.cell? ⟨w.heap.size, 2, none⟩ = some (.int .i64 x) := by rw [Lib.cell_of_heap h_s2]; rfl
  have c2_s3 : w2.cell? ⟨w.heap.size, 3, none⟩ = some (.int .i64 v) := by rw [Lib.cell_of_heap h_s2]; rfl
  have c2_l0 : w2.cell? ⟨w.heap.size + 1, 0, none⟩ = some (.int .i64 3) := by rw [Lib.cell_of_heap h_l2]; rfl
  have c2_l1 : w2.cell? ⟨w.heap.size + 1, 1, none⟩ = some (.int .i64 a) := by rw [Lib.cell_of_heap h_l2]; rfl
  have c2_l2 : w2.cell? ⟨w.heap.size + 1, 2, none⟩ = some (.int .i64 2) := by rw [Lib.cell_of_heap h_l2]; rfl
  have c2_l3 : w2.cell? ⟨w.heap.size + 1, 3, none⟩ = some (.int .i64 b) := by rw [Lib.cell_of_heap h_l2]; rfl
  go_wp2_with fail
  refine (P1.out _).mono ?_
  rintro e w3 ⟨rfl, hb⟩
  clear c2_s0 c2_s1 c2_s2 c2_s3 c2_l0 c2_l1 c2_l2 c2_l3
  have h_s3 := (hb.block (w.heap.size) (by omega)).trans h_s2
  have h_l3 := (hb.block (w.heap.size + 1) (by omega)).trans h_l2
  have hb3 : Below w.heap.size w w3 := hb2.trans (hb.mono (by omega))
  have hz3 : w2.heap.size ≤ w3.heap.size := hb.size
  clear hb
  obtain ⟨w4, HX4⟩ : ∃ W : World, Hid (W = w3.alloc (.cells #[.int .i64 t, .bool false, .int .i64 (x - a), .int .i64 (v + 1)] 23)) := ⟨_, Lib.hid rfl⟩
  have hb : Below w3.heap.size w3 w4 := by rw [HX4.out]; exact (Below.refl _ _).alloc (Nat.le_refl _) _
  have h_A4 : w4.heap[w3.heap.size]? = some (.cells #[.int .i64 t, .bool false, .int .i64 (x - a), .int .i64 (v + 1)] 23 (0, 0)) := by rw [HX4.out]; exact heap_alloc_new _ _
  have hy4 : w3.heap.size < w4.heap.size := by rw [HX4.out]; simp
  have h_s4 := (hb.block (w.heap.size) (by omega)).trans h_s3
  have h_l4 := (hb.block (w.heap.size + 1) (by omega)).trans h_l3
  have hb4 : Below w.heap.size w w4 := hb3.trans (hb.mono (by omega))
  have hz4 : w3.heap.size ≤ w4.heap.size := hb.size
  clear hb
  have c4_A0 : w4.cell? ⟨w3.heap.size, 0, none⟩ = some (.int .i64 t) := by rw [Lib.cell_of_heap h_A4]; rfl
  have c4_A1 : w4.cell? ⟨w3.heap.size, 1, none⟩ = some (.bool false) := by rw [Lib.cell_of_heap h_A4]; rfl
  have c4_A2 : w4.cell? ⟨w3.heap.size, 2, none⟩ = some (.int .i64 (x - a)) := by rw [Lib.cell_of_heap h_A4]; rfl
  have c4_A3 : w4.cell? ⟨w3.heap.size, 3, none⟩ = some (.int .i64 (v + 1)) := by rw [Lib.cell_of_heap h_A4]; rfl
  have c4_l0 : w4.cell? ⟨w.heap.size + 1, 0, none⟩ = some (.int .i64 3) := by rw [Lib.cell_of_heap h_l4]; rfl
  have c4_l1 : w4.cell? ⟨w.heap.size + 1, 1, none⟩ = some (.int .i64 a) := by rw [Lib.cell_of_heap h_l4]; rfl
  have c4_l2 : w4.cell? ⟨w.heap.size + 1, 2, none⟩ = some (.int .i64 2) := by rw [Lib.cell_of_heap h_l4]; rfl
  have c4_l3 : w4.cell? ⟨w.heap.size + 1, 3, none⟩ = some (.int .i64 b) := by rw [Lib.cell_of_heap h_l4]; rfl
  go_wp2_with (rw [← HX4.out])
  refine (P2.out _).mono ?_
  rintro e w5 ⟨rfl, hb⟩
  clear c4_A0 c4_A1 c4_A2 c4_A3 c4_l0 c4_l1 c4_l2 c4_l3
  have h_s5 := (hb.block (w.heap.size) (by omega)).trans h_s4
  have h_l5 := (hb.block (w.heap.size + 1) (by omega)).trans h_l4
  have h_A5 := (hb.block (w3.heap.size) (by omega)).trans h_A4
  have hb5 : Below w.heap.size w w5 := hb4.trans (hb.mono (by omega))
  have hz5 : w4.heap.size ≤ w5.heap.size := hb.size
  clear hb
  obtain ⟨w6, HX6⟩ : ∃ W : World, Hid (W = w5.alloc (.cells #[.int .i64 t, .bool false, .int .i64 ((x - a) + b), .int .i64 (v + 1 + 1)] 23)) := ⟨_, Lib.hid rfl⟩
  have hb : Below w5.heap.size w5 w6 := by rw [HX6.out]; exact (Below.refl _ _).alloc (Nat.le_refl _) _
  have h_B6 : w6.heap[w5.heap.size]? = some (.cells #[.int .i64 t, .bool false, .int .i64 ((x - a) + b), .int .i64 (v + 1 + 1)] 23 (0, 0)) := by rw [HX6.out]; exact heap_alloc_new _ _
  have hy6 : w5.heap.size < w6.heap.size := by rw [HX6.out]; simp
  have h_s6 := (hb.block (w.heap.size) (by omega)).trans h_s5
  have h_l6 := (hb.block (w.heap.size + 1) (by omega)).trans h_l5
  have h_A6 := (hb.block (w3.heap.size) (by omega)).trans h_A5
  have hb6 : Below w.heap.size w w6 := hb5.trans (hb.mono (by omega))
  have hz6 : w5.heap.size ≤ w6.heap.size := hb.size
  clear hb
  have c6_s0 : w6.cell? ⟨w.heap.size, 0, none⟩ = some (.int .i64 t) := by rw [Lib.cell_of_heap h_s6]; rfl
  have c6_s1 : w6.cell? ⟨w.heap.size, 1, none⟩ = some (.bool false) := by rw [Lib.cell_of_heap h_s6]; rfl
  have c6_s2 : w6.cell? ⟨w.heap.size, 2, none⟩ = some (.int .i64 x) := by rw [Lib.cell_of_heap h_s6]; rfl
  have c6_s3 : w6.cell? ⟨w.heap.size, 3, none⟩ = some (.int .i64 v) := by rw [Lib.cell_of_heap h_s6]; rfl
  have c6_l0 : w6.cell? ⟨w.heap.size + 1, 0, none⟩ = some (.int .i64 3) := by rw [Lib.cell_of_heap h_l6]; rfl
  have c6_l1 : w6.cell? ⟨w.heap.size + 1, 1, none⟩ = some (.int .i64 a) := by rw [Lib.cell_of_heap h_l6]; rfl
  have c6_l2 : w6.cell? ⟨w.heap.size + 1, 2, none⟩ = some (.int .i64 2) := by rw [Lib.cell_of_heap h_l6]; rfl
  have c6_l3 : w6.cell? ⟨w.heap.size + 1, 3, none⟩ = some (.int .i64 b) := by rw [Lib.cell_of_heap h_l6]; rfl
  go_wp2_with (rw [← HX6.out])
  refine (P3.out _).mono ?_
  rintro e w7 ⟨rfl, hb⟩
  clear c6_s0 c6_s1 c6_s2 c6_s3 c6_l0 c6_l1 c6_l2 c6_l3
  have h_s7 := (hb.block (w.heap.size) (by omega)).trans h_s6
  have h_l7 := (hb.block (w.heap.size + 1) (by omega)).trans h_l6
  have h_A7 := (hb.block (w3.heap.size) (by omega)).trans h_A6
  have h_B7 := (hb.block (w5.heap.size) (by omega)).trans h_B6
  have hb7 : Below w.heap.size w w7 := hb6.trans (hb.mono (by omega))
  have hz7 : w6.heap.size ≤ w7.heap.size := hb.size
  clear hb
  obtain ⟨w8, HX8⟩ : ∃ W : World, Hid (W = w7.alloc (.cells #[.int .i64 t, .bool false, .int .i64 (x + b), .int .i64 (v + 1)] 23)) := ⟨_, Lib.hid rfl⟩
  have hb : Below w7.heap.size w7 w8 := by rw [HX8.out]; exact (Below.refl _ _).alloc (Nat.le_refl _) _
  have h_C8 : w8.heap[w7.heap.size]? = some (.cells #[.int .i64 t, .bool false, .int .i64 (x + b), .int .i64 (v + 1)] 23 (0, 0)) := by rw [HX8.out]; exact heap_alloc_new _ _
  have hy8 : w7.heap.size < w8.heap.size := by rw [HX8.out]; simp
  have h_s8 := (hb.block (w.heap.size) (by omega)).trans h_s7
  have h_l8 := (hb.block (w.heap.size + 1) (by omega)).trans h_l7
  have h_A8 := (hb.block (w3.heap.size) (by omega)).trans h_A7
  have h_B8 := (hb.block (w5.heap.size) (by omega)).trans h_B7
  have hb8 : Below w.heap.size w w8 := hb7.trans (hb.mono (by omega))
  have hz8 : w7.heap.size ≤ w8.heap.size := hb.size
  clear hb
  have c8_C0 : w8.cell? ⟨w7.heap.size, 0, none⟩ = some (.int .i64 t) := by rw [Lib.cell_of_heap h_C8]; rfl
  have c8_C1 : w8.cell? ⟨w7.heap.size, 1, none⟩ = some (.bool false) := by rw [Lib.cell_of_heap h_C8]; rfl
  have c8_C2 : w8.cell? ⟨w7.heap.size, 2, none⟩ = some (.int .i64 (x + b)) := by rw [Lib.cell_of_heap h_C8]; rfl
  have c8_C3 : w8.cell? ⟨w7.heap.size, 3, none⟩ = some (.int .i64 (v + 1)) := by rw [Lib.cell_of_heap h_C8]; rfl
  have c8_l0 : w8.cell? ⟨w.heap.size + 1, 0, none⟩ = some (.int .i64 3) := by rw [Lib.cell_of_heap h_l8]; rfl
  have c8_l1 : w8.cell? ⟨w.heap.size + 1, 1, none⟩ = some (.int .i64 a) := by rw [Lib.cell_of_heap h_l8]; rfl
  have c8_l2 : w8.cell? ⟨w.heap.size + 1, 2, none⟩ = some (.int .i64 2) := by rw [Lib.cell_of_heap h_l8]; rfl
  have c8_l3 : w8.cell? ⟨w.heap.size + 1, 3, none⟩ = some (.int .i64 b) := by rw [Lib.cell_of_heap h_l8]; rfl
  go_wp2_with (rw [← HX8.out])
  refine (P4.out _).mono ?_
  rintro e w9 ⟨rfl, hb⟩
  clear c8_C0 c8_C1 c8_C2 c8_C3 c8_l0 c8_l1 c8_l2 c8_l3
  have h_s9 := (hb.block (w.heap.size) (by omega)).trans h_s8
  have h_l9 := (hb.block (w.heap.size + 1) (by omega)).trans h_l8
  have h_A9 := (hb.block (w3.heap.size) (by omega)).trans h_A8
  have h_B9 := (hb.block (w5.heap.size) (by omega)).trans h_B8
  have h_C9 := (hb.block (w7.heap.size) (by omega)).trans h_C8
  have hb9 : Below w.heap.size w w9 := hb8.trans (hb.mono (by omega))
  have hz9 : w8.heap.size ≤ w9.heap.size := hb.size
  clear hb
  obtain ⟨w10, HX10⟩ : ∃ W : World, Hid (W = w9.alloc (.cells #[.int .i64 t, .bool false, .int .i64 ((x - a) + b), .int .i64 (v + 1 + 1)] 23)) := ⟨_, Lib.hid rfl⟩
  have hb : Below w9.heap.size w9 w10 := by rw [HX10.out]; exact (Below.refl _ _).alloc (Nat.le_refl _) _
  have h_D10 : w10.heap[w9.heap.size]? = some (.cells #[.int .i64 t, .bool false, .int .i64 ((x - a) + b), .int .i64 (v + 1 + 1)] 23 (0, 0)) := by rw [HX10.out]; exact heap_alloc_new _ _
  have hy10 : w9.heap.size < w10.heap.size := by rw [HX10.out]; simp
  have h_s10 := (hb.block (w.heap.size) (by omega)).trans h_s9
  have h_l10 := (hb.block (w.heap.size + 1) (by omega)).trans h_l9
  have h_A10 := (hb.block (w3.heap.size) (by omega)).trans h_A9
  have h_B10 := (hb.block (w5.heap.size) (by omega)).trans h_B9
  have h_C10 := (hb.block (w7.heap.size) (by omega)).trans h_C9
  have hb10 : Below w.heap.size w w10 := hb9.trans (hb.mono (by omega))
  have hz10 : w9.heap.size ≤ w10.heap.size := hb.size
  clear hb
  have c10_s0 : w10.cell? ⟨w.heap.size, 0, none⟩ = some (.int .i64 t) := by rw [Lib.cell_of_heap h_s10]; rfl
  have c10_s1 : w10.cell? ⟨w.heap.size, 1, none⟩ = some (.bool false) := by rw [Lib.cell_of_heap h_s10]; rfl
  have c10_s2 : w10.cell? ⟨w.heap.size, 2, none⟩ = some (.int .i64 x) := by rw [Lib.cell_of_heap h_s10]; rfl
  have c10_s3 : w10.cell? ⟨w.heap.size, 3, none⟩ = some (.int .i64 v) := by rw [Lib.cell_of_heap h_s10]; rfl
  have c10_l0 : w10.cell? ⟨w.heap.size + 1, 0, none⟩ = some (.int .i64 3) := by rw [Lib.cell_of_heap h_l10]; rfl
  have c10_l1 : w10.cell? ⟨w.heap.size + 1, 1, none⟩ = some (.int .i64 a) := by rw [Lib.cell_of_heap h_l10]; rfl
  have c10_l2 : w10.cell? ⟨w.heap.size + 1, 2, none⟩ = some (.int .i64 2) := by rw [Lib.cell_of_heap h_l10]; rfl
  have c10_l3 : w10.cell? ⟨w.heap.size + 1, 3, none⟩ = some (.int .i64 b) := by rw [Lib.cell_of_heap h_l10]; rfl
  have c10_A0 : w10.cell? ⟨w3.heap.size, 0, none⟩ = some (.int .i64 t) := by rw [Lib.cell_of_heap h_A10]; rfl
  have c10_A1 : w10.cell? ⟨w3.heap.size, 1, none⟩ = some (.bool false) := by rw [Lib.cell_of_heap h_A10]; rfl
  have c10_A2 : w10.cell? ⟨w3.heap.size, 2, none⟩ = some (.int .i64 (x - a)) := by rw [Lib.cell_of_heap h_A10]; rfl
  have c10_A3 : w10.cell? ⟨w3.heap.size, 3, none⟩ = some (.int .i64 (v + 1)) := by rw [Lib.cell_of_heap h_A10]; rfl
  have c10_B0 : w10.cell? ⟨w5.heap.size, 0, none⟩ = some (.int .i64 t) := by rw [Lib.cell_of_heap h_B10]; rfl
  have c10_B1 : w10.cell? ⟨w5.heap.size, 1, none⟩ = some (.bool false) := by rw [Lib.cell_of_heap h_B10]; rfl
  have c10_B2 : w10.cell? ⟨w5.heap.size, 2, none⟩ = some (.int .i64 ((x - a) + b)) := by rw [Lib.cell_of_heap h_B10]; rfl
  have c10_B3 : w10.cell? ⟨w5.heap.size, 3, none⟩ = some (.int .i64 (v + 1 + 1)) := by rw [Lib.cell_of_heap h_B10]; rfl
  have c10_C0 : w10.cell? ⟨w7.heap.size, 0, none⟩ = some (.int .i64 t) := by rw [Lib.cell_of_heap h_C10]; rfl
  have c10_C1 : w10.cell? ⟨w7.heap.size, 1, none⟩ = some (.bool false) := by rw [Lib.cell_of_heap h_C10]; rfl
  have c10_C2 : w10.cell? ⟨w7.heap.size, 2, none⟩ = some (.int .i64 (x + b)) := by rw [Lib.cell_of_heap h_C10]; rfl
  have c10_C3 : w10.cell? ⟨w7.heap.size, 3, none⟩ = some (.int .i64 (v + 1)) := by rw [Lib.cell_of_heap h_C10]; rfl
  have c10_D0 : w10.cell? ⟨w9.heap.size, 0, none⟩ = some (.int .i64 t) := by rw [Lib.cell_of_heap h_D10]; rfl
  have c10_D1 : w10.cell? ⟨w9.heap.size, 1, none⟩ = some (.bool false) := by rw [Lib.cell_of_heap h_D10]; rfl
  have c10_D2 : w10.cell? ⟨w9.heap.size, 2, none⟩ = some (.int .i64 ((x - a) + b)) := by rw [Lib.cell_of_heap h_D10]; rfl
  have c10_D3 : w10.cell? ⟨w9.heap.size, 3, none⟩ = some (.int .i64 (v + 1 + 1)) := by rw [Lib.cell_of_heap h_D10]; rfl
  go_wp2_with (rw [← HX10.out])
  refine wp_loop_rounds 3 ?_
  rw [rounds_succ]
  go_wp2_with fail
  rw [rounds_succ]
  go_wp2_with fail
  rw [rounds_succ]
  go_wp2_with fail
  refine (HW.out _ hb10).mono ?_
  rintro e w11 ⟨rfl, hb⟩
  clear c10_s0 c10_s1 c10_s2 c10_s3 c10_l0 c10_l1 c10_l2 c10_l3 c10_A0 c10_A1 c10_A2 c10_A3 c10_B0 c10_B1 c10_B2 c10_B3 c10_C0 c10_C1 c10_C2 c10_C3 c10_D0 c10_D1 c10_D2 c10_D3
  have h_s11 := (hb.block (w.heap.size) (by omega)).trans h_s10
  have h_l11 := (hb.block (w.heap.size + 1) (by omega)).trans h_l10
  have h_A11 := (hb.block (w3.heap.size) (by omega)).trans h_A10
  have h_B11 := (hb.block (w5.heap.size) (by omega)).trans h_B10
  have h_C11 := (hb.block (w7.heap.size) (by omega)).trans h_C10
  have h_D11 := (hb.block (w9.heap.size) (by omega)).trans h_D10
  have hb11 : Below w.heap.size w w11 := hb10.trans (hb.mono (by omega))
  have hz11 : w10.heap.size ≤ w11.heap.size := hb.size
  clear hb
  go_wp2_with fail
  all_goals
    go_ret
    exact ⟨rfl, hb11⟩
set_option maxRecDepth 100000 in
set_option maxHeartbeats 8000000 in
theorem s1_33 (t : Int) (c : Bool) (x v a b t2 x2 v2 t3 x3 v3 t4 x4 v4 : Int) (c2 c3 c4 : Bool) (_z : Int) (w : World) (HAK : Hid (∀ X : World, Below w.heap.size w X → Asked X))
    (HM : Hid (∀ X : World, Calls Tryd.prog 15 #[.agg #[.int .i64 t, .bool c, .int .i64 x, .int .i64 v]] X (NumPost (.bool true) X)))
    (P1 : Hid (∀ X : World, Calls Tryd.prog 13 #[.agg #[.int .i64 t, .bool c, .int .i64 x, .int .i64 v], .agg #[.int .i64 3, .int .i64 a]] X (NumPost (.agg #[.int .i64 t, .bool c, .int .i64 x, .int .i64 v]) X)))
    (P2 : Hid (∀ X : World, Calls Tryd.prog 13 #[.agg #[.int .i64 t, .bool c, .int .i64 x, .int .i64 v], .agg #[.int .i64 3, .int .i64 b]] X (NumPost (.agg #[.int .i64 t2, .bool c2, .int .i64 x2, .int .i64 v2]) X)))
    (P3 : Hid (∀ X : World, Calls Tryd.prog 13 #[.agg #[.int .i64 t, .bool c, .int .i64 x, .int .i64 v], .agg #[.int .i64 3, .int .i64 b]] X (NumPost (.agg #[.int .i64 t3, .bool c3, .int .i64 x3, .int .i64 v3]) X)))
    (P4 : Hid (∀ X : World, Calls Tryd.prog 13 #[.agg #[.int .i64 t3, .bool c3, .int .i64 x3, .int .i64 v3], .agg #[.int .i64 3, .int .i64 a]] X (NumPost (.agg #[.int .i64 t4, .bool c4, .int .i64 x4, .int .i64 v4]) X))) :
    Calls Tryd.prog 8 #[.agg #[.int .i64 t, .bool c, .int .i64 x, .int .i64 v], .agg #[.int .i64 3, .int .i64 a, .int .i64 3, .int .i64 b]] w (fun e w' => e = .returned (.bool true) ∧ Below w.heap.size w w') := by
  have HW := Lib.hid (fun X (hX : Below w.heap.size w X) => aeWorks_any X (HAK.out X hX))
  clear HAK
  obtain ⟨w1, HX1⟩ : ∃ W : World, Hid (W = ((w.alloc (.cells #[.int .i64 t, .bool c, .int .i64 x, .int .i64 v] 23)).alloc (.cells #[.int .i64 3, .int .i64 a, .int .i64 3, .int .i64 b] 41))) := ⟨_, Lib.hid rfl⟩
  obtain ⟨hz1, hb1, h_s1, h_l1⟩ := two_blocks HX1.out
  replace hz1 : w.heap.size + 2 ≤ w1.heap.size := by omega
  have c1_s0 : w1.cell? ⟨w.heap.size, 0, none⟩ = some (.int .i64 t) := by rw [Lib.cell_of_heap h_s1]; rfl
  have c1_s1 : w1.cell? ⟨w.heap.size, 1, none⟩ = some (.bool c) := by rw [Lib.cell_of_heap h_s1]; rfl
  have c1_s2 : w1.cell? ⟨w.heap.size, 2, none⟩ = some (.int .i64 x) := by rw [Lib.cell_of_heap h_s1]; rfl
  have c1_s3 : w1.cell? ⟨w.heap.size, 3, none⟩ = some (.int .i64 v) := by rw [Lib.cell_of_heap h_s1]; rfl
  go_enter Tryd.func8, Tryd.ntmps8
  go_wp2_with (rw [← HX1.out])
  refine (HM.out _).mono ?_
  rintro e w2 ⟨rfl, hb⟩
  clear c1_s0 c1_s1 c1_s2 c1_s3
  have h_s2 := (hb.block (w.heap.size) (by omega)).trans h_s1
  have h_l2 := (hb.block (w.heap.size + 1) (by omega)).trans h_l1
  have hb2 : Below w.heap.size w w2 := hb1.trans (hb.mono (by omega))
  have hz2 : w1.heap.size ≤ w2.heap.size := hb.size
  clear hb
  have c2_s0 : w2.cell? ⟨w.heap.size, 0, none⟩ = some (.int .i64 t) := by rw [Lib.cell_of_heap h_s2]; rfl
  have c2_s1 : w2.cell? ⟨w.heap.size, 1, none⟩ = some (.bool c) := by rw [Lib.cell_of_heap h_s2]; rfl
  have c2_s2 : w2.cell? ⟨w.heap.size, 2, none⟩ = some (.int .i64 x) := by rw [Lib.cell_of_heap h_s2]; rfl
  have c2_s3 : w2.cell? ⟨w.heap.size, 3, none⟩ = some (.int .i64 v) := by rw [Lib.cell_of_heap h_s2]; rfl
  have c2_l0 : w2.cell? ⟨w.heap.size + 1, 0, none⟩ = some (.int .i64 3) := by rw [Lib.cell_of_heap h_l2]; rfl
  have c2_l1 : w2.cell? ⟨w.heap.size + 1, 1, none⟩ = some (.int .i64 a) := by rw [Lib.cell_of_heap h_l2]; rfl
  have c2_l2 : w2.cell? ⟨w.heap.size + 1, 2, none⟩ = some (.int .i64 3) := by rw [Lib.cell_of_heap h_l2]; rfl
  have c2_l3 : w2.cell? ⟨w.heap.size + 1, 3, none⟩ = some (.int .i64 b) := by rw [Lib.cell_of_heap h_l2]; rfl
  go_wp2_with fail
  refine (P1.out _).mono ?_
  rintro e w3 ⟨rfl, hb⟩
  clear c2_s0 c2_s1 c2_s2 c2_s3 c2_l0 c2_l1 c2_l2 c2_l3
  have h_s3 := (hb.block (w.heap.size) (by omega)).trans h_s2
  have h_l3 := (hb.block (w.heap.size + 1) (by omega)).trans h_l2
  have hb3 : Below w.heap.size w w3 := hb2.trans (hb.mono (by omega))
  have hz3 : w2.heap.size ≤ w3.heap.size := hb.size
  clear hb
  obtain ⟨w4, HX4⟩ : ∃ W : World, Hid (W = w3.alloc (.cells #[.int .i64 t, .bool c, .int .i64 x, .int .i64 v] 23)) := ⟨_, Lib.hid rfl⟩
  have hb : Below w3.heap.size w3 w4 := by rw [HX4.out]; exact (Below.refl _ _).alloc (Nat.le_refl _) _
  have h_A4 : w4.heap[w3.heap.size]? = some (.cells #[.int .i64 t, .bool c, .int .i64 x, .int .i64 v] 23 (0, 0)) := by rw [HX4.out]; exact heap_alloc_new _ _
  have hy4 : w3.heap.size < w4.heap.size := by rw [HX4.out]; simp
  have h_s4 := (hb.block (w.heap.size) (by omega)).trans h_s3
  have h_l4 := (hb.block (w.heap.size + 1) (by omega)).trans h_l3
  have hb4 : Below w.heap.size w w4 := hb3.trans (hb.mono (by omega))
  have hz4 : w3.heap.size ≤ w4.heap.size := hb.size
  clear hb
  have c4_A0 : w4.cell? ⟨w3.heap.size, 0, none⟩ = some (.int .i64 t) := by rw [Lib.cell_of_heap h_A4]; rfl
  have c4_A1 : w4.cell? ⟨w3.heap.size, 1, none⟩ = some (.bool c) := by rw [Lib.cell_of_heap h_A4]; rfl
  have c4_A2 : w4.cell? ⟨w3.heap.size, 2, none⟩ = some (.int .i64 x) := by rw [Lib.cell_of_heap h_A4]; rfl
  have c4_A3 : w4.cell? ⟨w3.heap.size, 3, none⟩ = some (.int .i64 v) := by rw [Lib.cell_of_heap h_A4]; rfl
  have c4_l0 : w4.cell? ⟨w.heap.size + 1, 0, none⟩ = some (.int .i64 3) := by rw [Lib.cell_of_heap h_l4]; rfl
  have c4_l1 : w4.cell? ⟨w.heap.size + 1, 1, none⟩ = some (.int .i64 a) := by rw [Lib.cell_of_heap h_l4]; rfl
  have c4_l2 : w4.cell? ⟨w.heap.size + 1, 2, none⟩ = some (.int .i64 3) := by rw [Lib.cell_of_heap h_l4]; rfl
  have c4_l3 : w4.cell? ⟨w.heap.size + 1, 3, none⟩ = some (.int .i64 b) := by rw [Lib.cell_of_heap h_l4]; rfl
  go_wp2_with (rw [← HX4.out])
  refine (P2.out _).mono ?_
  rintro e w5 ⟨rfl, hb⟩
  clear c4_A0 c4_A1 c4_A2 c4_A3 c4_l0 c4_l1 c4_l2 c4_l3
  have h_s5 := (hb.block (w.heap.size) (by omega)).trans h_s4
  have h_l5 := (hb.block (w.heap.size + 1) (by omega)).trans h_l4
  have h_A5 := (hb.block (w3.heap.size) (by omega)).trans h_A4
  have hb5 : Below w.heap.size w w5 := hb4.trans (hb.mono (by omega))
  have hz5 : w4.heap.size ≤ w5.heap.size := hb.size
  clear hb
  obtain ⟨w6, HX6⟩ : ∃ W : World, Hid (W = w5.alloc (.cells #[.int .i64 t2, .bool c2, .int .i64 x2, .int .i64 v2] 23)) := ⟨_, Lib.hid rfl⟩
  have hb : Below w5.heap.size w5 w6 := by rw [HX6.out]; exact (Below.refl _ _).alloc (Nat.le_refl _) _
  have h_B6 : w6.heap[w5.heap.size]? = some (.cells #[.int .i64 t2, .bool c2, .int .i64 x2, .int .i64 v2] 23 (0, 0)) := by rw [HX6.out]; exact heap_alloc_new _ _
  have hy6 : w5.heap.size < w6.heap.size := by rw [HX6.out]; simp
  have h_s6 := (hb.block (w.heap.size) (by omega)).trans h_s5
  have h_l6 := (hb.block (w.heap.size + 1) (by omega)).trans h_l5
  have h_A6 := (hb.block (w3.heap.size) (by omega)).trans h_A5
  have hb6 : Below w.heap.size w w6 := hb5.trans (hb.mono (by omega))
  have hz6 : w5.heap.size ≤ w6.heap.size := hb.size
  clear hb
  have c6_s0 : w6.cell? ⟨w.heap.size, 0, none⟩ = some (.int .i64 t) := by rw [Lib.cell_of_heap h_s6]; rfl
  have c6_s1 : w6.cell? ⟨w.heap.size, 1, none⟩ = some (.bool c) := by rw [Lib.cell_of_heap h_s6]; rfl
  have c6_s2 : w6.cell? ⟨w.heap.size, 2, none⟩ = some (.int .i64 x) := by rw [Lib.cell_of_heap h_s6]; rfl
  have c6_s3 : w6.cell? ⟨w.heap.size, 3, none⟩ = some (.int .i64 v) := by rw [Lib.cell_of_heap h_s6]; rfl
  have c6_l0 : w6.cell? ⟨w.heap.size + 1, 0, none⟩ = some (.int .i64 3) := by rw [Lib.cell_of_heap h_l6]; rfl
  have c6_l1 : w6.cell? ⟨w.heap.size + 1, 1, none⟩ = some (.int .i64 a) := by rw [Lib.cell_of_heap h_l6]; rfl
  have c6_l2 : w6.cell? ⟨w.heap.size + 1, 2, none⟩ = some (.int .i64 3) := by rw [Lib.cell_of_heap h_l6]; rfl
  have c6_l3 : w6.cell? ⟨w.heap.size + 1, 3, none⟩ = some (.int .i64 b) := by rw [Lib.cell_of_heap h_l6]; rfl
  go_wp2_with (rw [← HX6.out])
  refine (P3.out _).mono ?_
  rintro e w7 ⟨rfl, hb⟩
  clear c6_s0 c6_s1 c6_s2 c6_s3 c6_l0 c6_l1 c6_l2 c6_l3
  have h_s7 := (hb.block (w.heap.size) (by omega)).trans h_s6
  have h_l7 := (hb.block (w.heap.size + 1) (by omega)).trans h_l6
  have h_A7 := (hb.block (w3.heap.size) (by omega)).trans h_A6
  have h_B7 := (hb.block (w5.heap.size) (by omega)).trans h_B6
  have hb7 : Below w.heap.size w w7 := hb6.trans (hb.mono (by omega))
  have hz7 : w6.heap.size ≤ w7.heap.size := hb.size
  clear hb
  obtain ⟨w8, HX8⟩ : ∃ W : World, Hid (W = w7.alloc (.cells #[.int .i64 t3, .bool c3, .int .i64 x3, .int .i64 v3] 23)) := ⟨_, Lib.hid rfl⟩
  have hb : Below w7.heap.size w7 w8 := by rw [HX8.out]; exact (Below.refl _ _).alloc (Nat.le_refl _) _
  have h_C8 : w8.heap[w7.heap.size]? = some (.cells #[.int .i64 t3, .bool c3, .int .i64 x3, .int .i64 v3] 23 (0, 0)) := by rw [HX8.out]; exact heap_alloc_new _ _
  have hy8 : w7.heap.size < w8.heap.size := by rw [HX8.out]; simp
  have h_s8 := (hb.block (w.heap.size) (by omega)).trans h_s7
  have h_l8 := (hb.block (w.heap.size + 1) (by omega)).trans h_l7
  have h_A8 := (hb.block (w3.heap.size) (by omega)).trans h_A7
  have h_B8 := (hb.block (w5.heap.size) (by omega)).trans h_B7
  have hb8 : Below w.heap.size w w8 := hb7.trans (hb.mono (by omega))
  have hz8 : w7.heap.size ≤ w8.heap.size := hb.size
  clear hb
  have c8_C0 : w8.cell? ⟨w7.heap.size, 0, none⟩ = some (.int .i64 t3) := by rw [Lib.cell_of_heap h_C8]; rfl
  have c8_C1 : w8.cell? ⟨w7.heap.size, 1, none⟩ = some (.bool c3) := by rw [Lib.cell_of_heap h_C8]; rfl
  have c8_C2 : w8.cell? ⟨w7.heap.size, 2, none⟩ = some (.int .i64 x3) := by rw [Lib.cell_of_heap h_C8]; rfl
  have c8_C3 : w8.cell? ⟨w7.heap.size, 3, none⟩ = some (.int .i64 v3) := by rw [Lib.cell_of_heap h_C8]; rfl
  have c8_l0 : w8.cell? ⟨w.heap.size + 1, 0, none⟩ = some (.int .i64 3) := by rw [Lib.cell_of_heap h_l8]; rfl
  have c8_l1 : w8.cell? ⟨w.heap.size + 1, 1, none⟩ = some (.int .i64 a) := by rw [Lib.cell_of_heap h_l8]; rfl
  have c8_l2 : w8.cell? ⟨w.heap.size + 1, 2, none⟩ = some (.int .i64 3) := by rw [Lib.cell_of_heap h_l8]; rfl
  have c8_l3 : w8.cell? ⟨w.heap.size + 1, 3, none⟩ = some (.int .i64 b) := by rw [Lib.cell_of_heap h_l8]; rfl
  go_wp2_with (rw [← HX8.out])
  refine (P4.out _).mono ?_
  rintro e w9 ⟨rfl, hb⟩
  clear c8_C0 c8_C1 c8_C2 c8_C3 c8_l0 c8_l1 c8_l2 c8_l3
  have h_s9 := (hb.block (w.heap.size) (by omega)).trans h_s8
  have h_l9 := (hb.block (w.heap.size + 1) (by omega)).trans h_l8
  have h_A9 := (hb.block (w3.heap.size) (by omega)).trans h_A8
  have h_B9 := (hb.block (w5.heap.size) (by omega)).trans h_B8
  have h_C9 := (hb.block (w7.heap.size) (by omega)).trans h_C8
  have hb9 : Below w.heap.size w w9 := hb8.trans (hb.mono (by omega))
  have hz9 : w8.heap.size ≤ w9.heap.size := hb.size
  clear hb
  obtain ⟨w10, HX10⟩ : ∃ W : World, Hid (W = w9.alloc (.cells #[.int .i64 t4, .bool c4, .int .i64 x4, .int .i64 v4] 23)) := ⟨_, Lib.hid rfl⟩
  have hb : Below w9.heap.size w9 w10 := by rw [HX10.out]; exact (Below.refl _ _).alloc (Nat.le_refl _) _
  have h_D10 : w10.heap[w9.heap.size]? = some (.cells #[.int .i64 t4, .bool c4, .int .i64 x4, .int .i64 v4] 23 (0, 0)) := by rw [HX10.out]; exact heap_alloc_new _ _
  have hy10 : w9.heap.size < w10.heap.size := by rw [HX10.out]; simp
  have h_s10 := (hb.block (w.heap.size) (by omega)).trans h_s9
  have h_l10 := (hb.block (w.heap.size + 1) (by omega)).trans h_l9
  have h_A10 := (hb.block (w3.heap.size) (by omega)).trans h_A9
  have h_B10 := (hb.block (w5.heap.size) (by omega)).trans h_B9
  have h_C10 := (hb.block (w7.heap.size) (by omega)).trans h_C9
  have hb10 : Below w.heap.size w w10 := hb9.trans (hb.mono (by omega))
  have hz10 : w9.heap.size ≤ w10.heap.size := hb.size
  clear hb
  have c10_s0 : w10.cell? ⟨w.heap.size, 0, none⟩ = some (.int .i64 t) := by rw [Lib.cell_of_heap h_s10]; rfl
  have c10_s1 : w10.cell? ⟨w.heap.size, 1, none⟩ = some (.bool c) := by rw [Lib.cell_of_heap h_s10]; rfl
  have c10_s2 : w10.cell? ⟨w.heap.size, 2, none⟩ = some (.int .i64 x) := by rw [Lib.cell_of_heap h_s10]; rfl
  have c10_s3 : w10.cell? ⟨w.heap.size, 3, none⟩ = some (.int .i64 v) := by rw [Lib.cell_of_heap h_s10]; rfl
  have c10_l0 : w10.cell? ⟨w.heap.size + 1, 0, none⟩ = some (.int .i64 3) := by rw [Lib.cell_of_heap h_l10]; rfl
  have c10_l1 : w10.cell? ⟨w.heap.size + 1, 1, none⟩ = some (.int .i64 a) := by rw [Lib.cell_of_heap h_l10]; rfl
  have c10_l2 : w10.cell? ⟨w.heap.size + 1, 2, none⟩ = some (.int .i64 3) := by rw [Lib.cell_of_heap h_l10]; rfl
  have c10_l3 : w10.cell? ⟨w.heap.size + 1, 3, none⟩ = some (.int .i64 b) := by rw [Lib.cell_of_heap h_l10]; rfl
  have c10_A0 : w10.cell? ⟨w3.heap.size, 0, none⟩ = some (.int .i64 t) := by rw [Lib.cell_of_heap h_A10]; rfl
  have c10_A1 : w10.cell? ⟨w3.heap.size, 1, none⟩ = some (.bool c) := by rw [Lib.cell_of_heap h_A10]; rfl
  have c10_A2 : w10.cell? ⟨w3.heap.size, 2, none⟩ = some (.int .i64 x) := by rw [Lib.cell_of_heap h_A10]; rfl
  have c10_A3 : w10.cell? ⟨w3.heap.size, 3, none⟩ = some (.int .i64 v) := by rw [Lib.cell_of_heap h_A10]; rfl
  have c10_B0 : w10.cell? ⟨w5.heap.size, 0, none⟩ = some (.int .i64 t2) := by rw [Lib.cell_of_heap h_B10]; rfl
  have c10_B1 : w10.cell? ⟨w5.heap.size, 1, none⟩ = some (.bool c2) := by rw [Lib.cell_of_heap h_B10]; rfl
  have c10_B2 : w10.cell? ⟨w5.heap.size, 2, none⟩ = some (.int .i64 x2) := by rw [Lib.cell_of_heap h_B10]; rfl
  have c10_B3 : w10.cell? ⟨w5.heap.size, 3, none⟩ = some (.int .i64 v2) := by rw [Lib.cell_of_heap h_B10]; rfl
  have c10_C0 : w10.cell? ⟨w7.heap.size, 0, none⟩ = some (.int .i64 t3) := by rw [Lib.cell_of_heap h_C10]; rfl
  have c10_C1 : w10.cell? ⟨w7.heap.size, 1, none⟩ = some (.bool c3) := by rw [Lib.cell_of_heap h_C10]; rfl
  have c10_C2 : w10.cell? ⟨w7.heap.size, 2, none⟩ = some (.int .i64 x3) := by rw [Lib.cell_of_heap h_C10]; rfl
  have c10_C3 : w10.cell? ⟨w7.heap.size, 3, none⟩ = some (.int .i64 v3) := by rw [Lib.cell_of_heap h_C10]; rfl
  have c10_D0 : w10.cell? ⟨w9.heap.size, 0, none⟩ = some (.int .i64 t4) := by rw [Lib.cell_of_heap h_D10]; rfl
  have c10_D1 : w10.cell? ⟨w9.heap.size, 1, none⟩ = some (.bool c4) := by rw [Lib.cell_of_heap h_D10]; rfl
  have c10_D2 : w10.cell? ⟨w9.heap.size, 2, none⟩ = some (.int .i64 x4) := by rw [Lib.cell_of_heap h_D10]; rfl
  have c10_D3 : w10.cell? ⟨w9.heap.size, 3, none⟩ = some (.int .i64 v4) := by rw [Lib.cell_of_heap h_D10]; rfl
  go_wp2_with (rw [← HX10.out])
  refine (HW.out _ hb10).mono ?_
  rintro e w11 ⟨rfl, hb⟩
  clear c10_s0 c10_s1 c10_s2 c10_s3 c10_l0 c10_l1 c10_l2 c10_l3 c10_A0 c10_A1 c10_A2 c10_A3 c10_B0 c10_B1 c10_B2 c10_B3 c10_C0 c10_C1 c10_C2 c10_C3 c10_D0 c10_D1 c10_D2 c10_D3
  have h_s11 := (hb.block (w.heap.size) (by omega)).trans h_s10
  have h_l11 := (hb.block (w.heap.size + 1) (by omega)).trans h_l10
  have h_A11 := (hb.block (w3.heap.size) (by omega)).trans h_A10
  have h_B11 := (hb.block (w5.heap.size) (by omega)).trans h_B10
  have h_C11 := (hb.block (w7.heap.size) (by omega)).trans h_C10
  have h_D11 := (hb.block (w9.heap.size) (by omega)).trans h_D10
  have hb11 : Below w.heap.size w w11 := hb10.trans (hb.mono (by omega))
  have hz11 : w10.heap.size ≤ w11.heap.size := hb.size
  clear hb
  go_wp2_with fail
  all_goals
    go_ret
    exact ⟨rfl, hb11⟩
set_option maxRecDepth 100000 in
set_option maxHeartbeats 8000000 in
theorem s2_33 (t x v a b y u t3 x3 v3 t4 x4 v4 : Int) (c3 c4 : Bool) (_z : Int) (w : World) (HAK : Hid (∀ X : World, Below w.heap.size w X → Asked X))
    (HM : Hid (∀ X : World, Calls Tryd.prog 15 #[.agg #[.int .i64 t, .bool false, .int .i64 x, .int .i64 v]] X (NumPost (.bool true) X)))
    (P1 : Hid (∀ X : World, Calls Tryd.prog 13 #[.agg #[.int .i64 t, .bool false, .int .i64 x, .int .i64 v], .agg #[.int .i64 3, .int .i64 a]] X (NumPost (.agg #[.int .i64 t, .bool false, .int .i64 y, .int .i64 u]) X)))
    (P2 : Hid (∀ X : World, Calls Tryd.prog 13 #[.agg #[.int .i64 t, .bool false, .int .i64 y, .int .i64 u], .agg #[.int .i64 3, .int .i64 b]] X (NumPost (.agg #[.int .i64 t, .bool false, .int .i64 y, .int .i64 u]) X)))
    (P3 : Hid (∀ X : World, Calls Tryd.prog 13 #[.agg #[.int .i64 t, .bool false, .int .i64 x, .int .i64 v], .agg #[.int .i64 3, .int .i64 b]] X (NumPost (.agg #[.int .i64 t3, .bool c3, .int .i64 x3, .int .i64 v3]) X)))
    (P4 : Hid (∀ X : World, Calls Tryd.prog 13 #[.agg #[.int .i64 t3, .bool c3, .int .i64 x3, .int .i64 v3], .agg #[.int .i64 3, .int .i64 a]] X (NumPost (.agg #[.int .i64 t4, .bool c4, .int .i64 x4, .int .i64 v4]) X))) (e1 : (y == x) = false) :
    Calls Tryd.prog 8 #[.agg #[.int .i64 t, .bool false, .int .i64 x, .int .i64 v], .agg #[.int .i64 3, .int .i64 a, .int .i64 3, .int .i64 b]] w (fun e w' => e = .returned (.bool true) ∧ Below w.heap.size w w') := by
  have HW := Lib.hid (fun X (hX : Below w.heap.size w X) => aeWorks_any X (HAK.out X hX))
  clear HAK
  obtain ⟨w1, HX1⟩ : ∃ W : World, Hid (W = ((w.alloc (.cells #[.int .i64 t, .bool false, .int .i64 x, .int .i64 v] 23)).alloc (.cells #[.int .i64 3, .int .i64 a, .int .i64 3, .int .i64 b] 41))) := ⟨_, Lib.hid rfl⟩
  obtain ⟨hz1, hb1, h_s1, h_l1⟩ := two_blocks HX1.out
  replace hz1 : w.heap.size + 2 ≤ w1.heap.size := by omega
  have c1_s0 : w1.cell? ⟨w.heap.size, 0, none⟩ = some (.int .i64 t) := by rw [Lib.cell_of_heap h_s1]; rfl
  have c1_s1 : w1.cell? ⟨w.heap.size, 1, none⟩ = some (.bool false) := by rw [Lib.cell_of_heap h_s1]; rfl
  have c1_s2 : w1.cell? ⟨w.heap.size, 2, none⟩ = some (.int .i64 x) := by rw [Lib.cell_of_heap h_s1]; rfl
  have c1_s3 : w1.cell? ⟨w.heap.size, 3, none⟩ = some (.int .i64 v) := by rw [Lib.cell_of_heap h_s1]; rfl
  go_enter Tryd.func8, Tryd.ntmps8
  go_wp2_with (rw [← HX1.out])
  refine (HM.out _).mono ?_
  rintro e w2 ⟨rfl, hb⟩
  clear c1_s0 c1_s1 c1_s2 c1_s3
  have h_s2 := (hb.block (w.heap.size) (by omega)).trans h_s1
  have h_l2 := (hb.block (w.heap.size + 1) (by omega)).trans h_l1
  have hb2 : Below w.heap.size w w2 := hb1.trans (hb.mono (by omega))
  have hz2 : w1.heap.size ≤ w2.heap.size := hb.size
  clear hb
  have c2_s0 : w2.cell? ⟨w.heap.size, 0, none⟩ = some (.int .i64 t) := by rw [Lib.cell_of_heap h_s2]; rfl
  have c2_s1 : w2.cell? ⟨w.heap.size, 1, none⟩ = some (.bool false) := by rw [Lib.cell_of_heap h_s2]; rfl
  have c2_s2 : w2.cell? ⟨w.heap.size, 2, none⟩ = some (.int .i64 x) := by rw [Lib.cell_of_heap h_s2]; rfl
  have c2_s3 : w2.cell? ⟨w.heap.size, 3, none⟩ = some (.int .i64 v) := by rw [Lib.cell_of_heap h_s2]; rfl
  have c2_l0 : w2.cell? ⟨w.heap.size + 1, 0, none⟩ = some (.int .i64 3) := by rw [Lib.cell_of_heap h_l2]; rfl
  have c2_l1 : w2.cell? ⟨w.heap.size + 1, 1, none⟩ = some (.int .i64 a) := by rw [Lib.cell_of_heap h_l2]; rfl
  have c2_l2 : w2.cell? ⟨w.heap.size + 1, 2, none⟩ = some (.int .i64 3) := by rw [Lib.cell_of_heap h_l2]; rfl
  have c2_l3 : w2.cell? ⟨w.heap.size + 1, 3, none⟩ = some (.int .i64 b) := by rw [Lib.cell_of_heap h_l2]; rfl
  go_wp2_with fail
  refine (P1.out _).mono ?_
  rintro e w3 ⟨rfl, hb⟩
  clear c2_s0 c2_s1 c2_s2 c2_s3 c2_l0 c2_l1 c2_l2 c2_l3
  have h_s3 := (hb.block (w.heap.size) (by omega)).trans h_s2
  have h_l3 := (hb.block (w.heap.size + 1) (by omega)).trans h_l2
  have hb3 : Below w.heap.size w w3 := hb2.trans (hb.mono (by omega))
  have hz3 : w2.heap.size ≤ w3.heap.size := hb.size
  clear hb
  obtain ⟨w4, HX4⟩ : ∃ W : World, Hid (W = w3.alloc (.cells #[.int .i64 t, .bool false, .int .i64 y, .int .i64 u] 23)) := ⟨_, Lib.hid rfl⟩
  have hb : Below w3.heap.size w3 w4 := by rw [HX4.out]; exact (Below.refl _ _).alloc (Nat.le_refl _) _
  have h_A4 : w4.heap[w3.heap.size]? = some (.cells #[.int .i64 t, .bool false, .int .i64 y, .int .i64 u] 23 (0, 0)) := by rw [HX4.out]; exact heap_alloc_new _ _
  have hy4 : w3.heap.size < w4.heap.size := by rw [HX4.out]; simp
  have h_s4 := (hb.block (w.heap.size) (by omega)).trans h_s3
  have h_l4 := (hb.block (w.heap.size + 1) (by omega)).trans h_l3
  have hb4 : Below w.heap.size w w4 := hb3.trans (hb.mono (by omega))
  have hz4 : w3.heap.size ≤ w4.heap.size := hb.size
  clear hb
  have c4_A0 : w4.cell? ⟨w3.heap.size, 0, none⟩ = some (.int .i64 t) := by rw [Lib.cell_of_heap h_A4]; rfl
  have c4_A1 : w4.cell? ⟨w3.heap.size, 1, none⟩ = some (.bool false) := by rw [Lib.cell_of_heap h_A4]; rfl
  have c4_A2 : w4.cell? ⟨w3.heap.size, 2, none⟩ = some (.int .i64 y) := by rw [Lib.cell_of_heap h_A4]; rfl
  have c4_A3 : w4.cell? ⟨w3.heap.size, 3, none⟩ = some (.int .i64 u) := by rw [Lib.cell_of_heap h_A4]; rfl
  have c4_l0 : w4.cell? ⟨w.heap.size + 1, 0, none⟩ = some (.int .i64 3) := by rw [Lib.cell_of_heap h_l4]; rfl
  have c4_l1 : w4.cell? ⟨w.heap.size + 1, 1, none⟩ = some (.int .i64 a) := by rw [Lib.cell_of_heap h_l4]; rfl
  have c4_l2 : w4.cell? ⟨w.heap.size + 1, 2, none⟩ = some (.int .i64 3) := by rw [Lib.cell_of_heap h_l4]; rfl
  have c4_l3 : w4.cell? ⟨w.heap.size + 1, 3, none⟩ = some (.int .i64 b) := by rw [Lib.cell_of_heap h_l4]; rfl
  go_wp2_with (rw [← HX4.out])
  refine (P2.out _).mono ?_
  rintro e w5 ⟨rfl, hb⟩
  clear c4_A0 c4_A1 c4_A2 c4_A3 c4_l0 c4_l1 c4_l2 c4_l3
  have h_s5 := (hb.block (w.heap.size) (by omega)).trans h_s4
  have h_l5 := (hb.block (w.heap.size + 1) (by omega)).trans h_l4
  have h_A5 := (hb.block (w3.heap.size) (by omega)).trans h_A4
  have hb5 : Below w.heap.size w w5 := hb4.trans (hb.mono (by omega))
  have hz5 : w4.heap.size ≤ w5.heap.size := hb.size
  clear hb
  obtain ⟨w6, HX6⟩ : ∃ W : World, Hid (W = w5.alloc (.cells #[.int .i64 t, .bool false, .int .i64 y, .int .i64 u] 23)) := ⟨_, Lib.hid rfl⟩
  have hb : Below w5.heap.size w5 w6 := by rw [HX6.out]; exact (Below.refl _ _).alloc (Nat.le_refl _) _
  have h_B6 : w6.heap[w5.heap.size]? = some (.cells #[.int .i64 t, .bool false, .int .i64 y, .int .i64 u] 23 (0, 0)) := by rw [HX6.out]; exact heap_alloc_new _ _
  have hy6 : w5.heap.size < w6.heap.size := by rw [HX6.out]; simp
  have h_s6 := (hb.block (w.heap.size) (by omega)).trans h_s5
  have h_l6 := (hb.block (w.heap.size + 1) (by omega)).trans h_l5
  have h_A6 := (hb.block (w3.heap.size) (by omega)).trans h_A5
  have hb6 : Below w.heap.size w w6 := hb5.trans (hb.mono (by omega))
  have hz6 : w5.heap.size ≤ w6.heap.size := hb.size
  clear hb
  have c6_s0 : w6.cell? ⟨w.heap.size, 0, none⟩ = some (.int .i64 t) := by rw [Lib.cell_of_heap h_s6]; rfl
  have c6_s1 : w6.cell? ⟨w.heap.size, 1, none⟩ = some (.bool false) := by rw [Lib.cell_of_heap h_s6]; rfl
  have c6_s2 : w6.cell? ⟨w.heap.size, 2, none⟩ = some (.int .i64 x) := by rw [Lib.cell_of_heap h_s6]; rfl
  have c6_s3 : w6.cell? ⟨w.heap.size, 3, none⟩ = some (.int .i64 v) := by rw [Lib.cell_of_heap h_s6]; rfl
  have c6_l0 : w6.cell? ⟨w.heap.size + 1, 0, none⟩ = some (.int .i64 3) := by rw [Lib.cell_of_heap h_l6]; rfl
  have c6_l1 : w6.cell? ⟨w.heap.size + 1, 1, none⟩ = some (.int .i64 a) := by rw [Lib.cell_of_heap h_l6]; rfl
  have c6_l2 : w6.cell? ⟨w.heap.size + 1, 2, none⟩ = some (.int .i64 3) := by rw [Lib.cell_of_heap h_l6]; rfl
  have c6_l3 : w6.cell? ⟨w.heap.size + 1, 3, none⟩ = some (.int .i64 b) := by rw [Lib.cell_of_heap h_l6]; rfl
  go_wp2_with (rw [← HX6.out])
  refine (P3.out _).mono ?_
  rintro e w7 ⟨rfl, hb⟩
  clear c6_s0 c6_s1 c6_s2 c6_s3 c6_l0 c6_l1 c6_l2 c6_l3
  have h_s7 := (hb.block (w.heap.size) (by omega)).trans h_s6
  have h_l7 := (hb.block (w.heap.size + 1) (by omega)).trans h_l6
  have h_A7 := (hb.block (w3.heap.size) (by omega)).trans h_A6
  have h_B7 := (hb.block (w5.heap.size) (by omega)).trans h_B6
  have hb7 : Below w.heap.size w w7 := hb6.trans (hb.mono (by omega))
  have hz7 : w6.heap.size ≤ w7.heap.size := hb.size
  clear hb
  obtain ⟨w8, HX8⟩ : ∃ W : World, Hid (W = w7.alloc (.cells #[.int .i64 t3, .bool c3, .int .i64 x3, .int .i64 v3] 23)) := ⟨_, Lib.hid rfl⟩
  have hb : Below w7.heap.size w7 w8 := by rw [HX8.out]; exact (Below.refl _ _).alloc (Nat.le_refl _) _
  have h_C8 : w8.heap[w7.heap.size]? = some (.cells #[.int .i64 t3, .bool c3, .int .i64 x3, .int .i64 v3] 23 (0, 0)) := by rw [HX8.out]; exact heap_alloc_new _ _
  have hy8 : w7.heap.size < w8.heap.size := by rw [HX8.out]; simp
  have h_s8 := (hb.block (w.heap.size) (by omega)).trans h_s7
  have h_l8 := (hb.block (w.heap.size + 1) (by omega)).trans h_l7
  have h_A8 := (hb.block (w3.heap.size) (by omega)).trans h_A7
  have h_B8 := (hb.block (w5.heap.size) (by omega)).trans h_B7
  have hb8 : Below w.heap.size w w8 := hb7.trans (hb.mono (by omega))
  have hz8 : w7.heap.size ≤ w8.heap.size := hb.size
  clear hb
  have c8_C0 : w8.cell? ⟨w7.heap.size, 0, none⟩ = some (.int .i64 t3) := by rw [Lib.cell_of_heap h_C8]; rfl
  have c8_C1 : w8.cell? ⟨w7.heap.size, 1, none⟩ = some (.bool c3) := by rw [Lib.cell_of_heap h_C8]; rfl
  have c8_C2 : w8.cell? ⟨w7.heap.size, 2, none⟩ = some (.int .i64 x3) := by rw [Lib.cell_of_heap h_C8]; rfl
  have c8_C3 : w8.cell? ⟨w7.heap.size, 3, none⟩ = some (.int .i64 v3) := by rw [Lib.cell_of_heap h_C8]; rfl
  have c8_l0 : w8.cell? ⟨w.heap.size + 1, 0, none⟩ = some (.int .i64 3) := by rw [Lib.cell_of_heap h_l8]; rfl
  have c8_l1 : w8.cell? ⟨w.heap.size + 1, 1, none⟩ = some (.int .i64 a) := by rw [Lib.cell_of_heap h_l8]; rfl
  have c8_l2 : w8.cell? ⟨w.heap.size + 1, 2, none⟩ = some (.int .i64 3) := by rw [Lib.cell_of_heap h_l8]; rfl
  have c8_l3 : w8.cell? ⟨w.heap.size + 1, 3, none⟩ = some (.int .i64 b) := by rw [Lib.cell_of_heap h_l8]; rfl
  go_wp2_with (rw [← HX8.out])
  refine (P4.out _).mono ?_
  rintro e w9 ⟨rfl, hb⟩
  clear c8_C0 c8_C1 c8_C2 c8_C3 c8_l0 c8_l1 c8_l2 c8_l3
  have h_s9 := (hb.block (w.heap.size) (by omega)).trans h_s8
  have h_l9 := (hb.block (w.heap.size + 1) (by omega)).trans h_l8
  have h_A9 := (hb.block (w3.heap.size) (by omega)).trans h_A8
  have h_B9 := (hb.block (w5.heap.size) (by omega)).trans h_B8
  have h_C9 := (hb.block (w7.heap.size) (by omega)).trans h_C8
  have hb9 : Below w.heap.size w w9 := hb8.trans (hb.mono (by omega))
  have hz9 : w8.heap.size ≤ w9.heap.size := hb.size
  clear hb
  obtain ⟨w10, HX10⟩ : ∃ W : World, Hid (W = w9.alloc (.cells #[.int .i64 t4, .bool c4, .int .i64 x4, .int .i64 v4] 23)) := ⟨_, Lib.hid rfl⟩
  have hb : Below w9.heap.size w9 w10 := by rw [HX10.out]; exact (Below.refl _ _).alloc (Nat.le_refl _) _
  have h_D10 : w10.heap[w9.heap.size]? = some (.cells #[.int .i64 t4, .bool c4, .int .i64 x4, .int .i64 v4] 23 (0, 0)) := by rw [HX10.out]; exact heap_alloc_new _ _
  have hy10 : w9.heap.size < w10.heap.size := by rw [HX10.out]; simp
  have h_s10 := (hb.block (w.heap.size) (by omega)).trans h_s9
  have h_l10 := (hb.block (w.heap.size + 1) (by omega)).trans h_l9
  have h_A10 := (hb.block (w3.heap.size) (by omega)).trans h_A9
  have h_B10 := (hb.block (w5.heap.size) (by omega)).trans h_B9
  have h_C10 := (hb.block (w7.heap.size) (by omega)).trans h_C9
  have hb10 : Below w.heap.size w w10 := hb9.trans (hb.mono (by omega))
  have hz10 : w9.heap.size ≤ w10.heap.size := hb.size
  clear hb
  have c10_s0 : w10.cell? ⟨w.heap.size, 0, none⟩ = some (.int .i64 t) := by rw [Lib.cell_of_heap h_s10]; rfl
  have c10_s1 : w10.cell? ⟨w.heap.size, 1, none⟩ = some (.bool false) := by rw [Lib.cell_of_heap h_s10]; rfl
  have c10_s2 : w10.cell? ⟨w.heap.size, 2, none⟩ = some (.int .i64 x) := by rw [Lib.cell_of_heap h_s10]; rfl
  have c10_s3 : w10.cell? ⟨w.heap.size, 3, none⟩ = some (.int .i64 v) := by rw [Lib.cell_of_heap h_s10]; rfl
  have c10_l0 : w10.cell? ⟨w.heap.size + 1, 0, none⟩ = some (.int .i64 3) := by rw [Lib.cell_of_heap h_l10]; rfl
  have c10_l1 : w10.cell? ⟨w.heap.size + 1, 1, none⟩ = some (.int .i64 a) := by rw [Lib.cell_of_heap h_l10]; rfl
  have c10_l2 : w10.cell? ⟨w.heap.size + 1, 2, none⟩ = some (.int .i64 3) := by rw [Lib.cell_of_heap h_l10]; rfl
  have c10_l3 : w10.cell? ⟨w.heap.size + 1, 3, none⟩ = some (.int .i64 b) := by rw [Lib.cell_of_heap h_l10]; rfl
  have c10_A0 : w10.cell? ⟨w3.heap.size, 0, none⟩ = some (.int .i64 t) := by rw [Lib.cell_of_heap h_A10]; rfl
  have c10_A1 : w10.cell? ⟨w3.heap.size, 1, none⟩ = some (.bool false) := by rw [Lib.cell_of_heap h_A10]; rfl
  have c10_A2 : w10.cell? ⟨w3.heap.size, 2, none⟩ = some (.int .i64 y) := by rw [Lib.cell_of_heap h_A10]; rfl
  have c10_A3 : w10.cell? ⟨w3.heap.size, 3, none⟩ = some (.int .i64 u) := by rw [Lib.cell_of_heap h_A10]; rfl
  have c10_B0 : w10.cell? ⟨w5.heap.size, 0, none⟩ = some (.int .i64 t) := by rw [Lib.cell_of_heap h_B10]; rfl
  have c10_B1 : w10.cell? ⟨w5.heap.size, 1, none⟩ = some (.bool false) := by rw [Lib.cell_of_heap h_B10]; rfl
  have c10_B2 : w10.cell? ⟨w5.heap.size, 2, none⟩ = some (.int .i64 y) := by rw [Lib.cell_of_heap h_B10]; rfl
  have c10_B3 : w10.cell? ⟨w5.heap.size, 3, none⟩ = some (.int .i64 u) := by rw [Lib.cell_of_heap h_B10]; rfl
  have c10_C0 : w10.cell? ⟨w7.heap.size, 0, none⟩ = some (.int .i64 t3) := by rw [Lib.cell_of_heap h_C10]; rfl
  have c10_C1 : w10.cell? ⟨w7.heap.size, 1, none⟩ = some (.bool c3) := by rw [Lib.cell_of_heap h_C10]; rfl
  have c10_C2 : w10.cell? ⟨w7.heap.size, 2, none⟩ = some (.int .i64 x3) := by rw [Lib.cell_of_heap h_C10]; rfl
  have c10_C3 : w10.cell? ⟨w7.heap.size, 3, none⟩ = some (.int .i64 v3) := by rw [Lib.cell_of_heap h_C10]; rfl
  have c10_D0 : w10.cell? ⟨w9.heap.size, 0, none⟩ = some (.int .i64 t4) := by rw [Lib.cell_of_heap h_D10]; rfl
  have c10_D1 : w10.cell? ⟨w9.heap.size, 1, none⟩ = some (.bool c4) := by rw [Lib.cell_of_heap h_D10]; rfl
  have c10_D2 : w10.cell? ⟨w9.heap.size, 2, none⟩ = some (.int .i64 x4) := by rw [Lib.cell_of_heap h_D10]; rfl
  have c10_D3 : w10.cell? ⟨w9.heap.size, 3, none⟩ = some (.int .i64 v4) := by rw [Lib.cell_of_heap h_D10]; rfl
  go_wp2_with (rw [← HX10.out])
  refine (HW.out _ hb10).mono ?_
  rintro e w11 ⟨rfl, hb⟩
  clear c10_s0 c10_s1 c10_s2 c10_s3 c10_l0 c10_l1 c10_l2 c10_l3 c10_A0 c10_A1 c10_A2 c10_A3 c10_B0 c10_B1 c10_B2 c10_B3 c10_C0 c10_C1 c10_C2 c10_C3 c10_D0 c10_D1 c10_D2 c10_D3
  have h_s11 := (hb.block (w.heap.size) (by omega)).trans h_s10
  have h_l11 := (hb.block (w.heap.size + 1) (by omega)).trans h_l10
  have h_A11 := (hb.block (w3.heap.size) (by omega)).trans h_A10
  have h_B11 := (hb.block (w5.heap.size) (by omega)).trans h_B10
  have h_C11 := (hb.block (w7.heap.size) (by omega)).trans h_C10
  have h_D11 := (hb.block (w9.heap.size) (by omega)).trans h_D10
  have hb11 : Below w.heap.size w w11 := hb10.trans (hb.mono (by omega))
  have hz11 : w10.heap.size ≤ w11.heap.size := hb.size
  clear hb
  go_wp2_with fail
  all_goals
    go_ret
    exact ⟨rfl, hb11⟩
set_option maxRecDepth 100000 in
set_option maxHeartbeats 8000000 in
theorem s3_33 (t x v a b y u z u2 t4 x4 v4 : Int) (c4 : Bool) (_z : Int) (w : World) (HAK : Hid (∀ X : World, Below w.heap.size w X → Asked X))
    (HM : Hid (∀ X : World, Calls Tryd.prog 15 #[.agg #[.int .i64 t, .bool false, .int .i64 x, .int .i64 v]] X (NumPost (.bool true) X)))
    (P1 : Hid (∀ X : World, Calls Tryd.prog 13 #[.agg #[.int .i64 t, .bool false, .int .i64 x, .int .i64 v], .agg #[.int .i64 3, .int .i64 a]] X (NumPost (.agg #[.int .i64 t, .bool false, .int .i64 y, .int .i64 u]) X)))
    (P2 : Hid (∀ X : World, Calls Tryd.prog 13 #[.agg #[.int .i64 t, .bool false, .int .i64 y, .int .i64 u], .agg #[.int .i64 3, .int .i64 b]] X (NumPost (.agg #[.int .i64 t, .bool false, .int .i64 z, .int .i64 u2]) X)))
    (P3 : Hid (∀ X : World, Calls Tryd.prog 13 #[.agg #[.int .i64 t, .bool false, .int .i64 x, .int .i64 v], .agg #[.int .i64 3, .int .i64 b]] X (NumPost (.agg #[.int .i64 t, .bool false, .int .i64 x, .int .i64 v]) X)))
    (P4 : Hid (∀ X : World, Calls Tryd.prog 13 #[.agg #[.int .i64 t, .bool false, .int .i64 x, .int .i64 v], .agg #[.int .i64 3, .int .i64 a]] X (NumPost (.agg #[.int .i64 t4, .bool c4, .int .i64 x4, .int .i64 v4]) X))) (e1 : (y == x) = false) (e2 : (z == y) = false) :
    Calls Tryd.prog 8 #[.agg #[.int .i64 t, .bool false, .int .i64 x, .int .i64 v], .agg #[.int .i64 3, .int .i64 a, .int .i64 3, .int .i64 b]] w (fun e w' => e = .returned (.bool true) ∧ Below w.heap.size w w') := by
  have HW := Lib.hid (fun X (hX : Below w.heap.size w X) => aeWorks_any X (HAK.out X hX))
  clear HAK
  obtain ⟨w1, HX1⟩ : ∃ W : World, Hid (W = ((w.alloc (.cells #[.int .i64 t, .bool false, .int .i64 x, .int .i64 v] 23)).alloc (.cells #[.int .i64 3, .int .i64 a, .int .i64 3, .int .i64 b] 41))) := ⟨_, Lib.hid rfl⟩
  obtain ⟨hz1, hb1, h_s1, h_l1⟩ := two_blocks HX1.out
  replace hz1 : w.heap.size + 2 ≤ w1.heap.size := by omega
  have c1_s0 : w1.cell? ⟨w.heap.size, 0, none⟩ = some (.int .i64 t) := by rw [Lib.cell_of_heap h_s1]; rfl
  have c1_s1 : w1.cell? ⟨w.heap.size, 1, none⟩ = some (.bool false) := by rw [Lib.cell_of_heap h_s1]; rfl
  have c1_s2 : w1.cell? ⟨w.heap.size, 2, none⟩ = some (.int .i64 x) := by rw [Lib.cell_of_heap h_s1]; rfl
  have c1_s3 : w1.cell? ⟨w.heap.size, 3, none⟩ = some (.int .i64 v) := by rw [Lib.cell_of_heap h_s1]; rfl
  go_enter Tryd.func8, Tryd.ntmps8
  go_wp2_with (rw [← HX1.out])
  refine (HM.out _).mono ?_
  rintro e w2 ⟨rfl, hb⟩
  clear c1_s0 c1_s1 c1_s2 c1_s3
  have h_s2 := (hb.block (w.heap.size) (by omega)).trans h_s1
  have h_l2 := (hb.block (w.heap.size + 1) (by omega)).trans h_l1
  have hb2 : Below w.heap.size w w2 := hb1.trans (hb.mono (by omega))
  have hz2 : w1.heap.size ≤ w2.heap.size := hb.size
  clear hb
  have c2_s0 : w2.cell? ⟨w.heap.size, 0, none⟩ = some (.int .i64 t) := by rw [Lib.cell_of_heap h_s2]; rfl
  have c2_s1 : w2.cell? ⟨w.heap.size, 1, none⟩ = some (.bool false) := by rw [Lib.cell_of_heap h_s2]; rfl
  have c2_s2 : w2.cell? ⟨w.heap.size, 2, none⟩ = some (.int .i64 x) := by rw [Lib.cell_of_heap h_s2]; rfl
  have c2_s3 : w2.cell? ⟨w.heap.size, 3, none⟩ = some (.int .i64 v) := by rw [Lib.cell_of_heap h_s2]; rfl
  have c2_l0 : w2.cell? ⟨w.heap.size + 1, 0, none⟩ = some (.int .i64 3) := by rw [Lib.cell_of_heap h_l2]; rfl
  have c2_l1 : w2.cell? ⟨w.heap.size + 1, 1, none⟩ = some (.int .i64 a) := by rw [Lib.cell_of_heap h_l2]; rfl
  have c2_l2 : w2.cell? ⟨w.heap.size + 1, 2, none⟩ = some (.int .i64 3) := by rw [Lib.cell_of_heap h_l2]; rfl
  have c2_l3 : w2.cell? ⟨w.heap.size + 1, 3, none⟩ = some (.int .i64 b) := by rw [Lib.cell_of_heap h_l2]; rfl
  go_wp2_with fail
  refine (P1.out _).mono ?_
  rintro e w3 ⟨rfl, hb⟩
  clear c2_s0 c2_s1 c2_s2 c2_s3 c2_l0 c2_l1 c2_l2 c2_l3
  have h_s3 := (hb.block (w.heap.size) (by omega)).trans h_s2
  have h_l3 := (hb.block (w.heap.size + 1) (by omega)).trans h_l2
  have hb3 : Below w.heap.size w w3 := hb2.trans (hb.mono (by omega))
  have hz3 : w2.heap.size ≤ w3.heap.size := hb.size
  clear hb
  obtain ⟨w4, HX4⟩ : ∃ W : World, Hid (W = w3.alloc (.cells #[.int .i64 t, .bool false, .int .i64 y, .int .i64 u] 23)) := ⟨_, Lib.hid rfl⟩
  have hb : Below w3.heap.size w3 w4 := by rw [HX4.out]; exact (Below.refl _ _).alloc (Nat.le_refl _) _
  have h_A4 : w4.heap[w3.heap.size]? = some (.cells #[.int .i64 t, .bool false, .int .i64 y, .int .i64 u] 23 (0, 0)) := by rw [HX4.out]; exact heap_alloc_new _ _
  have hy4 : w3.heap.size < w4.heap.size := by rw [HX4.out]; simp
  have h_s4 := (hb.block (w.heap.size) (by omega)).trans h_s3
  have h_l4 := (hb.block (w.heap.size + 1) (by omega)).trans h_l3
  have hb4 : Below w.heap.size w w4 := hb3.trans (hb.mono (by omega))
  have hz4 : w3.heap.size ≤ w4.heap.size := hb.size
  clear hb
  have c4_A0 : w4.cell? ⟨w3.heap.size, 0, none⟩ = some (.int .i64 t) := by rw [Lib.cell_of_heap h_A4]; rfl
  have c4_A1 : w4.cell? ⟨w3.heap.size, 1, none⟩ = some (.bool false) := by rw [Lib.cell_of_heap h_A4]; rfl
  have c4_A2 : w4.cell? ⟨w3.heap.size, 2, none⟩ = some (.int .i64 y) := by rw [Lib.cell_of_heap h_A4]; rfl
  have c4_A3 : w4.cell? ⟨w3.heap.size, 3, none⟩ = some (.int .i64 u) := by rw [Lib.cell_of_heap h_A4]; rfl
  have c4_l0 : w4.cell? ⟨w.heap.size + 1, 0, none⟩ = some (.int .i64 3) := by rw [Lib.cell_of_heap h_l4]; rfl
  have c4_l1 : w4.cell? ⟨w.heap.size + 1, 1, none⟩ = some (.int .i64 a) := by rw [Lib.cell_of_heap h_l4]; rfl
  have c4_l2 : w4.cell? ⟨w.heap.size + 1, 2, none⟩ = some (.int .i64 3) := by rw [Lib.cell_of_heap h_l4]; rfl
  have c4_l3 : w4.cell? ⟨w.heap.size + 1, 3, none⟩ = some (.int .i64 b) := by rw [Lib.cell_of_heap h_l4]; rfl
  go_wp2_with (rw [← HX4.out])
  refine (P2.out _).mono ?_
  rintro e w5 ⟨rfl, hb⟩
  clear c4_A0 c4_A1 c4_A2 c4_A3 c4_l0 c4_l1 c4_l2 c4_l3
  have h_s5 := (hb.block (w.heap.size) (by omega)).trans h_s4
  have h_l5 := (hb.block (w.heap.size + 1) (by omega)).trans h_l4
  have h_A5 := (hb.block (w3.heap.size) (by omega)).trans h_A4
  have hb5 : Below w.heap.size w w5 := hb4.trans (hb.mono (by omega))
  have hz5 : w4.heap.size ≤ w5.heap.size := hb.size
  clear hb
  obtain ⟨w6, HX6⟩ : ∃ W : World, Hid (W = w5.alloc (.cells #[.int .i64 t, .bool false, .int .i64 z, .int .i64 u2] 23)) := ⟨_, Lib.hid rfl⟩
  have hb : Below w5.heap.size w5 w6 := by rw [HX6.out]; exact (Below.refl _ _).alloc (Nat.le_refl _) _
  have h_B6 : w6.heap[w5.heap.size]? = some (.cells #[.int .i64 t, .bool false, .int .i64 z, .int .i64 u2] 23 (0, 0)) := by rw [HX6.out]; exact heap_alloc_new _ _
  have hy6 : w5.heap.size < w6.heap.size := by rw [HX6.out]; simp
  have h_s6 := (hb.block (w.heap.size) (by omega)).trans h_s5
  have h_l6 := (hb.block (w.heap.size + 1) (by omega)).trans h_l5
  have h_A6 := (hb.block (w3.heap.size) (by omega)).trans h_A5
  have hb6 : Below w.heap.size w w6 := hb5.trans (hb.mono (by omega))
  have hz6 : w5.heap.size ≤ w6.heap.size := hb.size
  clear hb
  have c6_s0 : w6.cell? ⟨w.heap.size, 0, none⟩ = some (.int .i64 t) := by rw [Lib.cell_of_heap h_s6]; rfl
  have c6_s1 : w6.cell? ⟨w.heap.size, 1, none⟩ = some (.bool false) := by rw [Lib.cell_of_heap h_s6]; rfl
  have c6_s2 : w6.cell? ⟨w.heap.size, 2, none⟩ = some (.int .i64 x) := by rw [Lib.cell_of_heap h_s6]; rfl
  have c6_s3 : w6.cell? ⟨w.heap.size, 3, none⟩ = some (.int .i64 v) := by rw [Lib.cell_of_heap h_s6]; rfl
  have c6_l0 : w6.cell? ⟨w.heap.size + 1, 0, none⟩ = some (.int .i64 3) := by rw [Lib.cell_of_heap h_l6]; rfl
  have c6_l1 : w6.cell? ⟨w.heap.size + 1, 1, none⟩ = some (.int .i64 a) := by rw [Lib.cell_of_heap h_l6]; rfl
  have c6_l2 : w6.cell? ⟨w.heap.size + 1, 2, none⟩ = some (.int .i64 3) := by rw [Lib.cell_of_heap h_l6]; rfl
  have c6_l3 : w6.cell? ⟨w.heap.size + 1, 3, none⟩ = some (.int .i64 b) := by rw [Lib.cell_of_heap h_l6]; rfl
  go_wp2_with (rw [← HX6.out])
  refine (P3.out _).mono ?_
  rintro e w7 ⟨rfl, hb⟩
  clear c6_s0 c6_s1 c6_s2 c6_s3 c6_l0 c6_l1 c6_l2 c6_l3
  have h_s7 := (hb.block (w.heap.size) (by omega)).trans h_s6
  have h_l7 := (hb.block (w.heap.size + 1) (by omega)).trans h_l6
  have h_A7 := (hb.block (w3.heap.size) (by omega)).trans h_A6
  have h_B7 := (hb.block (w5.heap.size) (by omega)).trans h_B6
  have hb7 : Below w.heap.size w w7 := hb6.trans (hb.mono (by omega))
  have hz7 : w6.heap.size ≤ w7.heap.size := hb.size
  clear hb
  obtain ⟨w8, HX8⟩ : ∃ W : World, Hid (W = w7.alloc (.cells #[.int .i64 t, .bool false, .int .i64 x, .int .i64 v] 23)) := ⟨_, Lib.hid rfl⟩
  have hb : Below w7.heap.size w7 w8 := by rw [HX8.out]; exact (Below.refl _ _).alloc (Nat.le_refl _) _
  have h_C8 : w8.heap[w7.heap.size]? = some (.cells #[.int .i64 t, .bool false, .int .i64 x, .int .i64 v] 23 (0, 0)) := by rw [HX8.out]; exact heap_alloc_new _ _
  have hy8 : w7.heap.size < w8.heap.size := by rw [HX8.out]; simp
  have h_s8 := (hb.block (w.heap.size) (by omega)).trans h_s7
  have h_l8 := (hb.block (w.heap.size + 1) (by omega)).trans h_l7
  have h_A8 := (hb.block (w3.heap.size) (by omega)).trans h_A7
  have h_B8 := (hb.block (w5.heap.size) (by omega)).trans h_B7
  have hb8 : Below w.heap.size w w8 := hb7.trans (hb.mono (by omega))
  have hz8 : w7.heap.size ≤ w8.heap.size := hb.size
  clear hb
  have c8_C0 : w8.cell? ⟨w7.heap.size, 0, none⟩ = some (.int .i64 t) := by rw [Lib.cell_of_heap h_C8]; rfl
  have c8_C1 : w8.cell? ⟨w7.heap.size, 1, none⟩ = some (.bool false) := by rw [Lib.cell_of_heap h_C8]; rfl
  have c8_C2 : w8.cell? ⟨w7.heap.size, 2, none⟩ = some (.int .i64 x) := by rw [Lib.cell_of_heap h_C8]; rfl
  have c8_C3 : w8.cell? ⟨w7.heap.size, 3, none⟩ = some (.int .i64 v) := by rw [Lib.cell_of_heap h_C8]; rfl
  have c8_l0 : w8.cell? ⟨w.heap.size + 1, 0, none⟩ = some (.int .i64 3) := by rw [Lib.cell_of_heap h_l8]; rfl
  have c8_l1 : w8.cell? ⟨w.heap.size + 1, 1, none⟩ = some (.int .i64 a) := by rw [Lib.cell_of_heap h_l8]; rfl
  have c8_l2 : w8.cell? ⟨w.heap.size + 1, 2, none⟩ = some (.int .i64 3) := by rw [Lib.cell_of_heap h_l8]; rfl
  have c8_l3 : w8.cell? ⟨w.heap.size + 1, 3, none⟩ = some (.int .i64 b) := by rw [Lib.cell_of_heap h_l8]; rfl
  go_wp2_with (rw [← HX8.out])
  refine (P4.out _).mono ?_
  rintro e w9 ⟨rfl, hb⟩
  clear c8_C0 c8_C1 c8_C2 c8_C3 c8_l0 c8_l1 c8_l2 c8_l3
  have h_s9 := (hb.block (w.heap.size) (by omega)).trans h_s8
  have h_l9 := (hb.block (w.heap.size + 1) (by omega)).trans h_l8
  have h_A9 := (hb.block (w3.heap.size) (by omega)).trans h_A8
  have h_B9 := (hb.block (w5.heap.size) (by omega)).trans h_B8
  have h_C9 := (hb.block (w7.heap.size) (by omega)).trans h_C8
  have hb9 : Below w.heap.size w w9 := hb8.trans (hb.mono (by omega))
  have hz9 : w8.heap.size ≤ w9.heap.size := hb.size
  clear hb
  obtain ⟨w10, HX10⟩ : ∃ W : World, Hid (W = w9.alloc (.cells #[.int .i64 t4, .bool c4, .int .i64 x4, .int .i64 v4] 23)) := ⟨_, Lib.hid rfl⟩
  have hb : Below w9.heap.size w9 w10 := by rw [HX10.out]; exact (Below.refl _ _).alloc (Nat.le_refl _) _
  have h_D10 : w10.heap[w9.heap.size]? = some (.cells #[.int .i64 t4, .bool c4, .int .i64 x4, .int .i64 v4] 23 (0, 0)) := by rw [HX10.out]; exact heap_alloc_new _ _
  have hy10 : w9.heap.size < w10.heap.size := by rw [HX10.out]; simp
  have h_s10 := (hb.block (w.heap.size) (by omega)).trans h_s9
  have h_l10 := (hb.block (w.heap.size + 1) (by omega)).trans h_l9
  have h_A10 := (hb.block (w3.heap.size) (by omega)).trans h_A9
  have h_B10 := (hb.block (w5.heap.size) (by omega)).trans h_B9
  have h_C10 := (hb.block (w7.heap.size) (by omega)).trans h_C9
  have hb10 : Below w.heap.size w w10 := hb9.trans (hb.mono (by omega))
  have hz10 : w9.heap.size ≤ w10.heap.size := hb.size
  clear hb
  have c10_s0 : w10.cell? ⟨w.heap.size, 0, none⟩ = some (.int .i64 t) := by rw [Lib.cell_of_heap h_s10]; rfl
  have c10_s1 : w10.cell? ⟨w.heap.size, 1, none⟩ = some (.bool false) := by rw [Lib.cell_of_heap h_s10]; rfl
  have c10_s2 : w10.cell? ⟨w.heap.size, 2, none⟩ = some (.int .i64 x) := by rw [Lib.cell_of_heap h_s10]; rfl
  have c10_s3 : w10.cell? ⟨w.heap.size, 3, none⟩ = some (.int .i64 v) := by rw [Lib.cell_of_heap h_s10]; rfl
  have c10_l0 : w10.cell? ⟨w.heap.size + 1, 0, none⟩ = some (.int .i64 3) := by rw [Lib.cell_of_heap h_l10]; rfl
  have c10_l1 : w10.cell? ⟨w.heap.size + 1, 1, none⟩ = some (.int .i64 a) := by rw [Lib.cell_of_heap h_l10]; rfl
  have c10_l2 : w10.cell? ⟨w.heap.size + 1, 2, none⟩ = some (.int .i64 3) := by rw [Lib.cell_of_heap h_l10]; rfl
  have c10_l3 : w10.cell? ⟨w.heap.size + 1, 3, none⟩ = some (.int .i64 b) := by rw [Lib.cell_of_heap h_l10]; rfl
  have c10_A0 : w10.cell? ⟨w3.heap.size, 0, none⟩ = some (.int .i64 t) := by rw [Lib.cell_of_heap h_A10]; rfl
  have c10_A1 : w10.cell? ⟨w3.heap.size, 1, none⟩ = some (.bool false) := by rw [Lib.cell_of_heap h_A10]; rfl
  have c10_A2 : w10.cell? ⟨w3.heap.size, 2, none⟩ = some (.int .i64 y) := by rw [Lib.cell_of_heap h_A10]; rfl
  have c10_A3 : w10.cell? ⟨w3.heap.size, 3, none⟩ = some (.int .i64 u) := by rw [Lib.cell_of_heap h_A10]; rfl
  have c10_B0 : w10.cell? ⟨w5.heap.size, 0, none⟩ = some (.int .i64 t) := by rw [Lib.cell_of_heap h_B10]; rfl
  have c10_B1 : w10.cell? ⟨w5.heap.size, 1, none⟩ = some (.bool false) := by rw [Lib.cell_of_heap h_B10]; rfl
  have c10_B2 : w10.cell? ⟨w5.heap.size, 2, none⟩ = some (.int .i64 z) := by rw [Lib.cell_of_heap h_B10]; rfl
  have c10_B3 : w10.cell? ⟨w5.heap.size, 3, none⟩ = some (.int .i64 u2) := by rw [Lib.cell_of_heap h_B10]; rfl
  have c10_C0 : w10.cell? ⟨w7.heap.size, 0, none⟩ = some (.int .i64 t) := by rw [Lib.cell_of_heap h_C10]; rfl
  have c10_C1 : w10.cell? ⟨w7.heap.size, 1, none⟩ = some (.bool false) := by rw [Lib.cell_of_heap h_C10]; rfl
  have c10_C2 : w10.cell? ⟨w7.heap.size, 2, none⟩ = some (.int .i64 x) := by rw [Lib.cell_of_heap h_C10]; rfl
  have c10_C3 : w10.cell? ⟨w7.heap.size, 3, none⟩ = some (.int .i64 v) := by rw [Lib.cell_of_heap h_C10]; rfl
  have c10_D0 : w10.cell? ⟨w9.heap.size, 0, none⟩ = some (.int .i64 t4) := by rw [Lib.cell_of_heap h_D10]; rfl
  have c10_D1 : w10.cell? ⟨w9.heap.size, 1, none⟩ = some (.bool c4) := by rw [Lib.cell_of_heap h_D10]; rfl
  have c10_D2 : w10.cell? ⟨w9.heap.size, 2, none⟩ = some (.int .i64 x4) := by rw [Lib.cell_of_heap h_D10]; rfl
  have c10_D3 : w10.cell? ⟨w9.heap.size, 3, none⟩ = some (.int .i64 v4) := by rw [Lib.cell_of_heap h_D10]; rfl
  go_wp2_with (rw [← HX10.out])
  refine (HW.out _ hb10).mono ?_
  rintro e w11 ⟨rfl, hb⟩
  clear c10_s0 c10_s1 c10_s2 c10_s3 c10_l0 c10_l1 c10_l2 c10_l3 c10_A0 c10_A1 c10_A2 c10_A3 c10_B0 c10_B1 c10_B2 c10_B3 c10_C0 c10_C1 c10_C2 c10_C3 c10_D0 c10_D1 c10_D2 c10_D3
  have h_s11 := (hb.block (w.heap.size) (by omega)).trans h_s10
  have h_l11 := (hb.block (w.heap.size + 1) (by omega)).trans h_l10
  have h_A11 := (hb.block (w3.heap.size) (by omega)).trans h_A10
  have h_B11 := (hb.block (w5.heap.size) (by omega)).trans h_B10
  have h_C11 := (hb.block (w7.heap.size) (by omega)).trans h_C10
  have h_D11 := (hb.block (w9.heap.size) (by omega)).trans h_D10
  have hb11 : Below w.heap.size w w11 := hb10.trans (hb.mono (by omega))
  have hz11 : w10.heap.size ≤ w11.heap.size := hb.size
  clear hb
  go_wp2_with fail
  all_goals
    go_ret
    exact ⟨rfl, hb11⟩
set_option maxRecDepth 100000 in
set_option maxHeartbeats 8000000 in
theorem s4_33 (t x v a b y u z u2 y2 : Int) (w : World) (HAK : Hid (∀ X : World, Below w.heap.size w X → Asked X))
    (HM : Hid (∀ X : World, Calls Tryd.prog 15 #[.agg #[.int .i64 t, .bool false, .int .i64 x, .int .i64 v]] X (NumPost (.bool true) X)))
    (P1 : Hid (∀ X : World, Calls Tryd.prog 13 #[.agg #[.int .i64 t, .bool false, .int .i64 x, .int .i64 v], .agg #[.int .i64 3, .int .i64 a]] X (NumPost (.agg #[.int .i64 t, .bool false, .int .i64 y, .int .i64 u]) X)))
    (P2 : Hid (∀ X : World, Calls Tryd.prog 13 #[.agg #[.int .i64 t, .bool false, .int .i64 y, .int .i64 u], .agg #[.int .i64 3, .int .i64 b]] X (NumPost (.agg #[.int .i64 t, .bool false, .int .i64 z, .int .i64 u2]) X)))
    (P3 : Hid (∀ X : World, Calls Tryd.prog 13 #[.agg #[.int .i64 t, .bool false, .int .i64 x, .int .i64 v], .agg #[.int .i64 3, .int .i64 b]] X (NumPost (.agg #[.int .i64 t, .bool false, .int .i64 y2, .int .i64 u]) X)))
    (P4 : Hid (∀ X : World, Calls Tryd.prog 13 #[.agg #[.int .i64 t, .bool false, .int .i64 y2, .int .i64 u], .agg #[.int .i64 3, .int .i64 a]] X (NumPost (.agg #[.int .i64 t, .bool false, .int .i64 y2, .int .i64 u]) X))) (e1 : (y == x) = false) (e2 : (z == y) = false) (e3 : (y2 == x) = false) :
    Calls Tryd.prog 8 #[.agg #[.int .i64 t, .bool false, .int .i64 x, .int .i64 v], .agg #[.int .i64 3, .int .i64 a, .int .i64 3, .int .i64 b]] w (fun e w' => e = .returned (.bool true) ∧ Below w.heap.size w w') := by
  have HW := Lib.hid (fun X (hX : Below w.heap.size w X) => aeWorks_any X (HAK.out X hX))
  clear HAK
  obtain ⟨w1, HX1⟩ : ∃ W : World, Hid (W = ((w.alloc (.cells #[.int .i64 t, .bool false, .int .i64 x, .int .i64 v] 23)).alloc (.cells #[.int .i64 3, .int .i64 a, .int .i64 3, .int .i64 b] 41))) := ⟨_, Lib.hid rfl⟩
  obtain ⟨hz1, hb1, h_s1, h_l1⟩ := two_blocks HX1.out
  replace hz1 : w.heap.size + 2 ≤ w1.heap.size := by omega
  have c1_s0 : w1.cell? ⟨w.heap.size, 0, none⟩ = some (.int .i64 t) := by rw [Lib.cell_of_heap h_s1]; rfl
  have c1_s1 : w1.cell? ⟨w.heap.size, 1, none⟩ = some (.bool false) := by rw [Lib.cell_of_heap h_s1]; rfl
  have c1_s2 : w1.cell? ⟨w.heap.size, 2, none⟩ = some (.int .i64 x) := by rw [Lib.cell_of_heap h_s1]; rfl
  have c1_s3 : w1.cell? ⟨w.heap.size, 3, none⟩ = some (.int .i64 v) := by rw [Lib.cell_of_heap h_s1]; rfl
  go_enter Tryd.func8, Tryd.ntmps8
  go_wp2_with (rw [← HX1.out])
  refine (HM.out _).mono ?_
  rintro e w2 ⟨rfl, hb⟩
  clear c1_s0 c1_s1 c1_s2 c1_s3
  have h_s2 := (hb.block (w.heap.size) (by omega)).trans h_s1
  have h_l2 := (hb.block (w.heap.size + 1) (by omega)).trans h_l1
  have hb2 : Below w.heap.size w w2 := hb1.trans (hb.mono (by omega))
  have hz2 : w1.heap.size ≤ w2.heap.size := hb.size
  clear hb
  have c2_s0 : w2.cell? ⟨w.heap.size, 0, none⟩ = some (.int .i64 t) := by rw [Lib.cell_of_heap h_s2]; rfl
  have c2_s1 : w2.cell? ⟨w.heap.size, 1, none⟩ = some (.bool false) := by rw [Lib.cell_of_heap h_s2]; rfl
  have c2_s2 : w2.cell? ⟨w.heap.size, 2, none⟩ = some (.int .i64 x) := by rw [Lib.cell_of_heap h_s2]; rfl
  have c2_s3 : w2.cell? ⟨w.heap.size, 3, none⟩ = some (.int .i64 v) := by rw [Lib.cell_of_heap h_s2]; rfl
  have c2_l0 : w2.cell? ⟨w.heap.size + 1, 0, none⟩ = some (.int .i64 3) := by rw [Lib.cell_of_heap h_l2]; rfl
  have c2_l1 : w2.cell? ⟨w.heap.size + 1, 1, none⟩ = some (.int .i64 a) := by rw [Lib.cell_of_heap h_l2]; rfl
  have c2_l2 : w2.cell? ⟨w.heap.size + 1, 2, none⟩ = some (.int .i64 3) := by rw [Lib.cell_of_heap h_l2]; rfl
  have c2_l3 : w2.cell? ⟨w.heap.size + 1, 3, none⟩ = some (.int .i64 b) := by rw [Lib.cell_of_heap h_l2]; rfl
  go_wp2_with fail
  refine (P1.out _).mono ?_
  rintro e w3 ⟨rfl, hb⟩
  clear c2_s0 c2_s1 c2_s2 c2_s3 c2_l0 c2_l1 c2_l2 c2_l3
  have h_s3 := (hb.block (w.heap.size) (by omega)).trans h_s2
  have h_l3 := (hb.block (w.heap.size + 1) (by omega)).trans h_l2
  have hb3 : Below w.heap.size w w3 := hb2.trans (hb.mono (by omega))
  have hz3 : w2.heap.size ≤ w3.heap.size := hb.size
  clear hb
  obtain ⟨w4, HX4⟩ : ∃ W : World, Hid (W = w3.alloc (.cells #[.int .i64 t, .bool false, .int .i64 y, .int .i64 u] 23)) := ⟨_, Lib.hid rfl⟩
  have hb : Below w3.heap.size w3 w4 := by rw [HX4.out]; exact (Below.refl _ _).alloc (Nat.le_refl _) _
  have h_A4 : w4.heap[w3.heap.size]? = some (.cells #[.int .i64 t, .bool false, .int .i64 y, .int .i64 u] 23 (0, 0)) := by rw [HX4.out]; exact heap_alloc_new _ _
  have hy4 : w3.heap.size < w4.heap.size := by rw [HX4.out]; simp
  have h_s4 := (hb.block (w.heap.size) (by omega)).trans h_s3
  have h_l4 := (hb.block (w.heap.size + 1) (by omega)).trans h_l3
  have hb4 : Below w.heap.size w w4 := hb3.trans (hb.mono (by omega))
  have hz4 : w3.heap.size ≤ w4.heap.size := hb.size
  clear hb
  have c4_A0 : w4.cell? ⟨w3.heap.size, 0, none⟩ = some (.int .i64 t) := by rw [Lib.cell_of_heap h_A4]; rfl
  have c4_A1 : w4.cell? ⟨w3.heap.size, 1, none⟩ = some (.bool false) := by rw [Lib.cell_of_heap h_A4]; rfl
  have c4_A2 : w4.cell? ⟨w3.heap.size, 2, none⟩ = some (.int .i64 y) := by rw [Lib.cell_of_heap h_A4]; rfl
  have c4_A3 : w4.cell? ⟨w3.heap.size, 3, none⟩ = some (.int .i64 u) := by rw [Lib.cell_of_heap h_A4]; rfl
  have c4_l0 : w4.cell? ⟨w.heap.size + 1, 0, none⟩ = some (.int .i64 3) := by rw [Lib.cell_of_heap h_l4]; rfl
  have c4_l1 : w4.cell? ⟨w.heap.size + 1, 1, none⟩ = some (.int .i64 a) := by rw [Lib.cell_of_heap h_l4]; rfl
  have c4_l2 : w4.cell? ⟨w.heap.size + 1, 2, none⟩ = some (.int .i64 3) := by rw [Lib.cell_of_heap h_l4]; rfl
  have c4_l3 : w4.cell? ⟨w.heap.size + 1, 3, none⟩ = some (.int .i64 b) := by rw [Lib.cell_of_heap h_l4]; rfl
  go_wp2_with (rw [← HX4.out])
  refine (P2.out _).mono ?_
  rintro e w5 ⟨rfl, hb⟩
  clear c4_A0 c4_A1 c4_A2 c4_A3 c4_l0 c4_l1 c4_l2 c4_l3
  have h_s5 := (hb.block (w.heap.size) (by omega)).trans h_s4
  have h_l5 := (hb.block (w.heap.size + 1) (by omega)).trans h_l4
  have h_A5 := (hb.block (w3.heap.size) (by omega)).trans h_A4
  have hb5 : Below w.heap.size w w5 := hb4.trans (hb.mono (by omega))
  have hz5 : w4.heap.size ≤ w5.heap.size := hb.size
  clear hb
  obtain ⟨w6, HX6⟩ : ∃ W : World, Hid (W = w5.alloc (.cells #[.int .i64 t, .bool false, .int .i64 z, .int .i64 u2] 23)) := ⟨_, Lib.hid rfl⟩
  have hb : Below w5.heap.size w5 w6 := by rw [HX6.out]; exact (Below.refl _ _).alloc (Nat.le_refl _) _
  have h_B6 : w6.heap[w5.heap.size]? = some (.cells #[.int .i64 t, .bool false, .int .i64 z, .int .i64 u2] 23 (0, 0)) := by rw [HX6.out]; exact heap_alloc_new _ _
  have hy6 : w5.heap.size < w6.heap.size := by rw [HX6.out]; simp
  have h_s6 := (hb.block (w.heap.size) (by omega)).trans h_s5
  have h_l6 := (hb.block (w.heap.size + 1) (by omega)).trans h_l5
  have h_A6 := (hb.block (w3.heap.size) (by omega)).trans h_A5
  have hb6 : Below w.heap.size w w6 := hb5.trans (hb.mono (by omega))
  have hz6 : w5.heap.size ≤ w6.heap.size := hb.size
  clear hb
  have c6_s0 : w6.cell? ⟨w.heap.size, 0, none⟩ = some (.int .i64 t) := by rw [Lib.cell_of_heap h_s6]; rfl
  have c6_s1 : w6.cell? ⟨w.heap.size, 1, none⟩ = some (.bool false) := by rw [Lib.cell_of_heap h_s6]; rfl
  have c6_s2 : w6.cell? ⟨w.heap.size, 2, none⟩ = some (.int .i64 x) := by rw [Lib.cell_of_heap h_s6]; rfl
  have c6_s3 : w6.cell? ⟨w.heap.size, 3, none⟩ = some (.int .i64 v) := by rw [Lib.cell_of_heap h_s6]; rfl
  have c6_l0 : w6.cell? ⟨w.heap.size + 1, 0, none⟩ = some (.int .i64 3) := by rw [Lib.cell_of_heap h_l6]; rfl
  have c6_l1 : w6.cell? ⟨w.heap.size + 1, 1, none⟩ = some (.int .i64 a) := by rw [Lib.cell_of_heap h_l6]; rfl
  have c6_l2 : w6.cell? ⟨w.heap.size + 1, 2, none⟩ = some (.int .i64 3) := by rw [Lib.cell_of_heap h_l6]; rfl
  have c6_l3 : w6.cell? ⟨w.heap.size + 1, 3, none⟩ = some (.int .i64 b) := by rw [Lib.cell_of_heap h_l6]; rfl
  go_wp2_with (rw [← HX6.out])
  refine (P3.out _).mono ?_
  rintro e w7 ⟨rfl, hb⟩
  clear c6_s0 c6_s1 c6_s2 c6_s3 c6_l0 c6_l1 c6_l2 c6_l3
  have h_s7 := (hb.block (w.heap.size) (by omega)).trans h_s6
  have h_l7 := (hb.block (w.heap.size + 1) (by omega)).trans h_l6
  have h_A7 := (hb.block (w3.heap.size) (by omega)).trans h_A6
  have h_B7 := (hb.block (w5.heap.size) (by omega)).trans h_B6
  have hb7 : Below w.heap.size w w7 := hb6.trans (hb.mono (by omega))
  have hz7 : w6.heap.size ≤ w7.heap.size := hb.size
  clear hb
  obtain ⟨w8, HX8⟩ : ∃ W : World, Hid (W = w7.alloc (.cells #[.int .i64 t, .bool false, .int .i64 y2, .int .i64 u] 23)) := ⟨_, Lib.hid rfl⟩
  have hb : Below w7.heap.size w7 w8 := by rw [HX8.out]; exact (Below.refl _ _).alloc (Nat.le_refl _) _
  have h_C8 : w8.heap[w7.heap.size]? = some (.cells #[.int .i64 t, .bool false, .int .i64 y2, .int .i64 u] 23 (0, 0)) := by rw [HX8.out]; exact heap_alloc_new _ _
  have hy8 : w7.heap.size < w8.heap.size := by rw [HX8.out]; simp
  have h_s8 := (hb.block (w.heap.size) (by omega)).trans h_s7
  have h_l8 := (hb.block (w.heap.size + 1) (by omega)).trans h_l7
  have h_A8 := (hb.block (w3.heap.size) (by omega)).trans h_A7
  have h_B8 := (hb.block (w5.heap.size) (by omega)).trans h_B7
  have hb8 : Below w.heap.size w w8 := hb7.trans (hb.mono (by omega))
  have hz8 : w7.heap.size ≤ w8.heap.size := hb.size
  clear hb
  have c8_C0 : w8.cell? ⟨w7.heap.size, 0, none⟩ = some (.int .i64 t) := by rw [Lib.cell_of_heap h_C8]; rfl
  have c8_C1 : w8.cell? ⟨w7.heap.size, 1, none⟩ = some (.bool false) := by rw [Lib.cell_of_heap h_C8]; rfl
  have c8_C2 : w8.cell? ⟨w7.heap.size, 2, none⟩ = some (.int .i64 y2) := by rw [Lib.cell_of_heap h_C8]; rfl
  have c8_C3 : w8.cell? ⟨w7.heap.size, 3, none⟩ = some (.int .i64 u) := by rw [Lib.cell_of_heap h_C8]; rfl
  have c8_l0 : w8.cell? ⟨w.heap.size + 1, 0, none⟩ = some (.int .i64 3) := by rw [Lib.cell_of_heap h_l8]; rfl
  have c8_l1 : w8.cell? ⟨w.heap.size + 1, 1, none⟩ = some (.int .i64 a) := by rw [Lib.cell_of_heap h_l8]; rfl
  have c8_l2 : w8.cell? ⟨w.heap.size + 1, 2, none⟩ = some (.int .i64 3) := by rw [Lib.cell_of_heap h_l8]; rfl
  have c8_l3 : w8.cell? ⟨w.heap.size + 1, 3, none⟩ = some (.int .i64 b) := by rw [Lib.cell_of_heap h_l8]; rfl
  go_wp2_with (rw [← HX8.out])
  refine (P4.out _).mono ?_
  rintro e w9 ⟨rfl, hb⟩
  clear c8_C0 c8_C1 c8_C2 c8_C3 c8_l0 c8_l1 c8_l2 c8_l3
  have h_s9 := (hb.block (w.heap.size) (by omega)).trans h_s8
  have h_l9 := (hb.block (w.heap.size + 1) (by omega)).trans h_l8
  have h_A9 := (hb.block (w3.heap.size) (by omega)).trans h_A8
  have h_B9 := (hb.block (w5.heap.size) (by omega)).trans h_B8
  have h_C9 := (hb.block (w7.heap.size) (by omega)).trans h_C8
  have hb9 : Below w.heap.size w w9 := hb8.trans (hb.mono (by omega))
  have hz9 : w8.heap.size ≤ w9.heap.size := hb.size
  clear hb
  obtain ⟨w10, HX10⟩ : ∃ W : World, Hid (W = w9.alloc (.cells #[.int .i64 t, .bool false, .int .i64 y2, .int .i64 u] 23)) := ⟨_, Lib.hid rfl⟩
  have hb : Below w9.heap.size w9 w10 := by rw [HX10.out]; exact (Below.refl _ _).alloc (Nat.le_refl _) _
  have h_D10 : w10.heap[w9.heap.size]? = some (.cells #[.int .i64 t, .bool false, .int .i64 y2, .int .i64 u] 23 (0, 0)) := by rw [HX10.out]; exact heap_alloc_new _ _
  have hy10 : w9.heap.size < w10.heap.size := by rw [HX10.out]; simp
  have h_s10 := (hb.block (w.heap.size) (by omega)).trans h_s9
  have h_l10 := (hb.block (w.heap.size + 1) (by omega)).trans h_l9
  have h_A10 := (hb.block (w3.heap.size) (by omega)).trans h_A9
  have h_B10 := (hb.block (w5.heap.size) (by omega)).trans h_B9
  have h_C10 := (hb.block (w7.heap.size) (by omega)).trans h_C9
  have hb10 : Below w.heap.size w w10 := hb9.trans (hb.mono (by omega))
  have hz10 : w9.heap.size ≤ w10.heap.size := hb.size
  clear hb
  have c10_s0 : w10.cell? ⟨w.heap.size, 0, none⟩ = some (.int .i64 t) := by rw [Lib.cell_of_heap h_s10]; rfl
  have c10_s1 : w10.cell? ⟨w.heap.size, 1, none⟩ = some (.bool false) := by rw [Lib.cell_of_heap h_s10]; rfl
  have c10_s2 : w10.cell? ⟨w.heap.size, 2, none⟩ = some (.int .i64 x) := by rw [Lib.cell_of_heap h_s10]; rfl
  have c10_s3 : w10.cell? ⟨w.heap.size, 3, none⟩ = some (.int .i64 v) := by rw [Lib.cell_of_heap h_s10]; rfl
  have c10_l0 : w10.cell? ⟨w.heap.size + 1, 0, none⟩ = some (.int .i64 3) := by rw [Lib.cell_of_heap h_l10]; rfl
  have c10_l1 : w10.cell? ⟨w.heap.size + 1, 1, none⟩ = some (.int .i64 a) := by rw [Lib.cell_of_heap h_l10]; rfl
  have c10_l2 : w10.cell? ⟨w.heap.size + 1, 2, none⟩ = some (.int .i64 3) := by rw [Lib.cell_of_heap h_l10]; rfl
  have c10_l3 : w10.cell? ⟨w.heap.size + 1, 3, none⟩ = some (.int .i64 b) := by rw [Lib.cell_of_heap h_l10]; rfl
  have c10_A0 : w10.cell? ⟨w3.heap.size, 0, none⟩ = some (.int .i64 t) := by rw [Lib.cell_of_heap h_A10]; rfl
  have c10_A1 : w10.cell? ⟨w3.heap.size, 1, none⟩ = some (.bool false) := by rw [Lib.cell_of_heap h_A10]; rfl
  have c10_A2 : w10.cell? ⟨w3.heap.size, 2, none⟩ = some (.int .i64 y) := by rw [Lib.cell_of_heap h_A10]; rfl
  have c10_A3 : w10.cell? ⟨w3.heap.size, 3, none⟩ = some (.int .i64 u) := by rw [Lib.cell_of_heap h_A10]; rfl
  have c10_B0 : w10.cell? ⟨w5.heap.size, 0, none⟩ = some (.int .i64 t) := by rw [Lib.cell_of_heap h_B10]; rfl
  have c10_B1 : w10.cell? ⟨w5.heap.size, 1, none⟩ = some (.bool false) := by rw [Lib.cell_of_heap h_B10]; rfl
  have c10_B2 : w10.cell? ⟨w5.heap.size, 2, none⟩ = some (.int .i64 z) := by rw [Lib.cell_of_heap h_B10]; rfl
  have c10_B3 : w10.cell? ⟨w5.heap.size, 3, none⟩ = some (.int .i64 u2) := by rw [Lib.cell_of_heap h_B10]; rfl
  have c10_C0 : w10.cell? ⟨w7.heap.size, 0, none⟩ = some (.int .i64 t) := by rw [Lib.cell_of_heap h_C10]; rfl
  have c10_C1 : w10.cell? ⟨w7.heap.size, 1, none⟩ = some (.bool false) := by rw [Lib.cell_of_heap h_C10]; rfl
  have c10_C2 : w10.cell? ⟨w7.heap.size, 2, none⟩ = some (.int .i64 y2) := by rw [Lib.cell_of_heap h_C10]; rfl
  have c10_C3 : w10.cell? ⟨w7.heap.size, 3, none⟩ = some (.int .i64 u) := by rw [Lib.cell_of_heap h_C10]; rfl
  have c10_D0 : w10.cell? ⟨w9.heap.size, 0, none⟩ = some (.int .i64 t) := by rw [Lib.cell_of_heap h_D10]; rfl
  have c10_D1 : w10.cell? ⟨w9.heap.size, 1, none⟩ = some (.bool false) := by rw [Lib.cell_of_heap h_D10]; rfl
  have c10_D2 : w10.cell? ⟨w9.heap.size, 2, none⟩ = some (.int .i64 y2) := by rw [Lib.cell_of_heap h_D10]; rfl
  have c10_D3 : w10.cell? ⟨w9.heap.size, 3, none⟩ = some (.int .i64 u) := by rw [Lib.cell_of_heap h_D10]; rfl
  go_wp2_with (rw [← HX10.out])
  refine (HW.out _ hb10).mono ?_
  rintro e w11 ⟨rfl, hb⟩
  clear c10_s0 c10_s1 c10_s2 c10_s3 c10_l0 c10_l1 c10_l2 c10_l3 c10_A0 c10_A1 c10_A2 c10_A3 c10_B0 c10_B1 c10_B2 c10_B3 c10_C0 c10_C1 c10_C2 c10_C3 c10_D0 c10_D1 c10_D2 c10_D3
  have h_s11 := (hb.block (w.heap.size) (by omega)).trans h_s10
  have h_l11 := (hb.block (w.heap.size + 1) (by omega)).trans h_l10
  have h_A11 := (hb.block (w3.heap.size) (by omega)).trans h_A10
  have h_B11 := (hb.block (w5.heap.size) (by omega)).trans h_B10
  have h_C11 := (hb.block (w7.heap.size) (by omega)).trans h_C10
  have h_D11 := (hb.block (w9.heap.size) (by omega)).trans h_D10
  have hb11 : Below w.heap.size w w11 := hb10.trans (hb.mono (by omega))
  have hz11 : w10.heap.size ≤ w11.heap.size := hb.size
  clear hb
  go_wp2_with fail
  all_goals
    go_ret
    exact ⟨rfl, hb11⟩
set_option maxRecDepth 100000 in
set_option maxHeartbeats 8000000 in
theorem s5_33 (t x v a b : Int) (w : World) (HAK : Hid (∀ X : World, Below w.heap.size w X → Asked X))
    (HM : Hid (∀ X : World, Calls Tryd.prog 15 #[.agg #[.int .i64 t, .bool false, .int .i64 x, .int .i64 v]] X (NumPost (.bool true) X)))
    (P1 : Hid (∀ X : World, Calls Tryd.prog 13 #[.agg #[.int .i64 t, .bool false, .int .i64 x, .int .i64 v], .agg #[.int .i64 3, .int .i64 a]] X (NumPost (.agg #[.int .i64 t, .bool false, .int .i64 (x - a), .int .i64 (v + 1)]) X)))
    (P2 : Hid (∀ X : World, Calls Tryd.prog 13 #[.agg #[.int .i64 t, .bool false, .int .i64 (x - a), .int .i64 (v + 1)], .agg #[.int .i64 3, .int .i64 b]] X (NumPost (.agg #[.int .i64 t, .bool false, .int .i64 ((x - a) - b), .int .i64 (v + 1 + 1)]) X)))
    (P3 : Hid (∀ X : World, Calls Tryd.prog 13 #[.agg #[.int .i64 t, .bool false, .int .i64 x, .int .i64 v], .agg #[.int .i64 3, .int .i64 b]] X (NumPost (.agg #[.int .i64 t, .bool false, .int .i64 (x - b), .int .i64 (v + 1)]) X)))
    (P4 : Hid (∀ X : World, Calls Tryd.prog 13 #[.agg #[.int .i64 t, .bool false, .int .i64 (x - b), .int .i64 (v + 1)], .agg #[.int .i64 3, .int .i64 a]] X (NumPost (.agg #[.int .i64 t, .bool false, .int .i64 ((x - a) - b), .int .i64 (v + 1 + 1)]) X))) (e1 : ((x - a) == x) = false) (e2 : (((x - a) - b) == (x - a)) = false) (e3 : ((x - b) == x) = false) (e4 : (((x - a) - b) == (x - b)) = false)
    (b0 : -1099511627776 ≤ x ∧ x ≤ 1099511627776) (b1 : 1 ≤ a ∧ a ≤ 4398046511104) (b2 : 1 ≤ b ∧ b ≤ 4398046511104) :
    Calls Tryd.prog 8 #[.agg #[.int .i64 t, .bool false, .int .i64 x, .int .i64 v], .agg #[.int .i64 3, .int .i64 a, .int .i64 3, .int .i64 b]] w (fun e w' => e = .returned (.bool true) ∧ Below w.heap.size w w') := by
  have HW := Lib.hid (fun X (hX : Below w.heap.size w X) => aeWorks_any X (HAK.out X hX))
  clear HAK
  obtain ⟨w1, HX1⟩ : ∃ W : World, Hid (W = ((w.alloc (.cells #[.int .i64 t, .bool false, .int .i64 x, .int .i64 v] 23)).alloc (.cells #[.int .i64 3, .int .i64 a, .int .i64 3, .int .i64 b] 41))) := ⟨_, Lib.hid rfl⟩
  obtain ⟨hz1, hb1, h_s1, h_l1⟩ := two_blocks HX1.out
  replace hz1 : w.heap.size + 2 ≤ w1.heap.size := by omega
  have c1_s0 : w1.cell? ⟨w.heap.size, 0, none⟩ = some (.int .i64 t) := by rw [Lib.cell_of_heap h_s1]; rfl
  have c1_s1 : w1.cell? ⟨w.heap.size, 1, none⟩ = some (.bool false) := by rw [Lib.cell_of_heap h_s1]; rfl
  have c1_s2 : w1.cell? ⟨w.heap.size, 2, none⟩ = some (.int .i64 x) := by rw [Lib.cell_of_heap h_s1]; rfl
  have c1_s3 : w1.cell? ⟨w.heap.size, 3, none⟩ = some (.int .i64 v) := by rw [Lib.cell_of_heap h_s1]; rfl
  go_enter Tryd.func8, Tryd.ntmps8
  go_wp2_with (rw [← HX1.out])
  refine (HM.out _).mono ?_
  rintro e w2 ⟨rfl, hb⟩
  clear c1_s0 c1_s1 c1_s2 c1_s3
  have h_s2 := (hb.block (w.heap.size) (by omega)).trans h_s1
  have h_l2 := (hb.block (w.heap.size + 1) (by omega)).trans h_l1
  have hb2 : Below w.heap.size w w2 := hb1.trans (hb.mono (by omega))
  have hz2 : w1.heap.size ≤ w2.heap.size := hb.size
  clear hb
  have c2_s0 : w2.cell? ⟨w.heap.size, 0, none⟩ = some (.int .i64 t) := by rw [Lib.cell_of_heap h_s2]; rfl
  have c2_s1 : w2.cell? ⟨w.heap.size, 1, none⟩ = some (.bool false) := by rw [Lib.cell_of_heap h_s2]; rfl
  have c2_s2 : w2.cell? ⟨w.heap.size, 2, none⟩ = some (.int .i64 x) := by rw [Lib.cell_of_heap h_s2]; rfl
  have c2_s3 : w2.cell? ⟨w.heap.size, 3, none⟩ = some (.int .i64 v) := by rw [Lib.cell_of_heap h_s2]; rfl
  have c2_l0 : w2.cell? ⟨w.heap.size + 1, 0, none⟩ = some (.int .i64 3) := by rw [Lib.cell_of_heap h_l2]; rfl
  have c2_l1 : w2.cell? ⟨w.heap.size + 1, 1, none⟩ = some (.int .i64 a) := by rw [Lib.cell_of_heap h_l2]; rfl
  have c2_l2 : w2.cell? ⟨w.heap.size + 1, 2, none⟩ = some (.int .i64 3) := by rw [Lib.cell_of_heap h_l2]; rfl
  have c2_l3 : w2.cell? ⟨w.heap.size + 1, 3, none⟩ = some (.int .i64 b) := by rw [Lib.cell_of_heap h_l2]; rfl
  go_wp2_with fail
  refine (P1.out _).mono ?_
  rintro e w3 ⟨rfl, hb⟩
  clear c2_s0 c2_s1 c2_s2 c2_s3 c2_l0 c2_l1 c2_l2 c2_l3
  have h_s3 := (hb.block (w.heap.size) (by omega)).trans h_s2
  have h_l3 := (hb.block (w.heap.size + 1) (by omega)).trans h_l2
  have hb3 : Below w.heap.size w w3 := hb2.trans (hb.mono (by omega))
  have hz3 : w2.heap.size ≤ w3.heap.size := hb.size
  clear hb
  obtain ⟨w4, HX4⟩ : ∃ W : World, Hid (W = w3.alloc (.cells #[.int .i64 t, .bool false, .int .i64 (x - a), .int .i64 (v + 1)] 23)) := ⟨_, Lib.hid rfl⟩
  have hb : Below w3.heap.size w3 w4 := by rw [HX4.out]; exact (Below.refl _ _).alloc (Nat.le_refl _) _
  have h_A4 : w4.heap[w3.heap.size]? = some (.cells #[.int .i64 t, .bool false, .int .i64 (x - a), .int .i64 (v + 1)] 23 (0, 0)) := by rw [HX4.out]; exact heap_alloc_new _ _
  have hy4 : w3.heap.size < w4.heap.size := by rw [HX4.out]; simp
  have h_s4 := (hb.block (w.heap.size) (by omega)).trans h_s3
  have h_l4 := (hb.block (w.heap.size + 1) (by omega)).trans h_l3
  have hb4 : Below w.heap.size w w4 := hb3.trans (hb.mono (by omega))
  have hz4 : w3.heap.size ≤ w4.heap.size := hb.size
  clear hb
  have c4_A0 : w4.cell? ⟨w3.heap.size, 0, none⟩ = some (.int .i64 t) := by rw [Lib.cell_of_heap h_A4]; rfl
  have c4_A1 : w4.cell? ⟨w3.heap.size, 1, none⟩ = some (.bool false) := by rw [Lib.cell_of_heap h_A4]; rfl
  have c4_A2 : w4.cell? ⟨w3.heap.size, 2, none⟩ = some (.int .i64 (x - a)) := by rw [Lib.cell_of_heap h_A4]; rfl
  have c4_A3 : w4.cell? ⟨w3.heap.size, 3, none⟩ = some (.int .i64 (v + 1)) := by rw [Lib.cell_of_heap h_A4]; rfl
  have c4_l0 : w4.cell? ⟨w.heap.size + 1, 0, none⟩ = some (.int .i64 3) := by rw [Lib.cell_of_heap h_l4]; rfl
  have c4_l1 : w4.cell? ⟨w.heap.size + 1, 1, none⟩ = some (.int .i64 a) := by rw [Lib.cell_of_heap h_l4]; rfl
  have c4_l2 : w4.cell? ⟨w.heap.size + 1, 2, none⟩ = some (.int .i64 3) := by rw [Lib.cell_of_heap h_l4]; rfl
  have c4_l3 : w4.cell? ⟨w.heap.size + 1, 3, none⟩ = some (.int .i64 b) := by rw [Lib.cell_of_heap h_l4]; rfl
  go_wp2_with (rw [← HX4.out])
  refine (P2.out _).mono ?_
  rintro e w5 ⟨rfl, hb⟩
  clear c4_A0 c4_A1 c4_A2 c4_A3 c4_l0 c4_l1 c4_l2 c4_l3
  have h_s5 := (hb.block (w.heap.size) (by omega)).trans h_s4
  have h_l5 := (hb.block (w.heap.size + 1) (by omega)).trans h_l4
  have h_A5 := (hb.block (w3.heap.size) (by omega)).trans h_A4
  have hb5 : Below w.heap.size w w5 := hb4.trans (hb.mono (by omega))
  have hz5 : w4.heap.size ≤ w5.heap.size := hb.size
  clear hb
  obtain ⟨w6, HX6⟩ : ∃ W : World, Hid (W = w5.alloc (.cells #[.int .i64 t, .bool false, .int .i64 ((x - a) - b), .int .i64 (v + 1 + 1)] 23)) := ⟨_, Lib.hid rfl⟩
  have hb : Below w5.heap.size w5 w6 := by rw [HX6.out]; exact (Below.refl _ _).alloc (Nat.le_refl _) _
  have h_B6 : w6.heap[w5.heap.size]? = some (.cells #[.int .i64 t, .bool false, .int .i64 ((x - a) - b), .int .i64 (v + 1 + 1)] 23 (0, 0)) := by rw [HX6.out]; exact heap_alloc_new _ _
  have hy6 : w5.heap.size < w6.heap.size := by rw [HX6.out]; simp
  have h_s6 := (hb.block (w.heap.size) (by omega)).trans h_s5
  have h_l6 := (hb.block (w.heap.size + 1) (by omega)).trans h_l5
  have h_A6 := (hb.block (w3.heap.size) (by omega)).trans h_A5
  have hb6 : Below w.heap.size w w6 := hb5.trans (hb.mono (by omega))
  have hz6 : w5.heap.size ≤ w6.heap.size := hb.size
  clear hb
  have c6_s0 : w6.cell? ⟨w.heap.size, 0, none⟩ = some (.int .i64 t) := by rw [Lib.cell_of_heap h_s6]; rfl
  have c6_s1 : w6.cell? ⟨w.heap.size, 1, none⟩ = some (.bool false) := by rw [Lib.cell_of_heap h_s6]; rfl
  have c6_s2 : w6.cell? ⟨w.heap.size, 2, none⟩ = some (.int .i64 x) := by rw [Lib.cell_of_heap h_s6]; rfl
  have c6_s3 : w6.cell? ⟨w.heap.size, 3, none⟩ = some (.int .i64 v) := by rw [Lib.cell_of_heap h_s6]; rfl
  have c6_l0 : w6.cell? ⟨w.heap.size + 1, 0, none⟩ = some (.int .i64 3) := by rw [Lib.cell_of_heap h_l6]; rfl
  have c6_l1 : w6.cell? ⟨w.heap.size + 1, 1, none⟩ = some (.int .i64 a) := by rw [Lib.cell_of_heap h_l6]; rfl
  have c6_l2 : w6.cell? ⟨w.heap.size + 1, 2, none⟩ = some (.int .i64 3) := by rw [Lib.cell_of_heap h_l6]; rfl
  have c6_l3 : w6.cell? ⟨w.heap.size + 1, 3, none⟩ = some (.int .i64 b) := by rw [Lib.cell_of_heap h_l6]; rfl
  go_wp2_with (rw [← HX6.out])
  refine (P3.out _).mono ?_
  rintro e w7 ⟨rfl, hb⟩
  clear c6_s0 c6_s1 c6_s2 c6_s3 c6_l0 c6_l1 c6_l2 c6_l3
  have h_s7 := (hb.block (w.heap.size) (by omega)).trans h_s6
  have h_l7 := (hb.block (w.heap.size + 1) (by omega)).trans h_l6
  have h_A7 := (hb.block (w3.heap.size) (by omega)).trans h_A6
  have h_B7 := (hb.block (w5.heap.size) (by omega)).trans h_B6
  have hb7 : Below w.heap.size w w7 := hb6.trans (hb.mono (by omega))
  have hz7 : w6.heap.size ≤ w7.heap.size := hb.size
  clear hb
  obtain ⟨w8, HX8⟩ : ∃ W : World, Hid (W = w7.alloc (.cells #[.int .i64 t, .bool false, .int .i64 (x - b), .int .i64 (v + 1)] 23)) := ⟨_, Lib.hid rfl⟩
  have hb : Below w7.heap.size w7 w8 := by rw [HX8.out]; exact (Below.refl _ _).alloc (Nat.le_refl _) _
  have h_C8 : w8.heap[w7.heap.size]? = some (.cells #[.int .i64 t, .bool false, .int .i64 (x - b), .int .i64 (v + 1)] 23 (0, 0)) := by rw [HX8.out]; exact heap_alloc_new _ _
  have hy8 : w7.heap.size < w8.heap.size := by rw [HX8.out]; simp
  have h_s8 := (hb.block (w.heap.size) (by omega)).trans h_s7
  have h_l8 := (hb.block (w.heap.size + 1) (by omega)).trans h_l7
  have h_A8 := (hb.block (w3.heap.size) (by omega)).trans h_A7
  have h_B8 := (hb.block (w5.heap.size) (by omega)).trans h_B7
  have hb8 : Below w.heap.size w w8 := hb7.trans (hb.mono (by omega))
  have hz8 : w7.heap.size ≤ w8.heap.size := hb.size
  clear hb
  have c8_C0 : w8.cell? ⟨w7.heap.size, 0, none⟩ = some (.int .i64 t) := by rw [Lib.cell_of_heap h_C8]; rfl
  have c8_C1 : w8.cell? ⟨w7.heap.size, 1, none⟩ = some (.bool false) := by rw [Lib.cell_of_heap h_C8]; rfl
  have c8_C2 : w8.cell? ⟨w7.heap.size, 2, none⟩ = some (.int .i64 (x - b)) := by rw [Lib.cell_of_heap h_C8]; rfl
  have c8_C3 : w8.cell? ⟨w7.heap.size, 3, none⟩ = some (.int .i64 (v + 1)) := by rw [Lib.cell_of_heap h_C8]; rfl
  have c8_l0 : w8.cell? ⟨w.heap.size + 1, 0, none⟩ = some (.int .i64 3) := by rw [Lib.cell_of_heap h_l8]; rfl
  have c8_l1 : w8.cell? ⟨w.heap.size + 1, 1, none⟩ = some (.int .i64 a) := by rw [Lib.cell_of_heap h_l8]; rfl
  have c8_l2 : w8.cell? ⟨w.heap.size + 1, 2, none⟩ = some (.int .i64 3) := by rw [Lib.cell_of_heap h_l8]; rfl
  have c8_l3 : w8.cell? ⟨w.heap.size + 1, 3, none⟩ = some (.int .i64 b) := by rw [Lib.cell_of_heap h_l8]; rfl
  go_wp2_with (rw [← HX8.out])
  refine (P4.out _).mono ?_
  rintro e w9 ⟨rfl, hb⟩
  clear c8_C0 c8_C1 c8_C2 c8_C3 c8_l0 c8_l1 c8_l2 c8_l3
  have h_s9 := (hb.block (w.heap.size) (by omega)).trans h_s8
  have h_l9 := (hb.block (w.heap.size + 1) (by omega)).trans h_l8
  have h_A9 := (hb.block (w3.heap.size) (by omega)).trans h_A8
  have h_B9 := (hb.block (w5.heap.size) (by omega)).trans h_B8
  have h_C9 := (hb.block (w7.heap.size) (by omega)).trans h_C8
  have hb9 : Below w.heap.size w w9 := hb8.trans (hb.mono (by omega))
  have hz9 : w8.heap.size ≤ w9.heap.size := hb.size
  clear hb
  obtain ⟨w10, HX10⟩ : ∃ W : World, Hid (W = w9.alloc (.cells #[.int .i64 t, .bool false, .int .i64 ((x - a) - b), .int .i64 (v + 1 + 1)] 23)) := ⟨_, Lib.hid rfl⟩
  have hb : Below w9.heap.size w9 w10 := by rw [HX10.out]; exact (Below.refl _ _).alloc (Nat.le_refl _) _
  have h_D10 : w10.heap[w9.heap.size]? = some (.cells #[.int .i64 t, .bool false, .int .i64 ((x - a) - b), .int .i64 (v + 1 + 1)] 23 (0, 0)) := by rw [HX10.out]; exact heap_alloc_new _ _
  have hy10 : w9.heap.size < w10.heap.size := by rw [HX10.out]; simp
  have h_s10 := (hb.block (w.heap.size) (by omega)).trans h_s9
  have h_l10 := (hb.block (w.heap.size + 1) (by omega)).trans h_l9
  have h_A10 := (hb.block (w3.heap.size) (by omega)).trans h_A9
  have h_B10 := (hb.block (w5.heap.size) (by omega)).trans h_B9
  have h_C10 := (hb.block (w7.heap.size) (by omega)).trans h_C9
  have hb10 : Below w.heap.size w w10 := hb9.trans (hb.mono (by omega))
  have hz10 : w9.heap.size ≤ w10.heap.size := hb.size
  clear hb
  have c10_s0 : w10.cell? ⟨w.heap.size, 0, none⟩ = some (.int .i64 t) := by rw [Lib.cell_of_heap h_s10]; rfl
  have c10_s1 : w10.cell? ⟨w.heap.size, 1, none⟩ = some (.bool false) := by rw [Lib.cell_of_heap h_s10]; rfl
  have c10_s2 : w10.cell? ⟨w.heap.size, 2, none⟩ = some (.int .i64 x) := by rw [Lib.cell_of_heap h_s10]; rfl
  have c10_s3 : w10.cell? ⟨w.heap.size, 3, none⟩ = some (.int .i64 v) := by rw [Lib.cell_of_heap h_s10]; rfl
  have c10_l0 : w10.cell? ⟨w.heap.size + 1, 0, none⟩ = some (.int .i64 3) := by rw [Lib.cell_of_heap h_l10]; rfl
  have c10_l1 : w10.cell? ⟨w.heap.size + 1, 1, none⟩ = some (.int .i64 a) := by rw [Lib.cell_of_heap h_l10]; rfl
  have c10_l2 : w10.cell? ⟨w.heap.size + 1, 2, none⟩ = some (.int .i64 3) := by rw [Lib.cell_of_heap h_l10]; rfl
  have c10_l3 : w10.cell? ⟨w.heap.size + 1, 3, none⟩ = some (.int .i64 b) := by rw [Lib.cell_of_heap h_l10]; rfl
  have c10_A0 : w10.cell? ⟨w3.heap.size, 0, none⟩ = some (.int .i64 t) := by rw [Lib.cell_of_heap h_A10]; rfl
  have c10_A1 : w10.cell? ⟨w3.heap.size, 1, none⟩ = some (.bool false) := by rw [Lib.cell_of_heap h_A10]; rfl
  have c10_A2 : w10.cell? ⟨w3.heap.size, 2, none⟩ = some (.int .i64 (x - a)) := by rw [Lib.cell_of_heap h_A10]; rfl
  have c10_A3 : w10.cell? ⟨w3.heap.size, 3, none⟩ = some (.int .i64 (v + 1)) := by rw [Lib.cell_of_heap h_A10]; rfl
  have c10_B0 : w10.cell? ⟨w5.heap.size, 0, none⟩ = some (.int .i64 t) := by rw [Lib.cell_of_heap h_B10]; rfl
  have c10_B1 : w10.cell? ⟨w5.heap.size, 1, none⟩ = some (.bool false) := by rw [Lib.cell_of_heap h_B10]; rfl
  have c10_B2 : w10.cell? ⟨w5.heap.size, 2, none⟩ = some (.int .i64 ((x - a) - b)) := by rw [Lib.cell_of_heap h_B10]; rfl
  have c10_B3 : w10.cell? ⟨w5.heap.size, 3, none⟩ = some (.int .i64 (v + 1 + 1)) := by rw [Lib.cell_of_heap h_B10]; rfl
  have c10_C0 : w10.cell? ⟨w7.heap.size, 0, none⟩ = some (.int .i64 t) := by rw [Lib.cell_of_heap h_C10]; rfl
  have c10_C1 : w10.cell? ⟨w7.heap.size, 1, none⟩ = some (.bool false) := by rw [Lib.cell_of_heap h_C10]; rfl
  have c10_C2 : w10.cell? ⟨w7.heap.size, 2, none⟩ = some (.int .i64 (x - b)) := by rw [Lib.cell_of_heap h_C10]; rfl
  have c10_C3 : w10.cell? ⟨w7.heap.size, 3, none⟩ = some (.int .i64 (v + 1)) := by rw [Lib.cell_of_heap h_C10]; rfl
  have c10_D0 : w10.cell? ⟨w9.heap.size, 0, none⟩ = some (.int .i64 t) := by rw [Lib.cell_of_heap h_D10]; rfl
  have c10_D1 : w10.cell? ⟨w9.heap.size, 1, none⟩ = some (.bool false) := by rw [Lib.cell_of_heap h_D10]; rfl
  have c10_D2 : w10.cell? ⟨w9.heap.size, 2, none⟩ = some (.int .i64 ((x - a) - b)) := by rw [Lib.cell_of_heap h_D10]; rfl
  have c10_D3 : w10.cell? ⟨w9.heap.size, 3, none⟩ = some (.int .i64 (v + 1 + 1)) := by rw [Lib.cell_of_heap h_D10]; rfl
  go_wp2_with (rw [← HX10.out])
  refine wp_loop_rounds 3 ?_
  rw [rounds_succ]
  go_wp2_with fail
  rw [rounds_succ]
  go_wp2_with fail
  rw [rounds_succ]
  go_wp2_with fail
  refine (HW.out _ hb10).mono ?_
  rintro e w11 ⟨rfl, hb⟩
  clear c10_s0 c10_s1 c10_s2 c10_s3 c10_l0 c10_l1 c10_l2 c10_l3 c10_A0 c10_A1 c10_A2 c10_A3 c10_B0 c10_B1 c10_B2 c10_B3 c10_C0 c10_C1 c10_C2 c10_C3 c10_D0 c10_D1 c10_D2 c10_D3
  have h_s11 := (hb.block (w.heap.size) (by omega)).trans h_s10
  have h_l11 := (hb.block (w.heap.size + 1) (by omega)).trans h_l10
  have h_A11 := (hb.block (w3.heap.size) (by omega)).trans h_A10
  have h_B11 := (hb.block (w5.heap.size) (by omega)).trans h_B10
  have h_C11 := (hb.block (w7.heap.size) (by omega)).trans h_C10
  have h_D11 := (hb.block (w9.heap.size) (by omega)).trans h_D10
  have hb11 : Below w.heap.size w w11 := hb10.trans (hb.mono (by omega))
  have hz11 : w10.heap.size ≤ w11.heap.size := hb.size
  clear hb
  go_wp2_with fail
  all_goals
    go_ret
    exact ⟨rfl, hb11⟩
end Go.Proofs.YtpboleiifmepeaaDoor.deedsEitherW
