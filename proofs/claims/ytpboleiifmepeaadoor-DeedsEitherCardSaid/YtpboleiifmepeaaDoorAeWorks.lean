/-
  works() of the statements of deeds: the chapter's examples.
-/
import Derived.Test.YtpboleiifmepeaaDoorAeSame
namespace Go.Proofs.YtpboleiifmepeaaDoor
open Go.RowKit Go.Sort
set_option maxRecDepth 100000 in
set_option maxHeartbeats 4000000 in
theorem aeWorks_any (w : World) (hA : Asked w) : Calls Tryd.prog 12 #[] w (NumPost (.bool true) w) := by
  have H1 := Lib.hid (fun X hX => decide_any St.zero ⟨1, 0, -1, 1, 2⟩ X hX)
  have H2 := Lib.hid (fun X hX => decide_any ⟨2, false, 5, 3⟩ ⟨1, 0, 3, 3, 6⟩ X hX)
  have H3 := Lib.hid (fun X hX => decide_any ⟨2, false, 5, 3⟩ ⟨1, 0, 2, 3, 5⟩ X hX)
  have H4 := Lib.hid (fun X => apply_any ⟨2, false, 5, 3⟩ ⟨3, 5⟩ X)
  have H5 := Lib.hid (fun c v k a g g' X h h' => same_one c v k a g g' X h h')
  have H6 := Lib.hid (fun c v X => same_nil c v X)
  rw [show decide_ St.zero ⟨1, 0, -1, 1, 2⟩ = ⟨1, 1, [⟨1, 2⟩]⟩ from rfl] at H1
  rw [show decide_ ⟨2, false, 5, 3⟩ ⟨1, 0, 3, 3, 6⟩ = ⟨3, 3, []⟩ from rfl] at H2
  rw [show decide_ ⟨2, false, 5, 3⟩ ⟨1, 0, 2, 3, 5⟩ = ⟨2, 3, []⟩ from rfl] at H3
  rw [show app ⟨2, false, 5, 3⟩ ⟨3, 5⟩ = ⟨2, false, 0, 4⟩ from rfl] at H4
  have HAK := Lib.hid (fun X (hb : Below w.heap.size w X) => hA.keep hb)
  clear hA
  simp only [St.v, Od.v, Ev.v, St.zero] at H1 H2 H3 H4
  obtain ⟨w1, HX1⟩ : ∃ W : World, Hid (W = (w.alloc (.cells #[.int .i64 2, .bool false, .int .i64 5, .int .i64 3] 23))) := ⟨_, Lib.hid rfl⟩
  have h_p1 : w1.heap[w.heap.size]? = some (.cells #[.int .i64 2, .bool false, .int .i64 5, .int .i64 3] 23 (0, 0)) := by rw [HX1.out]; exact heap_alloc_new _ _
  have hb1 : Below w.heap.size w w1 := by rw [HX1.out]; exact (Below.refl _ _).alloc (Nat.le_refl _) _
  have hz1 : w.heap.size + 1 ≤ w1.heap.size := by rw [HX1.out]; simp
  go_enter Tryd.func12, Tryd.ntmps12
  go_wp2_with (rw [← HX1.out])
  refine (H1.out _ (HAK.out _ hb1)).mono ?_
  rintro e w2 ⟨V, rfl, hE, hb⟩
  have h_p2 := (hb.block (w.heap.size) (by omega)).trans h_p1
  have hb2 : Below w.heap.size w w2 := hb1.trans (hb.mono (by omega))
  have hz2 : w1.heap.size ≤ w2.heap.size := hb.size
  clear hb
  obtain ⟨g, rfl, -, hgl, h_g2⟩ := hE.one
  simp only at h_g2
  obtain ⟨w3, HX3⟩ : ∃ W : World, Hid (W = w2.alloc (.cells #[.int .i64 1, .int .i64 1, .slice (some ⟨g, 0, none⟩) 1 1] 28)) := ⟨_, Lib.hid rfl⟩
  have hb : Below w2.heap.size w2 w3 := by rw [HX3.out]; exact (Below.refl _ _).alloc (Nat.le_refl _) _
  have h_a3 : w3.heap[w2.heap.size]? = some (.cells #[.int .i64 1, .int .i64 1, .slice (some ⟨g, 0, none⟩) 1 1] 28 (0, 0)) := by rw [HX3.out]; exact heap_alloc_new _ _
  have hy3 : w2.heap.size < w3.heap.size := by rw [HX3.out]; simp
  have h_p3 := (hb.block (w.heap.size) (by omega)).trans h_p2
  have h_g3 := (hb.block (g) (by omega)).trans h_g2
  have hb3 : Below w.heap.size w w3 := hb2.trans (hb.mono (by omega))
  have hz3 : w2.heap.size ≤ w3.heap.size := hb.size
  clear hb
  have c_p0 : w3.cell? ⟨w.heap.size, 0, none⟩ = some (.int .i64 2) := by rw [Lib.cell_of_heap h_p3]; rfl
  have c_p1 : w3.cell? ⟨w.heap.size, 1, none⟩ = some (.bool false) := by rw [Lib.cell_of_heap h_p3]; rfl
  have c_p2 : w3.cell? ⟨w.heap.size, 2, none⟩ = some (.int .i64 5) := by rw [Lib.cell_of_heap h_p3]; rfl
  have c_p3 : w3.cell? ⟨w.heap.size, 3, none⟩ = some (.int .i64 3) := by rw [Lib.cell_of_heap h_p3]; rfl
  go_wp2_with (rw [← HX3.out])
  refine (H2.out _ (HAK.out _ hb3)).mono ?_
  rintro e w4 ⟨V, rfl, hE, hb⟩
  clear c_p0 c_p1 c_p2 c_p3
  have h_p4 := (hb.block (w.heap.size) (by omega)).trans h_p3
  have h_g4 := (hb.block (g) (by omega)).trans h_g3
  have h_a4 := (hb.block (w2.heap.size) (by omega)).trans h_a3
  have hb4 : Below w.heap.size w w4 := hb3.trans (hb.mono (by omega))
  have hz4 : w3.heap.size ≤ w4.heap.size := hb.size
  clear hb
  obtain rfl := hE.nil
  clear hE
  obtain ⟨w5, HX5⟩ : ∃ W : World, Hid (W = w4.alloc (.cells #[.int .i64 3, .int .i64 3, .slice none 0 0] 28)) := ⟨_, Lib.hid rfl⟩
  have hb : Below w4.heap.size w4 w5 := by rw [HX5.out]; exact (Below.refl _ _).alloc (Nat.le_refl _) _
  have h_b5 : w5.heap[w4.heap.size]? = some (.cells #[.int .i64 3, .int .i64 3, .slice none 0 0] 28 (0, 0)) := by rw [HX5.out]; exact heap_alloc_new _ _
  have hy5 : w4.heap.size < w5.heap.size := by rw [HX5.out]; simp
  have h_p5 := (hb.block (w.heap.size) (by omega)).trans h_p4
  have h_g5 := (hb.block (g) (by omega)).trans h_g4
  have h_a5 := (hb.block (w2.heap.size) (by omega)).trans h_a4
  have hb5 : Below w.heap.size w w5 := hb4.trans (hb.mono (by omega))
  have hz5 : w4.heap.size ≤ w5.heap.size := hb.size
  clear hb
  have c_p0 : w5.cell? ⟨w.heap.size, 0, none⟩ = some (.int .i64 2) := by rw [Lib.cell_of_heap h_p5]; rfl
  have c_p1 : w5.cell? ⟨w.heap.size, 1, none⟩ = some (.bool false) := by rw [Lib.cell_of_heap h_p5]; rfl
  have c_p2 : w5.cell? ⟨w.heap.size, 2, none⟩ = some (.int .i64 5) := by rw [Lib.cell_of_heap h_p5]; rfl
  have c_p3 : w5.cell? ⟨w.heap.size, 3, none⟩ = some (.int .i64 3) := by rw [Lib.cell_of_heap h_p5]; rfl
  go_wp2_with (rw [← HX5.out])
  refine (H3.out _ (HAK.out _ hb5)).mono ?_
  rintro e w6 ⟨V, rfl, hE, hb⟩
  clear c_p0 c_p1 c_p2 c_p3
  have h_p6 := (hb.block (w.heap.size) (by omega)).trans h_p5
  have h_g6 := (hb.block (g) (by omega)).trans h_g5
  have h_a6 := (hb.block (w2.heap.size) (by omega)).trans h_a5
  have h_b6 := (hb.block (w4.heap.size) (by omega)).trans h_b5
  have hb6 : Below w.heap.size w w6 := hb5.trans (hb.mono (by omega))
  have hz6 : w5.heap.size ≤ w6.heap.size := hb.size
  clear hb
  obtain rfl := hE.nil
  clear hE
  obtain ⟨w7, HX7⟩ : ∃ W : World, Hid (W = w6.alloc (.cells #[.int .i64 2, .int .i64 3, .slice none 0 0] 28)) := ⟨_, Lib.hid rfl⟩
  have hb : Below w6.heap.size w6 w7 := by rw [HX7.out]; exact (Below.refl _ _).alloc (Nat.le_refl _) _
  have h_c7 : w7.heap[w6.heap.size]? = some (.cells #[.int .i64 2, .int .i64 3, .slice none 0 0] 28 (0, 0)) := by rw [HX7.out]; exact heap_alloc_new _ _
  have hy7 : w6.heap.size < w7.heap.size := by rw [HX7.out]; simp
  have h_p7 := (hb.block (w.heap.size) (by omega)).trans h_p6
  have h_g7 := (hb.block (g) (by omega)).trans h_g6
  have h_a7 := (hb.block (w2.heap.size) (by omega)).trans h_a6
  have h_b7 := (hb.block (w4.heap.size) (by omega)).trans h_b6
  have hb7 : Below w.heap.size w w7 := hb6.trans (hb.mono (by omega))
  have hz7 : w6.heap.size ≤ w7.heap.size := hb.size
  clear hb
  have c_a0 : w7.cell? ⟨w2.heap.size, 0, none⟩ = some (.int .i64 1) := by rw [Lib.cell_of_heap h_a7]; rfl
  have c_a1 : w7.cell? ⟨w2.heap.size, 1, none⟩ = some (.int .i64 1) := by rw [Lib.cell_of_heap h_a7]; rfl
  have c_a2 : w7.cell? ⟨w2.heap.size, 2, none⟩ = some (.slice (some ⟨g, 0, none⟩) 1 1) := by rw [Lib.cell_of_heap h_a7]; rfl
  have h_a7' := h_a7
  obtain ⟨w8, HX8⟩ : ∃ W : World, Hid (W = w7.alloc (.cells #[.int .i64 1, .int .i64 2] 32)) := ⟨_, Lib.hid rfl⟩
  have hb : Below w7.heap.size w7 w8 := by rw [HX8.out]; exact (Below.refl _ _).alloc (Nat.le_refl _) _
  have h_e8 : w8.heap[w7.heap.size]? = some (.cells #[.int .i64 1, .int .i64 2] 32 (0, 0)) := by rw [HX8.out]; exact heap_alloc_new _ _
  have hy8 : w7.heap.size < w8.heap.size := by rw [HX8.out]; simp
  have h_p8 := (hb.block (w.heap.size) (by omega)).trans h_p7
  have h_g8 := (hb.block (g) (by omega)).trans h_g7
  have h_a8 := (hb.block (w2.heap.size) (by omega)).trans h_a7
  have h_b8 := (hb.block (w4.heap.size) (by omega)).trans h_b7
  have h_c8 := (hb.block (w6.heap.size) (by omega)).trans h_c7
  have hb8 : Below w.heap.size w w8 := hb7.trans (hb.mono (by omega))
  have hz8 : w7.heap.size ≤ w8.heap.size := hb.size
  clear hb
  have H7 := Lib.hid (H5.out 1 1 1 2 g w7.heap.size w8 h_g8 h_e8)
  go_wp2_with (first | rw [← HX7.out] | rw [← HX8.out])
  refine (H7.out ).mono ?_
  rintro e w9 ⟨rfl, hb⟩
  clear c_a0 c_a1 c_a2
  have h_p9 := (hb.block (w.heap.size) (by omega)).trans h_p8
  have h_g9 := (hb.block (g) (by omega)).trans h_g8
  have h_a9 := (hb.block (w2.heap.size) (by omega)).trans h_a8
  have h_b9 := (hb.block (w4.heap.size) (by omega)).trans h_b8
  have h_c9 := (hb.block (w6.heap.size) (by omega)).trans h_c8
  have h_e9 := (hb.block (w7.heap.size) (by omega)).trans h_e8
  have hb9 : Below w.heap.size w w9 := hb8.trans (hb.mono (by omega))
  have hz9 : w8.heap.size ≤ w9.heap.size := hb.size
  clear hb
  have c_b0 : w9.cell? ⟨w4.heap.size, 0, none⟩ = some (.int .i64 3) := by rw [Lib.cell_of_heap h_b9]; rfl
  have c_b1 : w9.cell? ⟨w4.heap.size, 1, none⟩ = some (.int .i64 3) := by rw [Lib.cell_of_heap h_b9]; rfl
  have c_b2 : w9.cell? ⟨w4.heap.size, 2, none⟩ = some (.slice none 0 0) := by rw [Lib.cell_of_heap h_b9]; rfl
  go_wp2_with fail
  refine (H6.out _ _ _).mono ?_
  rintro e w10 ⟨rfl, hb⟩
  clear c_b0 c_b1 c_b2
  have h_p10 := (hb.block (w.heap.size) (by omega)).trans h_p9
  have h_g10 := (hb.block (g) (by omega)).trans h_g9
  have h_a10 := (hb.block (w2.heap.size) (by omega)).trans h_a9
  have h_b10 := (hb.block (w4.heap.size) (by omega)).trans h_b9
  have h_c10 := (hb.block (w6.heap.size) (by omega)).trans h_c9
  have h_e10 := (hb.block (w7.heap.size) (by omega)).trans h_e9
  have hb10 : Below w.heap.size w w10 := hb9.trans (hb.mono (by omega))
  have hz10 : w9.heap.size ≤ w10.heap.size := hb.size
  clear hb
  have c_c0 : w10.cell? ⟨w6.heap.size, 0, none⟩ = some (.int .i64 2) := by rw [Lib.cell_of_heap h_c10]; rfl
  have c_c1 : w10.cell? ⟨w6.heap.size, 1, none⟩ = some (.int .i64 3) := by rw [Lib.cell_of_heap h_c10]; rfl
  have c_c2 : w10.cell? ⟨w6.heap.size, 2, none⟩ = some (.slice none 0 0) := by rw [Lib.cell_of_heap h_c10]; rfl
  go_wp2_with fail
  refine (H6.out _ _ _).mono ?_
  rintro e w11 ⟨rfl, hb⟩
  clear c_c0 c_c1 c_c2
  have h_p11 := (hb.block (w.heap.size) (by omega)).trans h_p10
  have h_g11 := (hb.block (g) (by omega)).trans h_g10
  have h_a11 := (hb.block (w2.heap.size) (by omega)).trans h_a10
  have h_b11 := (hb.block (w4.heap.size) (by omega)).trans h_b10
  have h_c11 := (hb.block (w6.heap.size) (by omega)).trans h_c10
  have h_e11 := (hb.block (w7.heap.size) (by omega)).trans h_e10
  have hb11 : Below w.heap.size w w11 := hb10.trans (hb.mono (by omega))
  have hz11 : w10.heap.size ≤ w11.heap.size := hb.size
  clear hb
  have c_p0 : w11.cell? ⟨w.heap.size, 0, none⟩ = some (.int .i64 2) := by rw [Lib.cell_of_heap h_p11]; rfl
  have c_p1 : w11.cell? ⟨w.heap.size, 1, none⟩ = some (.bool false) := by rw [Lib.cell_of_heap h_p11]; rfl
  have c_p2 : w11.cell? ⟨w.heap.size, 2, none⟩ = some (.int .i64 5) := by rw [Lib.cell_of_heap h_p11]; rfl
  have c_p3 : w11.cell? ⟨w.heap.size, 3, none⟩ = some (.int .i64 3) := by rw [Lib.cell_of_heap h_p11]; rfl
  go_wp2_with fail
  refine (H4.out _).mono ?_
  rintro e w12 ⟨rfl, hb⟩
  clear c_p0 c_p1 c_p2 c_p3
  have h_p12 := (hb.block (w.heap.size) (by omega)).trans h_p11
  have h_g12 := (hb.block (g) (by omega)).trans h_g11
  have h_a12 := (hb.block (w2.heap.size) (by omega)).trans h_a11
  have h_b12 := (hb.block (w4.heap.size) (by omega)).trans h_b11
  have h_c12 := (hb.block (w6.heap.size) (by omega)).trans h_c11
  have h_e12 := (hb.block (w7.heap.size) (by omega)).trans h_e11
  have hb12 : Below w.heap.size w w12 := hb11.trans (hb.mono (by omega))
  have hz12 : w11.heap.size ≤ w12.heap.size := hb.size
  clear hb
  go_wp2_with fail
  go_ret
  exact ⟨rfl, hb12⟩
end Go.Proofs.YtpboleiifmepeaaDoor
