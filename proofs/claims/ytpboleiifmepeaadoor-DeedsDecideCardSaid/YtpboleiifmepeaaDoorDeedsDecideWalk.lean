/-
  The walk of the law DeedsDecide: it returns true and writes nothing that was there.
-/
import Derived.Test.YtpboleiifmepeaaDoorAeTail
namespace Go.Proofs.YtpboleiifmepeaaDoor.deedsDecideW
open Go.RowKit Go.Sort
set_option maxRecDepth 100000 in
set_option maxHeartbeats 8000000 in
theorem walk_nil (t : Int) (c : Bool) (x v i j ex k a cd ve : Int) (w : World) (HAK : Hid (∀ X : World, Below w.heap.size w X → Asked X))
    (H1 : Hid (∀ X : World, Below w.heap.size w X → Calls Tryd.prog 9 #[.agg #[.int .i64 t, .bool c, .int .i64 x, .int .i64 v], .agg #[.int .i64 i, .int .i64 j, .int .i64 ex, .int .i64 k, .int .i64 a]] X (DecPost ⟨cd, ve, []⟩ X)))
    (H2 : Hid (∀ X : World, Calls Tryd.prog 10 #[.agg #[.int .i64 t, .bool c, .int .i64 x, .int .i64 v], .agg #[.int .i64 i, .int .i64 j, .int .i64 ex, .int .i64 k, .int .i64 a]] X (DecPost ⟨cd, ve, []⟩ X))) :
    Calls Tryd.prog 3 #[.agg #[.int .i64 t, .bool c, .int .i64 x, .int .i64 v], .agg #[.int .i64 i, .int .i64 j, .int .i64 ex, .int .i64 k, .int .i64 a]] w (fun e w' => e = .returned (.bool true) ∧ Below w.heap.size w w') := by
  have HW := Lib.hid (fun X (hX : Below w.heap.size w X) => aeWorks_any X (HAK.out X hX))
  have HS := Lib.hid (fun X => same_nil cd ve X)
  clear HAK
  obtain ⟨w1, HX1⟩ : ∃ W : World, Hid (W = ((w.alloc (.cells #[.int .i64 t, .bool c, .int .i64 x, .int .i64 v] 23)).alloc (.cells #[.int .i64 i, .int .i64 j, .int .i64 ex, .int .i64 k, .int .i64 a] 25))) := ⟨_, Lib.hid rfl⟩
  obtain ⟨hz1, hb1, h_s1, h_o1⟩ := two_blocks HX1.out
  replace hz1 : w.heap.size + 2 ≤ w1.heap.size := by omega
  have c_s0 : w1.cell? ⟨w.heap.size, 0, none⟩ = some (.int .i64 t) := by rw [Lib.cell_of_heap h_s1]; rfl
  have c_s1 : w1.cell? ⟨w.heap.size, 1, none⟩ = some (.bool c) := by rw [Lib.cell_of_heap h_s1]; rfl
  have c_s2 : w1.cell? ⟨w.heap.size, 2, none⟩ = some (.int .i64 x) := by rw [Lib.cell_of_heap h_s1]; rfl
  have c_s3 : w1.cell? ⟨w.heap.size, 3, none⟩ = some (.int .i64 v) := by rw [Lib.cell_of_heap h_s1]; rfl
  have c_o0 : w1.cell? ⟨w.heap.size + 1, 0, none⟩ = some (.int .i64 i) := by rw [Lib.cell_of_heap h_o1]; rfl
  have c_o1 : w1.cell? ⟨w.heap.size + 1, 1, none⟩ = some (.int .i64 j) := by rw [Lib.cell_of_heap h_o1]; rfl
  have c_o2 : w1.cell? ⟨w.heap.size + 1, 2, none⟩ = some (.int .i64 ex) := by rw [Lib.cell_of_heap h_o1]; rfl
  have c_o3 : w1.cell? ⟨w.heap.size + 1, 3, none⟩ = some (.int .i64 k) := by rw [Lib.cell_of_heap h_o1]; rfl
  have c_o4 : w1.cell? ⟨w.heap.size + 1, 4, none⟩ = some (.int .i64 a) := by rw [Lib.cell_of_heap h_o1]; rfl
  go_enter Tryd.func3, Tryd.ntmps3
  go_wp2_with (rw [← HX1.out])
  refine (H1.out _ hb1).mono ?_
  rintro e w2 ⟨V, rfl, hE, hb⟩
  clear c_s0 c_s1 c_s2 c_s3 c_o0 c_o1 c_o2 c_o3 c_o4
  have h_s2 := (hb.block (w.heap.size) (by omega)).trans h_s1
  have h_o2 := (hb.block (w.heap.size + 1) (by omega)).trans h_o1
  have hb2 : Below w.heap.size w w2 := hb1.trans (hb.mono (by omega))
  have hz2 : w1.heap.size ≤ w2.heap.size := hb.size
  clear hb
  obtain rfl := hE.nil
  clear hE
  obtain ⟨w3, HX3⟩ : ∃ W : World, Hid (W = w2.alloc (.cells #[.int .i64 cd, .int .i64 ve, .slice none 0 0] 28)) := ⟨_, Lib.hid rfl⟩
  have hb : Below w2.heap.size w2 w3 := by rw [HX3.out]; exact (Below.refl _ _).alloc (Nat.le_refl _) _
  have h_A3 : w3.heap[w2.heap.size]? = some (.cells #[.int .i64 cd, .int .i64 ve, .slice none 0 0] 28 (0, 0)) := by rw [HX3.out]; exact heap_alloc_new _ _
  have hy3 : w2.heap.size < w3.heap.size := by rw [HX3.out]; simp
  have h_s3 := (hb.block (w.heap.size) (by omega)).trans h_s2
  have h_o3 := (hb.block (w.heap.size + 1) (by omega)).trans h_o2
  have hb3 : Below w.heap.size w w3 := hb2.trans (hb.mono (by omega))
  have hz3 : w2.heap.size ≤ w3.heap.size := hb.size
  clear hb
  have c_s0 : w3.cell? ⟨w.heap.size, 0, none⟩ = some (.int .i64 t) := by rw [Lib.cell_of_heap h_s3]; rfl
  have c_s1 : w3.cell? ⟨w.heap.size, 1, none⟩ = some (.bool c) := by rw [Lib.cell_of_heap h_s3]; rfl
  have c_s2 : w3.cell? ⟨w.heap.size, 2, none⟩ = some (.int .i64 x) := by rw [Lib.cell_of_heap h_s3]; rfl
  have c_s3 : w3.cell? ⟨w.heap.size, 3, none⟩ = some (.int .i64 v) := by rw [Lib.cell_of_heap h_s3]; rfl
  have c_o0 : w3.cell? ⟨w.heap.size + 1, 0, none⟩ = some (.int .i64 i) := by rw [Lib.cell_of_heap h_o3]; rfl
  have c_o1 : w3.cell? ⟨w.heap.size + 1, 1, none⟩ = some (.int .i64 j) := by rw [Lib.cell_of_heap h_o3]; rfl
  have c_o2 : w3.cell? ⟨w.heap.size + 1, 2, none⟩ = some (.int .i64 ex) := by rw [Lib.cell_of_heap h_o3]; rfl
  have c_o3 : w3.cell? ⟨w.heap.size + 1, 3, none⟩ = some (.int .i64 k) := by rw [Lib.cell_of_heap h_o3]; rfl
  have c_o4 : w3.cell? ⟨w.heap.size + 1, 4, none⟩ = some (.int .i64 a) := by rw [Lib.cell_of_heap h_o3]; rfl
  go_wp2_with (rw [← HX3.out])
  refine (H2.out _).mono ?_
  rintro e w4 ⟨V, rfl, hE, hb⟩
  clear c_s0 c_s1 c_s2 c_s3 c_o0 c_o1 c_o2 c_o3 c_o4
  have h_s4 := (hb.block (w.heap.size) (by omega)).trans h_s3
  have h_o4 := (hb.block (w.heap.size + 1) (by omega)).trans h_o3
  have h_A4 := (hb.block (w2.heap.size) (by omega)).trans h_A3
  have hb4 : Below w.heap.size w w4 := hb3.trans (hb.mono (by omega))
  have hz4 : w3.heap.size ≤ w4.heap.size := hb.size
  clear hb
  obtain rfl := hE.nil
  clear hE
  obtain ⟨w5, HX5⟩ : ∃ W : World, Hid (W = w4.alloc (.cells #[.int .i64 cd, .int .i64 ve, .slice none 0 0] 28)) := ⟨_, Lib.hid rfl⟩
  have hb : Below w4.heap.size w4 w5 := by rw [HX5.out]; exact (Below.refl _ _).alloc (Nat.le_refl _) _
  have h_B5 : w5.heap[w4.heap.size]? = some (.cells #[.int .i64 cd, .int .i64 ve, .slice none 0 0] 28 (0, 0)) := by rw [HX5.out]; exact heap_alloc_new _ _
  have hy5 : w4.heap.size < w5.heap.size := by rw [HX5.out]; simp
  have h_s5 := (hb.block (w.heap.size) (by omega)).trans h_s4
  have h_o5 := (hb.block (w.heap.size + 1) (by omega)).trans h_o4
  have h_A5 := (hb.block (w2.heap.size) (by omega)).trans h_A4
  have hb5 : Below w.heap.size w w5 := hb4.trans (hb.mono (by omega))
  have hz5 : w4.heap.size ≤ w5.heap.size := hb.size
  clear hb
  have c_A0 : w5.cell? ⟨w2.heap.size, 0, none⟩ = some (.int .i64 cd) := by rw [Lib.cell_of_heap h_A5]; rfl
  have c_A1 : w5.cell? ⟨w2.heap.size, 1, none⟩ = some (.int .i64 ve) := by rw [Lib.cell_of_heap h_A5]; rfl
  have c_A2 : w5.cell? ⟨w2.heap.size, 2, none⟩ = some (.slice none 0 0) := by rw [Lib.cell_of_heap h_A5]; rfl
  have c_B0 : w5.cell? ⟨w4.heap.size, 0, none⟩ = some (.int .i64 cd) := by rw [Lib.cell_of_heap h_B5]; rfl
  have c_B1 : w5.cell? ⟨w4.heap.size, 1, none⟩ = some (.int .i64 ve) := by rw [Lib.cell_of_heap h_B5]; rfl
  have c_B2 : w5.cell? ⟨w4.heap.size, 2, none⟩ = some (.slice none 0 0) := by rw [Lib.cell_of_heap h_B5]; rfl
  go_wp2_with (rw [← HX5.out])
  refine (HS.out _).mono ?_
  rintro e w6 ⟨rfl, hb⟩
  clear c_A0 c_A1 c_A2 c_B0 c_B1 c_B2
  have h_s6 := (hb.block (w.heap.size) (by omega)).trans h_s5
  have h_o6 := (hb.block (w.heap.size + 1) (by omega)).trans h_o5
  have h_A6 := (hb.block (w2.heap.size) (by omega)).trans h_A5
  have h_B6 := (hb.block (w4.heap.size) (by omega)).trans h_B5
  have hb6 : Below w.heap.size w w6 := hb5.trans (hb.mono (by omega))
  have hz6 : w5.heap.size ≤ w6.heap.size := hb.size
  clear hb
  have c_A2 : w6.cell? ⟨w2.heap.size, 2, none⟩ = some (.slice none 0 0) := by rw [Lib.cell_of_heap h_A6]; rfl
  go_wp2_with fail
  refine wp_loop_rounds 1 ?_
  rw [rounds_succ]
  have c_s0 : w6.cell? ⟨w.heap.size, 0, none⟩ = some (.int .i64 t) := by rw [Lib.cell_of_heap h_s6]; rfl
  have c_s1 : w6.cell? ⟨w.heap.size, 1, none⟩ = some (.bool c) := by rw [Lib.cell_of_heap h_s6]; rfl
  have c_s2 : w6.cell? ⟨w.heap.size, 2, none⟩ = some (.int .i64 x) := by rw [Lib.cell_of_heap h_s6]; rfl
  have c_s3 : w6.cell? ⟨w.heap.size, 3, none⟩ = some (.int .i64 v) := by rw [Lib.cell_of_heap h_s6]; rfl
  have c_o0 : w6.cell? ⟨w.heap.size + 1, 0, none⟩ = some (.int .i64 i) := by rw [Lib.cell_of_heap h_o6]; rfl
  have c_o1 : w6.cell? ⟨w.heap.size + 1, 1, none⟩ = some (.int .i64 j) := by rw [Lib.cell_of_heap h_o6]; rfl
  have c_o2 : w6.cell? ⟨w.heap.size + 1, 2, none⟩ = some (.int .i64 ex) := by rw [Lib.cell_of_heap h_o6]; rfl
  have c_o3 : w6.cell? ⟨w.heap.size + 1, 3, none⟩ = some (.int .i64 k) := by rw [Lib.cell_of_heap h_o6]; rfl
  have c_o4 : w6.cell? ⟨w.heap.size + 1, 4, none⟩ = some (.int .i64 a) := by rw [Lib.cell_of_heap h_o6]; rfl
  have c_B0 : w6.cell? ⟨w4.heap.size, 0, none⟩ = some (.int .i64 cd) := by rw [Lib.cell_of_heap h_B6]; rfl
  have c_B1 : w6.cell? ⟨w4.heap.size, 1, none⟩ = some (.int .i64 ve) := by rw [Lib.cell_of_heap h_B6]; rfl
  have c_B2 : w6.cell? ⟨w4.heap.size, 2, none⟩ = some (.slice none 0 0) := by rw [Lib.cell_of_heap h_B6]; rfl
  go_wp2_with fail
  have hbd := hb6.drew
  go_region_held3 (fun X => X.cell? ⟨w.heap.size, 0, none⟩ = some (.int .i64 t) ∧ X.cell? ⟨w.heap.size, 1, none⟩ = some (.bool c) ∧ X.cell? ⟨w.heap.size, 2, none⟩ = some (.int .i64 x) ∧ X.cell? ⟨w.heap.size, 3, none⟩ = some (.int .i64 v) ∧ X.cell? ⟨w.heap.size + 1, 0, none⟩ = some (.int .i64 i) ∧ X.cell? ⟨w.heap.size + 1, 1, none⟩ = some (.int .i64 j) ∧ X.cell? ⟨w.heap.size + 1, 2, none⟩ = some (.int .i64 ex) ∧ X.cell? ⟨w.heap.size + 1, 3, none⟩ = some (.int .i64 k) ∧ X.cell? ⟨w.heap.size + 1, 4, none⟩ = some (.int .i64 a) ∧ X.cell? ⟨w4.heap.size, 0, none⟩ = some (.int .i64 cd) ∧ X.cell? ⟨w4.heap.size, 1, none⟩ = some (.int .i64 ve) ∧ X.cell? ⟨w4.heap.size, 2, none⟩ = some (.slice none 0 0)) (first | exact hSd | exact hSe | exact hSf | go_keep) ((first | (go_at_call 9; (refine (H1.out _ hbd).mono ?_); rintro e wd ⟨V, rfl, hE, hb⟩; have hsd : w6.heap.size ≤ wd.heap.size := hb.size; have hbD : Below w.heap.size w wd := (hbd.trans (hb.mono hbd.size)); have h_sd := (hb.block (w.heap.size) (by show w.heap.size < w6.heap.size; omega)).trans h_s6; have h_od := (hb.block (w.heap.size + 1) (by show w.heap.size + 1 < w6.heap.size; omega)).trans h_o6; have h_Bd := (hb.block (w4.heap.size) (by show w4.heap.size < w6.heap.size; omega)).trans h_B6; have hSd : wd.cell? ⟨w.heap.size, 0, none⟩ = some (.int .i64 t) ∧ wd.cell? ⟨w.heap.size, 1, none⟩ = some (.bool c) ∧ wd.cell? ⟨w.heap.size, 2, none⟩ = some (.int .i64 x) ∧ wd.cell? ⟨w.heap.size, 3, none⟩ = some (.int .i64 v) ∧ wd.cell? ⟨w.heap.size + 1, 0, none⟩ = some (.int .i64 i) ∧ wd.cell? ⟨w.heap.size + 1, 1, none⟩ = some (.int .i64 j) ∧ wd.cell? ⟨w.heap.size + 1, 2, none⟩ = some (.int .i64 ex) ∧ wd.cell? ⟨w.heap.size + 1, 3, none⟩ = some (.int .i64 k) ∧ wd.cell? ⟨w.heap.size + 1, 4, none⟩ = some (.int .i64 a) ∧ wd.cell? ⟨w4.heap.size, 0, none⟩ = some (.int .i64 cd) ∧ wd.cell? ⟨w4.heap.size, 1, none⟩ = some (.int .i64 ve) ∧ wd.cell? ⟨w4.heap.size, 2, none⟩ = some (.slice none 0 0) := ⟨(by rw [Lib.cell_of_heap h_sd]; rfl), (by rw [Lib.cell_of_heap h_sd]; rfl), (by rw [Lib.cell_of_heap h_sd]; rfl), (by rw [Lib.cell_of_heap h_sd]; rfl), (by rw [Lib.cell_of_heap h_od]; rfl), (by rw [Lib.cell_of_heap h_od]; rfl), (by rw [Lib.cell_of_heap h_od]; rfl), (by rw [Lib.cell_of_heap h_od]; rfl), (by rw [Lib.cell_of_heap h_od]; rfl), (by rw [Lib.cell_of_heap h_Bd]; rfl), (by rw [Lib.cell_of_heap h_Bd]; rfl), (by rw [Lib.cell_of_heap h_Bd]; rfl)⟩; obtain rfl := hE.nil) | (go_at_call 11; (refine (HS.out _).mono ?_); rintro e we ⟨rfl, hb⟩; have hbE : Below w.heap.size w we := (hbD.trans (hb.mono hbD.size)); have hse : w6.heap.size ≤ we.heap.size := Nat.le_trans hsd hb.size; have h_se := (hb.block (w.heap.size) (Nat.lt_of_lt_of_le (by show w.heap.size < w6.heap.size; omega) hsd)).trans h_sd; have h_oe := (hb.block (w.heap.size + 1) (Nat.lt_of_lt_of_le (by show w.heap.size + 1 < w6.heap.size; omega) hsd)).trans h_od; have h_Be := (hb.block (w4.heap.size) (Nat.lt_of_lt_of_le (by show w4.heap.size < w6.heap.size; omega) hsd)).trans h_Bd; have hSe : we.cell? ⟨w.heap.size, 0, none⟩ = some (.int .i64 t) ∧ we.cell? ⟨w.heap.size, 1, none⟩ = some (.bool c) ∧ we.cell? ⟨w.heap.size, 2, none⟩ = some (.int .i64 x) ∧ we.cell? ⟨w.heap.size, 3, none⟩ = some (.int .i64 v) ∧ we.cell? ⟨w.heap.size + 1, 0, none⟩ = some (.int .i64 i) ∧ we.cell? ⟨w.heap.size + 1, 1, none⟩ = some (.int .i64 j) ∧ we.cell? ⟨w.heap.size + 1, 2, none⟩ = some (.int .i64 ex) ∧ we.cell? ⟨w.heap.size + 1, 3, none⟩ = some (.int .i64 k) ∧ we.cell? ⟨w.heap.size + 1, 4, none⟩ = some (.int .i64 a) ∧ we.cell? ⟨w4.heap.size, 0, none⟩ = some (.int .i64 cd) ∧ we.cell? ⟨w4.heap.size, 1, none⟩ = some (.int .i64 ve) ∧ we.cell? ⟨w4.heap.size, 2, none⟩ = some (.slice none 0 0) := ⟨(by rw [Lib.cell_of_heap h_se]; rfl), (by rw [Lib.cell_of_heap h_se]; rfl), (by rw [Lib.cell_of_heap h_se]; rfl), (by rw [Lib.cell_of_heap h_se]; rfl), (by rw [Lib.cell_of_heap h_oe]; rfl), (by rw [Lib.cell_of_heap h_oe]; rfl), (by rw [Lib.cell_of_heap h_oe]; rfl), (by rw [Lib.cell_of_heap h_oe]; rfl), (by rw [Lib.cell_of_heap h_oe]; rfl), (by rw [Lib.cell_of_heap h_Be]; rfl), (by rw [Lib.cell_of_heap h_Be]; rfl), (by rw [Lib.cell_of_heap h_Be]; rfl)⟩) | (go_at_call 12; (refine (HW.out _ hbE).mono ?_); rintro e wf ⟨rfl, hb⟩; have hbF : Below w.heap.size w wf := (hbE.trans (hb.mono hbE.size)); have h_sf := (hb.block (w.heap.size) (Nat.lt_of_lt_of_le (by show w.heap.size < w6.heap.size; omega) hse)).trans h_se; have h_of := (hb.block (w.heap.size + 1) (Nat.lt_of_lt_of_le (by show w.heap.size + 1 < w6.heap.size; omega) hse)).trans h_oe; have h_Bf := (hb.block (w4.heap.size) (Nat.lt_of_lt_of_le (by show w4.heap.size < w6.heap.size; omega) hse)).trans h_Be; have hSf : wf.cell? ⟨w.heap.size, 0, none⟩ = some (.int .i64 t) ∧ wf.cell? ⟨w.heap.size, 1, none⟩ = some (.bool c) ∧ wf.cell? ⟨w.heap.size, 2, none⟩ = some (.int .i64 x) ∧ wf.cell? ⟨w.heap.size, 3, none⟩ = some (.int .i64 v) ∧ wf.cell? ⟨w.heap.size + 1, 0, none⟩ = some (.int .i64 i) ∧ wf.cell? ⟨w.heap.size + 1, 1, none⟩ = some (.int .i64 j) ∧ wf.cell? ⟨w.heap.size + 1, 2, none⟩ = some (.int .i64 ex) ∧ wf.cell? ⟨w.heap.size + 1, 3, none⟩ = some (.int .i64 k) ∧ wf.cell? ⟨w.heap.size + 1, 4, none⟩ = some (.int .i64 a) ∧ wf.cell? ⟨w4.heap.size, 0, none⟩ = some (.int .i64 cd) ∧ wf.cell? ⟨w4.heap.size, 1, none⟩ = some (.int .i64 ve) ∧ wf.cell? ⟨w4.heap.size, 2, none⟩ = some (.slice none 0 0) := ⟨(by rw [Lib.cell_of_heap h_sf]; rfl), (by rw [Lib.cell_of_heap h_sf]; rfl), (by rw [Lib.cell_of_heap h_sf]; rfl), (by rw [Lib.cell_of_heap h_sf]; rfl), (by rw [Lib.cell_of_heap h_of]; rfl), (by rw [Lib.cell_of_heap h_of]; rfl), (by rw [Lib.cell_of_heap h_of]; rfl), (by rw [Lib.cell_of_heap h_of]; rfl), (by rw [Lib.cell_of_heap h_of]; rfl), (by rw [Lib.cell_of_heap h_Bf]; rfl), (by rw [Lib.cell_of_heap h_Bf]; rfl), (by rw [Lib.cell_of_heap h_Bf]; rfl)⟩)))
  all_goals
    go_wp2_with fail
    go_ret
    exact ⟨rfl, hbF⟩
set_option maxRecDepth 100000 in
set_option maxHeartbeats 8000000 in
theorem walk_one (t : Int) (c : Bool) (x v i j ex k a cd ve k1 a1 : Int) (w : World) (HAK : Hid (∀ X : World, Below w.heap.size w X → Asked X))
    (H1 : Hid (∀ X : World, Below w.heap.size w X → Calls Tryd.prog 9 #[.agg #[.int .i64 t, .bool c, .int .i64 x, .int .i64 v], .agg #[.int .i64 i, .int .i64 j, .int .i64 ex, .int .i64 k, .int .i64 a]] X (DecPost ⟨cd, ve, [⟨k1, a1⟩]⟩ X)))
    (H2 : Hid (∀ X : World, Calls Tryd.prog 10 #[.agg #[.int .i64 t, .bool c, .int .i64 x, .int .i64 v], .agg #[.int .i64 i, .int .i64 j, .int .i64 ex, .int .i64 k, .int .i64 a]] X (DecPost ⟨cd, ve, [⟨k1, a1⟩]⟩ X))) :
    Calls Tryd.prog 3 #[.agg #[.int .i64 t, .bool c, .int .i64 x, .int .i64 v], .agg #[.int .i64 i, .int .i64 j, .int .i64 ex, .int .i64 k, .int .i64 a]] w (fun e w' => e = .returned (.bool true) ∧ Below w.heap.size w w') := by
  have HW := Lib.hid (fun X (hX : Below w.heap.size w X) => aeWorks_any X (HAK.out X hX))
  have HS := Lib.hid (fun g g' X h h' => same_one cd ve k1 a1 g g' X h h')
  clear HAK
  obtain ⟨w1, HX1⟩ : ∃ W : World, Hid (W = ((w.alloc (.cells #[.int .i64 t, .bool c, .int .i64 x, .int .i64 v] 23)).alloc (.cells #[.int .i64 i, .int .i64 j, .int .i64 ex, .int .i64 k, .int .i64 a] 25))) := ⟨_, Lib.hid rfl⟩
  obtain ⟨hz1, hb1, h_s1, h_o1⟩ := two_blocks HX1.out
  replace hz1 : w.heap.size + 2 ≤ w1.heap.size := by omega
  have c_s0 : w1.cell? ⟨w.heap.size, 0, none⟩ = some (.int .i64 t) := by rw [Lib.cell_of_heap h_s1]; rfl
  have c_s1 : w1.cell? ⟨w.heap.size, 1, none⟩ = some (.bool c) := by rw [Lib.cell_of_heap h_s1]; rfl
  have c_s2 : w1.cell? ⟨w.heap.size, 2, none⟩ = some (.int .i64 x) := by rw [Lib.cell_of_heap h_s1]; rfl
  have c_s3 : w1.cell? ⟨w.heap.size, 3, none⟩ = some (.int .i64 v) := by rw [Lib.cell_of_heap h_s1]; rfl
  have c_o0 : w1.cell? ⟨w.heap.size + 1, 0, none⟩ = some (.int .i64 i) := by rw [Lib.cell_of_heap h_o1]; rfl
  have c_o1 : w1.cell? ⟨w.heap.size + 1, 1, none⟩ = some (.int .i64 j) := by rw [Lib.cell_of_heap h_o1]; rfl
  have c_o2 : w1.cell? ⟨w.heap.size + 1, 2, none⟩ = some (.int .i64 ex) := by rw [Lib.cell_of_heap h_o1]; rfl
  have c_o3 : w1.cell? ⟨w.heap.size + 1, 3, none⟩ = some (.int .i64 k) := by rw [Lib.cell_of_heap h_o1]; rfl
  have c_o4 : w1.cell? ⟨w.heap.size + 1, 4, none⟩ = some (.int .i64 a) := by rw [Lib.cell_of_heap h_o1]; rfl
  go_enter Tryd.func3, Tryd.ntmps3
  go_wp2_with (rw [← HX1.out])
  refine (H1.out _ hb1).mono ?_
  rintro e w2 ⟨V, rfl, hE, hb⟩
  clear c_s0 c_s1 c_s2 c_s3 c_o0 c_o1 c_o2 c_o3 c_o4
  have h_s2 := (hb.block (w.heap.size) (by omega)).trans h_s1
  have h_o2 := (hb.block (w.heap.size + 1) (by omega)).trans h_o1
  have hb2 : Below w.heap.size w w2 := hb1.trans (hb.mono (by omega))
  have hz2 : w1.heap.size ≤ w2.heap.size := hb.size
  clear hb
  obtain ⟨g, rfl, hgeg, hglg, h_g2⟩ := hE.one
  simp only at h_g2
  clear hE
  obtain ⟨w3, HX3⟩ : ∃ W : World, Hid (W = w2.alloc (.cells #[.int .i64 cd, .int .i64 ve, .slice (some ⟨g, 0, none⟩) 1 1] 28)) := ⟨_, Lib.hid rfl⟩
  have hb : Below w2.heap.size w2 w3 := by rw [HX3.out]; exact (Below.refl _ _).alloc (Nat.le_refl _) _
  have h_A3 : w3.heap[w2.heap.size]? = some (.cells #[.int .i64 cd, .int .i64 ve, .slice (some ⟨g, 0, none⟩) 1 1] 28 (0, 0)) := by rw [HX3.out]; exact heap_alloc_new _ _
  have hy3 : w2.heap.size < w3.heap.size := by rw [HX3.out]; simp
  have h_s3 := (hb.block (w.heap.size) (by omega)).trans h_s2
  have h_o3 := (hb.block (w.heap.size + 1) (by omega)).trans h_o2
  have h_g3 := (hb.block (g) (by omega)).trans h_g2
  have hb3 : Below w.heap.size w w3 := hb2.trans (hb.mono (by omega))
  have hz3 : w2.heap.size ≤ w3.heap.size := hb.size
  clear hb
  have c_s0 : w3.cell? ⟨w.heap.size, 0, none⟩ = some (.int .i64 t) := by rw [Lib.cell_of_heap h_s3]; rfl
  have c_s1 : w3.cell? ⟨w.heap.size, 1, none⟩ = some (.bool c) := by rw [Lib.cell_of_heap h_s3]; rfl
  have c_s2 : w3.cell? ⟨w.heap.size, 2, none⟩ = some (.int .i64 x) := by rw [Lib.cell_of_heap h_s3]; rfl
  have c_s3 : w3.cell? ⟨w.heap.size, 3, none⟩ = some (.int .i64 v) := by rw [Lib.cell_of_heap h_s3]; rfl
  have c_o0 : w3.cell? ⟨w.heap.size + 1, 0, none⟩ = some (.int .i64 i) := by rw [Lib.cell_of_heap h_o3]; rfl
  have c_o1 : w3.cell? ⟨w.heap.size + 1, 1, none⟩ = some (.int .i64 j) := by rw [Lib.cell_of_heap h_o3]; rfl
  have c_o2 : w3.cell? ⟨w.heap.size + 1, 2, none⟩ = some (.int .i64 ex) := by rw [Lib.cell_of_heap h_o3]; rfl
  have c_o3 : w3.cell? ⟨w.heap.size + 1, 3, none⟩ = some (.int .i64 k) := by rw [Lib.cell_of_heap h_o3]; rfl
  have c_o4 : w3.cell? ⟨w.heap.size + 1, 4, none⟩ = some (.int .i64 a) := by rw [Lib.cell_of_heap h_o3]; rfl
  go_wp2_with (rw [← HX3.out])
  refine (H2.out _).mono ?_
  rintro e w4 ⟨V, rfl, hE, hb⟩
  clear c_s0 c_s1 c_s2 c_s3 c_o0 c_o1 c_o2 c_o3 c_o4
  have h_s4 := (hb.block (w.heap.size) (by omega)).trans h_s3
  have h_o4 := (hb.block (w.heap.size + 1) (by omega)).trans h_o3
  have h_g4 := (hb.block (g) (by omega)).trans h_g3
  have h_A4 := (hb.block (w2.heap.size) (by omega)).trans h_A3
  have hb4 : Below w.heap.size w w4 := hb3.trans (hb.mono (by omega))
  have hz4 : w3.heap.size ≤ w4.heap.size := hb.size
  clear hb
  obtain ⟨f, rfl, hgef, hglf, h_f4⟩ := hE.one
  simp only at h_f4
  clear hE
  obtain ⟨w5, HX5⟩ : ∃ W : World, Hid (W = w4.alloc (.cells #[.int .i64 cd, .int .i64 ve, .slice (some ⟨f, 0, none⟩) 1 1] 28)) := ⟨_, Lib.hid rfl⟩
  have hb : Below w4.heap.size w4 w5 := by rw [HX5.out]; exact (Below.refl _ _).alloc (Nat.le_refl _) _
  have h_B5 : w5.heap[w4.heap.size]? = some (.cells #[.int .i64 cd, .int .i64 ve, .slice (some ⟨f, 0, none⟩) 1 1] 28 (0, 0)) := by rw [HX5.out]; exact heap_alloc_new _ _
  have hy5 : w4.heap.size < w5.heap.size := by rw [HX5.out]; simp
  have h_s5 := (hb.block (w.heap.size) (by omega)).trans h_s4
  have h_o5 := (hb.block (w.heap.size + 1) (by omega)).trans h_o4
  have h_g5 := (hb.block (g) (by omega)).trans h_g4
  have h_A5 := (hb.block (w2.heap.size) (by omega)).trans h_A4
  have h_f5 := (hb.block (f) (by omega)).trans h_f4
  have hb5 : Below w.heap.size w w5 := hb4.trans (hb.mono (by omega))
  have hz5 : w4.heap.size ≤ w5.heap.size := hb.size
  clear hb
  have c_A0 : w5.cell? ⟨w2.heap.size, 0, none⟩ = some (.int .i64 cd) := by rw [Lib.cell_of_heap h_A5]; rfl
  have c_A1 : w5.cell? ⟨w2.heap.size, 1, none⟩ = some (.int .i64 ve) := by rw [Lib.cell_of_heap h_A5]; rfl
  have c_A2 : w5.cell? ⟨w2.heap.size, 2, none⟩ = some (.slice (some ⟨g, 0, none⟩) 1 1) := by rw [Lib.cell_of_heap h_A5]; rfl
  have c_B0 : w5.cell? ⟨w4.heap.size, 0, none⟩ = some (.int .i64 cd) := by rw [Lib.cell_of_heap h_B5]; rfl
  have c_B1 : w5.cell? ⟨w4.heap.size, 1, none⟩ = some (.int .i64 ve) := by rw [Lib.cell_of_heap h_B5]; rfl
  have c_B2 : w5.cell? ⟨w4.heap.size, 2, none⟩ = some (.slice (some ⟨f, 0, none⟩) 1 1) := by rw [Lib.cell_of_heap h_B5]; rfl
  go_wp2_with (rw [← HX5.out])
  refine (HS.out _ _ _ h_g5 h_f5).mono ?_
  rintro e w6 ⟨rfl, hb⟩
  clear c_A0 c_A1 c_A2 c_B0 c_B1 c_B2
  have h_s6 := (hb.block (w.heap.size) (by omega)).trans h_s5
  have h_o6 := (hb.block (w.heap.size + 1) (by omega)).trans h_o5
  have h_g6 := (hb.block (g) (by omega)).trans h_g5
  have h_A6 := (hb.block (w2.heap.size) (by omega)).trans h_A5
  have h_f6 := (hb.block (f) (by omega)).trans h_f5
  have h_B6 := (hb.block (w4.heap.size) (by omega)).trans h_B5
  have hb6 : Below w.heap.size w w6 := hb5.trans (hb.mono (by omega))
  have hz6 : w5.heap.size ≤ w6.heap.size := hb.size
  clear hb
  have c_A2 : w6.cell? ⟨w2.heap.size, 2, none⟩ = some (.slice (some ⟨g, 0, none⟩) 1 1) := by rw [Lib.cell_of_heap h_A6]; rfl
  go_wp2_with fail
  refine wp_loop_rounds 2 ?_
  rw [rounds_succ]
  have f_g : ∀ i, w6.frozen? ⟨g, i, none⟩ = false := fun i => Lib.frozen_of_heap h_g6 i
  have c_g0 : w6.cell? ⟨g, 0, none⟩ = some (.int .i64 k1) := by rw [Lib.cell_of_heap h_g6]; rfl
  have c_g1 : w6.cell? ⟨g, 1, none⟩ = some (.int .i64 a1) := by rw [Lib.cell_of_heap h_g6]; rfl
  go_wp2_with fail
  obtain ⟨w7, HX7⟩ : ∃ W : World, Hid (W = (w6.setCell ⟨g, 0, none⟩ (.int .i64 (-9))).setCell ⟨g, 1, none⟩ (.int .i64 0)) := ⟨_, Lib.hid rfl⟩
  obtain ⟨h_g7, hbl, hzz, hoth⟩ := set_two (n := w.heap.size) h_g6 (by omega) HX7.out
  have h_s7 := (hoth (w.heap.size) (by omega)).trans h_s6
  have h_o7 := (hoth (w.heap.size + 1) (by omega)).trans h_o6
  have h_A7 := (hoth (w2.heap.size) (by omega)).trans h_A6
  have h_f7 := (hoth (f) (by omega)).trans h_f6
  have h_B7 := (hoth (w4.heap.size) (by omega)).trans h_B6
  have hb7 := hb6.trans hbl
  have hz7 : w6.heap.size ≤ w7.heap.size := by omega
  clear hbl hzz hoth
  rw [← HX7.out]
  clear c_A2 f_g c_g0 c_g1
  have c_A2 : w7.cell? ⟨w2.heap.size, 2, none⟩ = some (.slice (some ⟨g, 0, none⟩) 1 1) := by rw [Lib.cell_of_heap h_A7]; rfl
  rw [rounds_succ]
  have c_s0 : w7.cell? ⟨w.heap.size, 0, none⟩ = some (.int .i64 t) := by rw [Lib.cell_of_heap h_s7]; rfl
  have c_s1 : w7.cell? ⟨w.heap.size, 1, none⟩ = some (.bool c) := by rw [Lib.cell_of_heap h_s7]; rfl
  have c_s2 : w7.cell? ⟨w.heap.size, 2, none⟩ = some (.int .i64 x) := by rw [Lib.cell_of_heap h_s7]; rfl
  have c_s3 : w7.cell? ⟨w.heap.size, 3, none⟩ = some (.int .i64 v) := by rw [Lib.cell_of_heap h_s7]; rfl
  have c_o0 : w7.cell? ⟨w.heap.size + 1, 0, none⟩ = some (.int .i64 i) := by rw [Lib.cell_of_heap h_o7]; rfl
  have c_o1 : w7.cell? ⟨w.heap.size + 1, 1, none⟩ = some (.int .i64 j) := by rw [Lib.cell_of_heap h_o7]; rfl
  have c_o2 : w7.cell? ⟨w.heap.size + 1, 2, none⟩ = some (.int .i64 ex) := by rw [Lib.cell_of_heap h_o7]; rfl
  have c_o3 : w7.cell? ⟨w.heap.size + 1, 3, none⟩ = some (.int .i64 k) := by rw [Lib.cell_of_heap h_o7]; rfl
  have c_o4 : w7.cell? ⟨w.heap.size + 1, 4, none⟩ = some (.int .i64 a) := by rw [Lib.cell_of_heap h_o7]; rfl
  have c_B0 : w7.cell? ⟨w4.heap.size, 0, none⟩ = some (.int .i64 cd) := by rw [Lib.cell_of_heap h_B7]; rfl
  have c_B1 : w7.cell? ⟨w4.heap.size, 1, none⟩ = some (.int .i64 ve) := by rw [Lib.cell_of_heap h_B7]; rfl
  have c_B2 : w7.cell? ⟨w4.heap.size, 2, none⟩ = some (.slice (some ⟨f, 0, none⟩) 1 1) := by rw [Lib.cell_of_heap h_B7]; rfl
  go_wp2_with fail
  have hbd := hb7.drew
  go_region_held3 (fun X => X.cell? ⟨w.heap.size, 0, none⟩ = some (.int .i64 t) ∧ X.cell? ⟨w.heap.size, 1, none⟩ = some (.bool c) ∧ X.cell? ⟨w.heap.size, 2, none⟩ = some (.int .i64 x) ∧ X.cell? ⟨w.heap.size, 3, none⟩ = some (.int .i64 v) ∧ X.cell? ⟨w.heap.size + 1, 0, none⟩ = some (.int .i64 i) ∧ X.cell? ⟨w.heap.size + 1, 1, none⟩ = some (.int .i64 j) ∧ X.cell? ⟨w.heap.size + 1, 2, none⟩ = some (.int .i64 ex) ∧ X.cell? ⟨w.heap.size + 1, 3, none⟩ = some (.int .i64 k) ∧ X.cell? ⟨w.heap.size + 1, 4, none⟩ = some (.int .i64 a) ∧ X.cell? ⟨w4.heap.size, 0, none⟩ = some (.int .i64 cd) ∧ X.cell? ⟨w4.heap.size, 1, none⟩ = some (.int .i64 ve) ∧ X.cell? ⟨w4.heap.size, 2, none⟩ = some (.slice (some ⟨f, 0, none⟩) 1 1)) (first | exact hSd | exact hSe | exact hSf | go_keep) ((first | (go_at_call 9; (refine (H1.out _ hbd).mono ?_); rintro e wd ⟨V, rfl, hE, hb⟩; have hsd : w7.heap.size ≤ wd.heap.size := hb.size; have hbD : Below w.heap.size w wd := (hbd.trans (hb.mono hbd.size)); have h_sd := (hb.block (w.heap.size) (by show w.heap.size < w7.heap.size; omega)).trans h_s7; have h_od := (hb.block (w.heap.size + 1) (by show w.heap.size + 1 < w7.heap.size; omega)).trans h_o7; have h_Bd := (hb.block (w4.heap.size) (by show w4.heap.size < w7.heap.size; omega)).trans h_B7; have hSd : wd.cell? ⟨w.heap.size, 0, none⟩ = some (.int .i64 t) ∧ wd.cell? ⟨w.heap.size, 1, none⟩ = some (.bool c) ∧ wd.cell? ⟨w.heap.size, 2, none⟩ = some (.int .i64 x) ∧ wd.cell? ⟨w.heap.size, 3, none⟩ = some (.int .i64 v) ∧ wd.cell? ⟨w.heap.size + 1, 0, none⟩ = some (.int .i64 i) ∧ wd.cell? ⟨w.heap.size + 1, 1, none⟩ = some (.int .i64 j) ∧ wd.cell? ⟨w.heap.size + 1, 2, none⟩ = some (.int .i64 ex) ∧ wd.cell? ⟨w.heap.size + 1, 3, none⟩ = some (.int .i64 k) ∧ wd.cell? ⟨w.heap.size + 1, 4, none⟩ = some (.int .i64 a) ∧ wd.cell? ⟨w4.heap.size, 0, none⟩ = some (.int .i64 cd) ∧ wd.cell? ⟨w4.heap.size, 1, none⟩ = some (.int .i64 ve) ∧ wd.cell? ⟨w4.heap.size, 2, none⟩ = some (.slice (some ⟨f, 0, none⟩) 1 1) := ⟨(by rw [Lib.cell_of_heap h_sd]; rfl), (by rw [Lib.cell_of_heap h_sd]; rfl), (by rw [Lib.cell_of_heap h_sd]; rfl), (by rw [Lib.cell_of_heap h_sd]; rfl), (by rw [Lib.cell_of_heap h_od]; rfl), (by rw [Lib.cell_of_heap h_od]; rfl), (by rw [Lib.cell_of_heap h_od]; rfl), (by rw [Lib.cell_of_heap h_od]; rfl), (by rw [Lib.cell_of_heap h_od]; rfl), (by rw [Lib.cell_of_heap h_Bd]; rfl), (by rw [Lib.cell_of_heap h_Bd]; rfl), (by rw [Lib.cell_of_heap h_Bd]; rfl)⟩; obtain ⟨u, rfl, -, -, h_u⟩ := hE.one; simp only at h_u; have h_fd := (hb.block f (by show f < w7.heap.size; omega)).trans h_f7) | (go_at_call 11; (refine (HS.out _ _ _ h_u h_fd).mono ?_); rintro e we ⟨rfl, hb⟩; have hbE : Below w.heap.size w we := (hbD.trans (hb.mono hbD.size)); have hse : w7.heap.size ≤ we.heap.size := Nat.le_trans hsd hb.size; have h_se := (hb.block (w.heap.size) (Nat.lt_of_lt_of_le (by show w.heap.size < w7.heap.size; omega) hsd)).trans h_sd; have h_oe := (hb.block (w.heap.size + 1) (Nat.lt_of_lt_of_le (by show w.heap.size + 1 < w7.heap.size; omega) hsd)).trans h_od; have h_Be := (hb.block (w4.heap.size) (Nat.lt_of_lt_of_le (by show w4.heap.size < w7.heap.size; omega) hsd)).trans h_Bd; have hSe : we.cell? ⟨w.heap.size, 0, none⟩ = some (.int .i64 t) ∧ we.cell? ⟨w.heap.size, 1, none⟩ = some (.bool c) ∧ we.cell? ⟨w.heap.size, 2, none⟩ = some (.int .i64 x) ∧ we.cell? ⟨w.heap.size, 3, none⟩ = some (.int .i64 v) ∧ we.cell? ⟨w.heap.size + 1, 0, none⟩ = some (.int .i64 i) ∧ we.cell? ⟨w.heap.size + 1, 1, none⟩ = some (.int .i64 j) ∧ we.cell? ⟨w.heap.size + 1, 2, none⟩ = some (.int .i64 ex) ∧ we.cell? ⟨w.heap.size + 1, 3, none⟩ = some (.int .i64 k) ∧ we.cell? ⟨w.heap.size + 1, 4, none⟩ = some (.int .i64 a) ∧ we.cell? ⟨w4.heap.size, 0, none⟩ = some (.int .i64 cd) ∧ we.cell? ⟨w4.heap.size, 1, none⟩ = some (.int .i64 ve) ∧ we.cell? ⟨w4.heap.size, 2, none⟩ = some (.slice (some ⟨f, 0, none⟩) 1 1) := ⟨(by rw [Lib.cell_of_heap h_se]; rfl), (by rw [Lib.cell_of_heap h_se]; rfl), (by rw [Lib.cell_of_heap h_se]; rfl), (by rw [Lib.cell_of_heap h_se]; rfl), (by rw [Lib.cell_of_heap h_oe]; rfl), (by rw [Lib.cell_of_heap h_oe]; rfl), (by rw [Lib.cell_of_heap h_oe]; rfl), (by rw [Lib.cell_of_heap h_oe]; rfl), (by rw [Lib.cell_of_heap h_oe]; rfl), (by rw [Lib.cell_of_heap h_Be]; rfl), (by rw [Lib.cell_of_heap h_Be]; rfl), (by rw [Lib.cell_of_heap h_Be]; rfl)⟩) | (go_at_call 12; (refine (HW.out _ hbE).mono ?_); rintro e wf ⟨rfl, hb⟩; have hbF : Below w.heap.size w wf := (hbE.trans (hb.mono hbE.size)); have h_sf := (hb.block (w.heap.size) (Nat.lt_of_lt_of_le (by show w.heap.size < w7.heap.size; omega) hse)).trans h_se; have h_of := (hb.block (w.heap.size + 1) (Nat.lt_of_lt_of_le (by show w.heap.size + 1 < w7.heap.size; omega) hse)).trans h_oe; have h_Bf := (hb.block (w4.heap.size) (Nat.lt_of_lt_of_le (by show w4.heap.size < w7.heap.size; omega) hse)).trans h_Be; have hSf : wf.cell? ⟨w.heap.size, 0, none⟩ = some (.int .i64 t) ∧ wf.cell? ⟨w.heap.size, 1, none⟩ = some (.bool c) ∧ wf.cell? ⟨w.heap.size, 2, none⟩ = some (.int .i64 x) ∧ wf.cell? ⟨w.heap.size, 3, none⟩ = some (.int .i64 v) ∧ wf.cell? ⟨w.heap.size + 1, 0, none⟩ = some (.int .i64 i) ∧ wf.cell? ⟨w.heap.size + 1, 1, none⟩ = some (.int .i64 j) ∧ wf.cell? ⟨w.heap.size + 1, 2, none⟩ = some (.int .i64 ex) ∧ wf.cell? ⟨w.heap.size + 1, 3, none⟩ = some (.int .i64 k) ∧ wf.cell? ⟨w.heap.size + 1, 4, none⟩ = some (.int .i64 a) ∧ wf.cell? ⟨w4.heap.size, 0, none⟩ = some (.int .i64 cd) ∧ wf.cell? ⟨w4.heap.size, 1, none⟩ = some (.int .i64 ve) ∧ wf.cell? ⟨w4.heap.size, 2, none⟩ = some (.slice (some ⟨f, 0, none⟩) 1 1) := ⟨(by rw [Lib.cell_of_heap h_sf]; rfl), (by rw [Lib.cell_of_heap h_sf]; rfl), (by rw [Lib.cell_of_heap h_sf]; rfl), (by rw [Lib.cell_of_heap h_sf]; rfl), (by rw [Lib.cell_of_heap h_of]; rfl), (by rw [Lib.cell_of_heap h_of]; rfl), (by rw [Lib.cell_of_heap h_of]; rfl), (by rw [Lib.cell_of_heap h_of]; rfl), (by rw [Lib.cell_of_heap h_of]; rfl), (by rw [Lib.cell_of_heap h_Bf]; rfl), (by rw [Lib.cell_of_heap h_Bf]; rfl), (by rw [Lib.cell_of_heap h_Bf]; rfl)⟩)))
  all_goals
    go_wp2_with fail
    go_ret
    exact ⟨rfl, hbF⟩
theorem evs_cases (s : St) (q : Od) : (∃ cd ve, decide_ s q = ⟨cd, ve, []⟩) ∨ ∃ cd ve k a, decide_ s q = ⟨cd, ve, [⟨k, a⟩]⟩ := by
  unfold decide_
  split
  · exact .inl ⟨_, _, rfl⟩
  split
  · exact .inl ⟨_, _, rfl⟩
  split
  · exact .inl ⟨_, _, rfl⟩
  split
  · exact .inl ⟨_, _, rfl⟩
  · exact .inr ⟨_, _, _, _, rfl⟩
theorem walk (s : St) (q : Od) (w : World) (hA : Asked w) (_ : s.ints) (_ : q.ints) : Calls Tryd.prog 3 #[s.v, q.v] w (fun e w' => e = .returned (.bool true) ∧ Below w.heap.size w w') := by
  have h1 := fun X (hb : Below w.heap.size w X) => decide_any s q X (hA.keep hb)
  have h2 := fun X => rdecide_any s q X
  have HAK := Lib.hid (fun X (hb : Below w.heap.size w X) => hA.keep hb)
  rcases evs_cases s q with ⟨cd, ve, h⟩ | ⟨cd, ve, k1, a1, h⟩
  · rw [h] at h1 h2
    exact walk_nil s.tag s.cl s.sum s.ver q.id q.st q.ex q.ki q.ar cd ve w HAK (Lib.hid h1) (Lib.hid h2)
  · rw [h] at h1 h2
    exact walk_one s.tag s.cl s.sum s.ver q.id q.st q.ex q.ki q.ar cd ve k1 a1 w HAK (Lib.hid h1) (Lib.hid h2)
end Go.Proofs.YtpboleiifmepeaaDoor.deedsDecideW
