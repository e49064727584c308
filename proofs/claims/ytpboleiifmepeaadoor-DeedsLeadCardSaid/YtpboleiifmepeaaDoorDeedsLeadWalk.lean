/-
  The walk of the law DeedsLead: it returns true and writes nothing that was there.
-/
import Derived.Test.YtpboleiifmepeaaDoorAeTail
namespace Go.Proofs.YtpboleiifmepeaaDoor.deedsLeadW
open Go.RowKit Go.Sort
set_option maxRecDepth 100000 in
set_option maxHeartbeats 8000000 in
theorem bad (t : Int) (c : Bool) (x v i j ex k a : Int) (w : World) (HAK : Hid (∀ X : World, Below w.heap.size w X → Asked X))
    (H1 : Hid (∀ X : World, Below w.heap.size w X → Calls Tryd.prog 9 #[.agg #[.int .i64 t, .bool c, .int .i64 x, .int .i64 v], .agg #[.int .i64 i, .int .i64 j, .int .i64 ex, .int .i64 k, .int .i64 a]] X (DecPost ⟨7, 0, []⟩ X)))
    (HM : Hid (∀ X : World, Calls Tryd.prog 15 #[.agg #[.int .i64 t, .bool c, .int .i64 x, .int .i64 v]] X (NumPost (.bool false) X))) :
    Calls Tryd.prog 5 #[.agg #[.int .i64 t, .bool c, .int .i64 x, .int .i64 v], .agg #[.int .i64 i, .int .i64 j, .int .i64 ex, .int .i64 k, .int .i64 a]] w (fun e w' => e = .returned (.bool true) ∧ Below w.heap.size w w') := by
  have HW := Lib.hid (fun X (hX : Below w.heap.size w X) => aeWorks_any X (HAK.out X hX))
  clear HAK
  have HS := Lib.hid (fun X => same_nil 7 0 X)
  obtain ⟨w1, HX1⟩ : ∃ W : World, Hid (W = ((w.alloc (.cells #[.int .i64 t, .bool c, .int .i64 x, .int .i64 v] 23)).alloc (.cells #[.int .i64 i, .int .i64 j, .int .i64 ex, .int .i64 k, .int .i64 a] 25))) := ⟨_, Lib.hid rfl⟩
  obtain ⟨hz1, hb1, h_s1, h_o1⟩ := two_blocks HX1.out
  replace hz1 : w.heap.size + 2 ≤ w1.heap.size := by omega
  have c_s0 : w1.cell? ⟨w.heap.size, 0, none⟩ = some (.int .i64 t) := by rw [Lib.cell_of_heap h_s1]; rfl
  have c_s1 : w1.cell? ⟨w.heap.size, 1, none⟩ = some (.bool c) := by rw [Lib.cell_of_heap h_s1]; rfl
  have c_s2 : w1.cell? ⟨w.heap.size, 2, none⟩ = some (.int .i64 x) := by rw [Lib.cell_of_heap h_s1]; rfl
  have c_s3 : w1.cell? ⟨w.heap.size, 3, none⟩ = some (.int .i64 v) := by rw [Lib.cell_of_heap h_s1]; rfl
  have c_o0 : w1.cell? ⟨w.heap.size + 1, 0, none⟩ = some (.int .i64 i) := by rw [Lib.cell_of_heap h_o1]; rfl
  have c_o1 : w1.cell? ⟨w.heap.size + 1, 1, none⟩ = some (.int .i64 j) := by rw [Lib.cell_of_heap h_o1]; rfl
  have c_o2 : w1.cell? ⟨w.heap.size + 1, 2, none⟩ = some (.int .i64 ex) := by rw [Lib.cell_of_heap h_o1]; rfl
  have c_o3 : w1.cell? ⟨w.heap.size + 1, 3, none⟩ = some (.int .i64 k) := by rw [Lib.cell_of_heap h_o1]; rfl
  have c_o4 : w1.cell? ⟨w.heap.size + 1, 4, none⟩ = some (.int .i64 a) := by rw [Lib.cell_of_heap h_o1]; rfl
  go_enter Tryd.func5, Tryd.ntmps5
  go_wp2_with (rw [← HX1.out])
  refine (H1.out _ hb1).mono ?_
  rintro e w2 ⟨V, rfl, hE, hb⟩
  clear c_s0 c_s1 c_s2 c_s3 c_o0 c_o1 c_o2 c_o3 c_o4
  have h_s2 := (hb.block (w.heap.size) (by omega)).trans h_s1
  have h_o2 := (hb.block (w.heap.size + 1) (by omega)).trans h_o1
  have hb2 : Below w.heap.size w w2 := hb1.trans (hb.mono (by omega))
  have hz2 : w1.heap.size ≤ w2.heap.size := hb.size
  clear hb
  obtain rfl := hE.nil
  clear hE
  obtain ⟨w3, HX3⟩ : ∃ W : World, Hid (W = w2.alloc (.cells #[.int .i64 7, .int .i64 0, .slice none 0 0] 28)) := ⟨_, Lib.hid rfl⟩
  have hb : Below w2.heap.size w2 w3 := by rw [HX3.out]; exact (Below.refl _ _).alloc (Nat.le_refl _) _
  have h_A3 : w3.heap[w2.heap.size]? = some (.cells #[.int .i64 7, .int .i64 0, .slice none 0 0] 28 (0, 0)) := by rw [HX3.out]; exact heap_alloc_new _ _
  have hy3 : w2.heap.size < w3.heap.size := by rw [HX3.out]; simp
  have h_s3 := (hb.block (w.heap.size) (by omega)).trans h_s2
  have h_o3 := (hb.block (w.heap.size + 1) (by omega)).trans h_o2
  have hb3 : Below w.heap.size w w3 := hb2.trans (hb.mono (by omega))
  have hz3 : w2.heap.size ≤ w3.heap.size := hb.size
  clear hb
  have c_s0 : w3.cell? ⟨w.heap.size, 0, none⟩ = some (.int .i64 t) := by rw [Lib.cell_of_heap h_s3]; rfl
  have c_s1 : w3.cell? ⟨w.heap.size, 1, none⟩ = some (.bool c) := by rw [Lib.cell_of_heap h_s3]; rfl
  have c_s2 : w3.cell? ⟨w.heap.size, 2, none⟩ = some (.int .i64 x) := by rw [Lib.cell_of_heap h_s3]; rfl
  have c_s3 : w3.cell? ⟨w.heap.size, 3, none⟩ = some (.int .i64 v) := by rw [Lib.cell_of_heap h_s3]; rfl
  go_wp2_with (rw [← HX3.out])
  refine (HM.out _).mono ?_
  rintro e w4 ⟨rfl, hb⟩
  clear c_s0 c_s1 c_s2 c_s3
  have h_s4 := (hb.block (w.heap.size) (by omega)).trans h_s3
  have h_o4 := (hb.block (w.heap.size + 1) (by omega)).trans h_o3
  have h_A4 := (hb.block (w2.heap.size) (by omega)).trans h_A3
  have hb4 : Below w.heap.size w w4 := hb3.trans (hb.mono (by omega))
  have hz4 : w3.heap.size ≤ w4.heap.size := hb.size
  clear hb
  have c_A0 : w4.cell? ⟨w2.heap.size, 0, none⟩ = some (.int .i64 7) := by rw [Lib.cell_of_heap h_A4]; rfl
  have c_A1 : w4.cell? ⟨w2.heap.size, 1, none⟩ = some (.int .i64 0) := by rw [Lib.cell_of_heap h_A4]; rfl
  have c_A2 : w4.cell? ⟨w2.heap.size, 2, none⟩ = some (.slice none 0 0) := by rw [Lib.cell_of_heap h_A4]; rfl
  go_wp2_with fail
  refine (HS.out _).mono ?_
  rintro e w5 ⟨rfl, hb⟩
  clear c_A0 c_A1 c_A2
  have h_s5 := (hb.block (w.heap.size) (by omega)).trans h_s4
  have h_o5 := (hb.block (w.heap.size + 1) (by omega)).trans h_o4
  have h_A5 := (hb.block (w2.heap.size) (by omega)).trans h_A4
  have hb5 : Below w.heap.size w w5 := hb4.trans (hb.mono (by omega))
  have hz5 : w4.heap.size ≤ w5.heap.size := hb.size
  clear hb
  go_wp2_with fail
  refine (HW.out _ hb5).mono ?_
  rintro e w6 ⟨rfl, hb⟩
  have h_s6 := (hb.block (w.heap.size) (by omega)).trans h_s5
  have h_o6 := (hb.block (w.heap.size + 1) (by omega)).trans h_o5
  have h_A6 := (hb.block (w2.heap.size) (by omega)).trans h_A5
  have hb6 : Below w.heap.size w w6 := hb5.trans (hb.mono (by omega))
  have hz6 : w5.heap.size ≤ w6.heap.size := hb.size
  clear hb
  go_wp2_with fail
  all_goals
    go_ret
    exact ⟨rfl, hb6⟩
set_option maxRecDepth 100000 in
set_option maxHeartbeats 8000000 in
theorem not2 (t : Int) (c : Bool) (x v i j ex k a : Int) (w : World) (HAK : Hid (∀ X : World, Below w.heap.size w X → Asked X))
    (H1 : Hid (∀ X : World, Below w.heap.size w X → Calls Tryd.prog 9 #[.agg #[.int .i64 t, .bool c, .int .i64 x, .int .i64 v], .agg #[.int .i64 i, .int .i64 j, .int .i64 ex, .int .i64 k, .int .i64 a]] X (DecPost ⟨2, v, []⟩ X)))
    (HM : Hid (∀ X : World, Calls Tryd.prog 15 #[.agg #[.int .i64 t, .bool c, .int .i64 x, .int .i64 v]] X (NumPost (.bool true) X))) :
    Calls Tryd.prog 5 #[.agg #[.int .i64 t, .bool c, .int .i64 x, .int .i64 v], .agg #[.int .i64 i, .int .i64 j, .int .i64 ex, .int .i64 k, .int .i64 a]] w (fun e w' => e = .returned (.bool true) ∧ Below w.heap.size w w') := by
  have HW := Lib.hid (fun X (hX : Below w.heap.size w X) => aeWorks_any X (HAK.out X hX))
  clear HAK
  obtain ⟨w1, HX1⟩ : ∃ W : World, Hid (W = ((w.alloc (.cells #[.int .i64 t, .bool c, .int .i64 x, .int .i64 v] 23)).alloc (.cells #[.int .i64 i, .int .i64 j, .int .i64 ex, .int .i64 k, .int .i64 a] 25))) := ⟨_, Lib.hid rfl⟩
  obtain ⟨hz1, hb1, h_s1, h_o1⟩ := two_blocks HX1.out
  replace hz1 : w.heap.size + 2 ≤ w1.heap.size := by omega
  have c_s0 : w1.cell? ⟨w.heap.size, 0, none⟩ = some (.int .i64 t) := by rw [Lib.cell_of_heap h_s1]; rfl
  have c_s1 : w1.cell? ⟨w.heap.size, 1, none⟩ = some (.bool c) := by rw [Lib.cell_of_heap h_s1]; rfl
  have c_s2 : w1.cell? ⟨w.heap.size, 2, none⟩ = some (.int .i64 x) := by rw [Lib.cell_of_heap h_s1]; rfl
  have c_s3 : w1.cell? ⟨w.heap.size, 3, none⟩ = some (.int .i64 v) := by rw [Lib.cell_of_heap h_s1]; rfl
  have c_o0 : w1.cell? ⟨w.heap.size + 1, 0, none⟩ = some (.int .i64 i) := by rw [Lib.cell_of_heap h_o1]; rfl
  have c_o1 : w1.cell? ⟨w.heap.size + 1, 1, none⟩ = some (.int .i64 j) := by rw [Lib.cell_of_heap h_o1]; rfl
  have c_o2 : w1.cell? ⟨w.heap.size + 1, 2, none⟩ = some (.int .i64 ex) := by rw [Lib.cell_of_heap h_o1]; rfl
  have c_o3 : w1.cell? ⟨w.heap.size + 1, 3, none⟩ = some (.int .i64 k) := by rw [Lib.cell_of_heap h_o1]; rfl
  have c_o4 : w1.cell? ⟨w.heap.size + 1, 4, none⟩ = some (.int .i64 a) := by rw [Lib.cell_of_heap h_o1]; rfl
  go_enter Tryd.func5, Tryd.ntmps5
  go_wp2_with (rw [← HX1.out])
  refine (H1.out _ hb1).mono ?_
  rintro e w2 ⟨V, rfl, hE, hb⟩
  clear c_s0 c_s1 c_s2 c_s3 c_o0 c_o1 c_o2 c_o3 c_o4
  have h_s2 := (hb.block (w.heap.size) (by omega)).trans h_s1
  have h_o2 := (hb.block (w.heap.size + 1) (by omega)).trans h_o1
  have hb2 : Below w.heap.size w w2 := hb1.trans (hb.mono (by omega))
  have hz2 : w1.heap.size ≤ w2.heap.size := hb.size
  clear hb
  obtain rfl := hE.nil
  clear hE
  obtain ⟨w3, HX3⟩ : ∃ W : World, Hid (W = w2.alloc (.cells #[.int .i64 2, .int .i64 v, .slice none 0 0] 28)) := ⟨_, Lib.hid rfl⟩
  have hb : Below w2.heap.size w2 w3 := by rw [HX3.out]; exact (Below.refl _ _).alloc (Nat.le_refl _) _
  have h_A3 : w3.heap[w2.heap.size]? = some (.cells #[.int .i64 2, .int .i64 v, .slice none 0 0] 28 (0, 0)) := by rw [HX3.out]; exact heap_alloc_new _ _
  have hy3 : w2.heap.size < w3.heap.size := by rw [HX3.out]; simp
  have h_s3 := (hb.block (w.heap.size) (by omega)).trans h_s2
  have h_o3 := (hb.block (w.heap.size + 1) (by omega)).trans h_o2
  have hb3 : Below w.heap.size w w3 := hb2.trans (hb.mono (by omega))
  have hz3 : w2.heap.size ≤ w3.heap.size := hb.size
  clear hb
  have c_s0 : w3.cell? ⟨w.heap.size, 0, none⟩ = some (.int .i64 t) := by rw [Lib.cell_of_heap h_s3]; rfl
  have c_s1 : w3.cell? ⟨w.heap.size, 1, none⟩ = some (.bool c) := by rw [Lib.cell_of_heap h_s3]; rfl
  have c_s2 : w3.cell? ⟨w.heap.size, 2, none⟩ = some (.int .i64 x) := by rw [Lib.cell_of_heap h_s3]; rfl
  have c_s3 : w3.cell? ⟨w.heap.size, 3, none⟩ = some (.int .i64 v) := by rw [Lib.cell_of_heap h_s3]; rfl
  go_wp2_with (rw [← HX3.out])
  refine (HM.out _).mono ?_
  rintro e w4 ⟨rfl, hb⟩
  clear c_s0 c_s1 c_s2 c_s3
  have h_s4 := (hb.block (w.heap.size) (by omega)).trans h_s3
  have h_o4 := (hb.block (w.heap.size + 1) (by omega)).trans h_o3
  have h_A4 := (hb.block (w2.heap.size) (by omega)).trans h_A3
  have hb4 : Below w.heap.size w w4 := hb3.trans (hb.mono (by omega))
  have hz4 : w3.heap.size ≤ w4.heap.size := hb.size
  clear hb
  have c_A0 : w4.cell? ⟨w2.heap.size, 0, none⟩ = some (.int .i64 2) := by rw [Lib.cell_of_heap h_A4]; rfl
  have c_A1 : w4.cell? ⟨w2.heap.size, 1, none⟩ = some (.int .i64 v) := by rw [Lib.cell_of_heap h_A4]; rfl
  have c_A2 : w4.cell? ⟨w2.heap.size, 2, none⟩ = some (.slice none 0 0) := by rw [Lib.cell_of_heap h_A4]; rfl
  have c_s3 : w4.cell? ⟨w.heap.size, 3, none⟩ = some (.int .i64 v) := by rw [Lib.cell_of_heap h_s4]; rfl
  go_wp2_with fail
  refine (HW.out _ hb4).mono ?_
  rintro e w5 ⟨rfl, hb⟩
  clear c_A0 c_A1 c_A2 c_s3
  have h_s5 := (hb.block (w.heap.size) (by omega)).trans h_s4
  have h_o5 := (hb.block (w.heap.size + 1) (by omega)).trans h_o4
  have h_A5 := (hb.block (w2.heap.size) (by omega)).trans h_A4
  have hb5 : Below w.heap.size w w5 := hb4.trans (hb.mono (by omega))
  have hz5 : w4.heap.size ≤ w5.heap.size := hb.size
  clear hb
  go_wp2_with fail
  all_goals
    go_ret
    exact ⟨rfl, hb5⟩
set_option maxRecDepth 100000 in
set_option maxHeartbeats 8000000 in
theorem not3 (t : Int) (c : Bool) (x v i j ex k a : Int) (w : World) (HAK : Hid (∀ X : World, Below w.heap.size w X → Asked X))
    (H1 : Hid (∀ X : World, Below w.heap.size w X → Calls Tryd.prog 9 #[.agg #[.int .i64 t, .bool c, .int .i64 x, .int .i64 v], .agg #[.int .i64 i, .int .i64 j, .int .i64 ex, .int .i64 k, .int .i64 a]] X (DecPost ⟨3, v, []⟩ X)))
    (HM : Hid (∀ X : World, Calls Tryd.prog 15 #[.agg #[.int .i64 t, .bool c, .int .i64 x, .int .i64 v]] X (NumPost (.bool true) X))) :
    Calls Tryd.prog 5 #[.agg #[.int .i64 t, .bool c, .int .i64 x, .int .i64 v], .agg #[.int .i64 i, .int .i64 j, .int .i64 ex, .int .i64 k, .int .i64 a]] w (fun e w' => e = .returned (.bool true) ∧ Below w.heap.size w w') := by
  have HW := Lib.hid (fun X (hX : Below w.heap.size w X) => aeWorks_any X (HAK.out X hX))
  clear HAK
  obtain ⟨w1, HX1⟩ : ∃ W : World, Hid (W = ((w.alloc (.cells #[.int .i64 t, .bool c, .int .i64 x, .int .i64 v] 23)).alloc (.cells #[.int .i64 i, .int .i64 j, .int .i64 ex, .int .i64 k, .int .i64 a] 25))) := ⟨_, Lib.hid rfl⟩
  obtain ⟨hz1, hb1, h_s1, h_o1⟩ := two_blocks HX1.out
  replace hz1 : w.heap.size + 2 ≤ w1.heap.size := by omega
  have c_s0 : w1.cell? ⟨w.heap.size, 0, none⟩ = some (.int .i64 t) := by rw [Lib.cell_of_heap h_s1]; rfl
  have c_s1 : w1.cell? ⟨w.heap.size, 1, none⟩ = some (.bool c) := by rw [Lib.cell_of_heap h_s1]; rfl
  have c_s2 : w1.cell? ⟨w.heap.size, 2, none⟩ = some (.int .i64 x) := by rw [Lib.cell_of_heap h_s1]; rfl
  have c_s3 : w1.cell? ⟨w.heap.size, 3, none⟩ = some (.int .i64 v) := by rw [Lib.cell_of_heap h_s1]; rfl
  have c_o0 : w1.cell? ⟨w.heap.size + 1, 0, none⟩ = some (.int .i64 i) := by rw [Lib.cell_of_heap h_o1]; rfl
  have c_o1 : w1.cell? ⟨w.heap.size + 1, 1, none⟩ = some (.int .i64 j) := by rw [Lib.cell_of_heap h_o1]; rfl
  have c_o2 : w1.cell? ⟨w.heap.size + 1, 2, none⟩ = some (.int .i64 ex) := by rw [Lib.cell_of_heap h_o1]; rfl
  have c_o3 : w1.cell? ⟨w.heap.size + 1, 3, none⟩ = some (.int .i64 k) := by rw [Lib.cell_of_heap h_o1]; rfl
  have c_o4 : w1.cell? ⟨w.heap.size + 1, 4, none⟩ = some (.int .i64 a) := by rw [Lib.cell_of_heap h_o1]; rfl
  go_enter Tryd.func5, Tryd.ntmps5
  go_wp2_with (rw [← HX1.out])
  refine (H1.out _ hb1).mono ?_
  rintro e w2 ⟨V, rfl, hE, hb⟩
  clear c_s0 c_s1 c_s2 c_s3 c_o0 c_o1 c_o2 c_o3 c_o4
  have h_s2 := (hb.block (w.heap.size) (by omega)).trans h_s1
  have h_o2 := (hb.block (w.heap.size + 1) (by omega)).trans h_o1
  have hb2 : Below w.heap.size w w2 := hb1.trans (hb.mono (by omega))
  have hz2 : w1.heap.size ≤ w2.heap.size := hb.size
  clear hb
  obtain rfl := hE.nil
  clear hE
  obtain ⟨w3, HX3⟩ : ∃ W : World, Hid (W = w2.alloc (.cells #[.int .i64 3, .int .i64 v, .slice none 0 0] 28)) := ⟨_, Lib.hid rfl⟩
  have hb : Below w2.heap.size w2 w3 := by rw [HX3.out]; exact (Below.refl _ _).alloc (Nat.le_refl _) _
  have h_A3 : w3.heap[w2.heap.size]? = some (.cells #[.int .i64 3, .int .i64 v, .slice none 0 0] 28 (0, 0)) := by rw [HX3.out]; exact heap_alloc_new _ _
  have hy3 : w2.heap.size < w3.heap.size := by rw [HX3.out]; simp
  have h_s3 := (hb.block (w.heap.size) (by omega)).trans h_s2
  have h_o3 := (hb.block (w.heap.size + 1) (by omega)).trans h_o2
  have hb3 : Below w.heap.size w w3 := hb2.trans (hb.mono (by omega))
  have hz3 : w2.heap.size ≤ w3.heap.size := hb.size
  clear hb
  have c_s0 : w3.cell? ⟨w.heap.size, 0, none⟩ = some (.int .i64 t) := by rw [Lib.cell_of_heap h_s3]; rfl
  have c_s1 : w3.cell? ⟨w.heap.size, 1, none⟩ = some (.bool c) := by rw [Lib.cell_of_heap h_s3]; rfl
  have c_s2 : w3.cell? ⟨w.heap.size, 2, none⟩ = some (.int .i64 x) := by rw [Lib.cell_of_heap h_s3]; rfl
  have c_s3 : w3.cell? ⟨w.heap.size, 3, none⟩ = some (.int .i64 v) := by rw [Lib.cell_of_heap h_s3]; rfl
  go_wp2_with (rw [← HX3.out])
  refine (HM.out _).mono ?_
  rintro e w4 ⟨rfl, hb⟩
  clear c_s0 c_s1 c_s2 c_s3
  have h_s4 := (hb.block (w.heap.size) (by omega)).trans h_s3
  have h_o4 := (hb.block (w.heap.size + 1) (by omega)).trans h_o3
  have h_A4 := (hb.block (w2.heap.size) (by omega)).trans h_A3
  have hb4 : Below w.heap.size w w4 := hb3.trans (hb.mono (by omega))
  have hz4 : w3.heap.size ≤ w4.heap.size := hb.size
  clear hb
  have c_A0 : w4.cell? ⟨w2.heap.size, 0, none⟩ = some (.int .i64 3) := by rw [Lib.cell_of_heap h_A4]; rfl
  have c_A1 : w4.cell? ⟨w2.heap.size, 1, none⟩ = some (.int .i64 v) := by rw [Lib.cell_of_heap h_A4]; rfl
  have c_A2 : w4.cell? ⟨w2.heap.size, 2, none⟩ = some (.slice none 0 0) := by rw [Lib.cell_of_heap h_A4]; rfl
  have c_s3 : w4.cell? ⟨w.heap.size, 3, none⟩ = some (.int .i64 v) := by rw [Lib.cell_of_heap h_s4]; rfl
  go_wp2_with fail
  refine (HW.out _ hb4).mono ?_
  rintro e w5 ⟨rfl, hb⟩
  clear c_A0 c_A1 c_A2 c_s3
  have h_s5 := (hb.block (w.heap.size) (by omega)).trans h_s4
  have h_o5 := (hb.block (w.heap.size + 1) (by omega)).trans h_o4
  have h_A5 := (hb.block (w2.heap.size) (by omega)).trans h_A4
  have hb5 : Below w.heap.size w w5 := hb4.trans (hb.mono (by omega))
  have hz5 : w4.heap.size ≤ w5.heap.size := hb.size
  clear hb
  go_wp2_with fail
  all_goals
    go_ret
    exact ⟨rfl, hb5⟩
set_option maxRecDepth 100000 in
set_option maxHeartbeats 8000000 in
theorem not7 (t : Int) (c : Bool) (x v i j ex k a : Int) (w : World) (HAK : Hid (∀ X : World, Below w.heap.size w X → Asked X))
    (H1 : Hid (∀ X : World, Below w.heap.size w X → Calls Tryd.prog 9 #[.agg #[.int .i64 t, .bool c, .int .i64 x, .int .i64 v], .agg #[.int .i64 i, .int .i64 j, .int .i64 ex, .int .i64 k, .int .i64 a]] X (DecPost ⟨7, v, []⟩ X)))
    (HM : Hid (∀ X : World, Calls Tryd.prog 15 #[.agg #[.int .i64 t, .bool c, .int .i64 x, .int .i64 v]] X (NumPost (.bool true) X))) :
    Calls Tryd.prog 5 #[.agg #[.int .i64 t, .bool c, .int .i64 x, .int .i64 v], .agg #[.int .i64 i, .int .i64 j, .int .i64 ex, .int .i64 k, .int .i64 a]] w (fun e w' => e = .returned (.bool true) ∧ Below w.heap.size w w') := by
  have HW := Lib.hid (fun X (hX : Below w.heap.size w X) => aeWorks_any X (HAK.out X hX))
  clear HAK
  obtain ⟨w1, HX1⟩ : ∃ W : World, Hid (W = ((w.alloc (.cells #[.int .i64 t, .bool c, .int .i64 x, .int .i64 v] 23)).alloc (.cells #[.int .i64 i, .int .i64 j, .int .i64 ex, .int .i64 k, .int .i64 a] 25))) := ⟨_, Lib.hid rfl⟩
  obtain ⟨hz1, hb1, h_s1, h_o1⟩ := two_blocks HX1.out
  replace hz1 : w.heap.size + 2 ≤ w1.heap.size := by omega
  have c_s0 : w1.cell? ⟨w.heap.size, 0, none⟩ = some (.int .i64 t) := by rw [Lib.cell_of_heap h_s1]; rfl
  have c_s1 : w1.cell? ⟨w.heap.size, 1, none⟩ = some (.bool c) := by rw [Lib.cell_of_heap h_s1]; rfl
  have c_s2 : w1.cell? ⟨w.heap.size, 2, none⟩ = some (.int .i64 x) := by rw [Lib.cell_of_heap h_s1]; rfl
  have c_s3 : w1.cell? ⟨w.heap.size, 3, none⟩ = some (.int .i64 v) := by rw [Lib.cell_of_heap h_s1]; rfl
  have c_o0 : w1.cell? ⟨w.heap.size + 1, 0, none⟩ = some (.int .i64 i) := by rw [Lib.cell_of_heap h_o1]; rfl
  have c_o1 : w1.cell? ⟨w.heap.size + 1, 1, none⟩ = some (.int .i64 j) := by rw [Lib.cell_of_heap h_o1]; rfl
  have c_o2 : w1.cell? ⟨w.heap.size + 1, 2, none⟩ = some (.int .i64 ex) := by rw [Lib.cell_of_heap h_o1]; rfl
  have c_o3 : w1.cell? ⟨w.heap.size + 1, 3, none⟩ = some (.int .i64 k) := by rw [Lib.cell_of_heap h_o1]; rfl
  have c_o4 : w1.cell? ⟨w.heap.size + 1, 4, none⟩ = some (.int .i64 a) := by rw [Lib.cell_of_heap h_o1]; rfl
  go_enter Tryd.func5, Tryd.ntmps5
  go_wp2_with (rw [← HX1.out])
  refine (H1.out _ hb1).mono ?_
  rintro e w2 ⟨V, rfl, hE, hb⟩
  clear c_s0 c_s1 c_s2 c_s3 c_o0 c_o1 c_o2 c_o3 c_o4
  have h_s2 := (hb.block (w.heap.size) (by omega)).trans h_s1
  have h_o2 := (hb.block (w.heap.size + 1) (by omega)).trans h_o1
  have hb2 : Below w.heap.size w w2 := hb1.trans (hb.mono (by omega))
  have hz2 : w1.heap.size ≤ w2.heap.size := hb.size
  clear hb
  obtain rfl := hE.nil
  clear hE
  obtain ⟨w3, HX3⟩ : ∃ W : World, Hid (W = w2.alloc (.cells #[.int .i64 7, .int .i64 v, .slice none 0 0] 28)) := ⟨_, Lib.hid rfl⟩
  have hb : Below w2.heap.size w2 w3 := by rw [HX3.out]; exact (Below.refl _ _).alloc (Nat.le_refl _) _
  have h_A3 : w3.heap[w2.heap.size]? = some (.cells #[.int .i64 7, .int .i64 v, .slice none 0 0] 28 (0, 0)) := by rw [HX3.out]; exact heap_alloc_new _ _
  have hy3 : w2.heap.size < w3.heap.size := by rw [HX3.out]; simp
  have h_s3 := (hb.block (w.heap.size) (by omega)).trans h_s2
  have h_o3 := (hb.block (w.heap.size + 1) (by omega)).trans h_o2
  have hb3 : Below w.heap.size w w3 := hb2.trans (hb.mono (by omega))
  have hz3 : w2.heap.size ≤ w3.heap.size := hb.size
  clear hb
  have c_s0 : w3.cell? ⟨w.heap.size, 0, none⟩ = some (.int .i64 t) := by rw [Lib.cell_of_heap h_s3]; rfl
  have c_s1 : w3.cell? ⟨w.heap.size, 1, none⟩ = some (.bool c) := by rw [Lib.cell_of_heap h_s3]; rfl
  have c_s2 : w3.cell? ⟨w.heap.size, 2, none⟩ = some (.int .i64 x) := by rw [Lib.cell_of_heap h_s3]; rfl
  have c_s3 : w3.cell? ⟨w.heap.size, 3, none⟩ = some (.int .i64 v) := by rw [Lib.cell_of_heap h_s3]; rfl
  go_wp2_with (rw [← HX3.out])
  refine (HM.out _).mono ?_
  rintro e w4 ⟨rfl, hb⟩
  clear c_s0 c_s1 c_s2 c_s3
  have h_s4 := (hb.block (w.heap.size) (by omega)).trans h_s3
  have h_o4 := (hb.block (w.heap.size + 1) (by omega)).trans h_o3
  have h_A4 := (hb.block (w2.heap.size) (by omega)).trans h_A3
  have hb4 : Below w.heap.size w w4 := hb3.trans (hb.mono (by omega))
  have hz4 : w3.heap.size ≤ w4.heap.size := hb.size
  clear hb
  have c_A0 : w4.cell? ⟨w2.heap.size, 0, none⟩ = some (.int .i64 7) := by rw [Lib.cell_of_heap h_A4]; rfl
  have c_A1 : w4.cell? ⟨w2.heap.size, 1, none⟩ = some (.int .i64 v) := by rw [Lib.cell_of_heap h_A4]; rfl
  have c_A2 : w4.cell? ⟨w2.heap.size, 2, none⟩ = some (.slice none 0 0) := by rw [Lib.cell_of_heap h_A4]; rfl
  have c_s3 : w4.cell? ⟨w.heap.size, 3, none⟩ = some (.int .i64 v) := by rw [Lib.cell_of_heap h_s4]; rfl
  go_wp2_with fail
  refine (HW.out _ hb4).mono ?_
  rintro e w5 ⟨rfl, hb⟩
  clear c_A0 c_A1 c_A2 c_s3
  have h_s5 := (hb.block (w.heap.size) (by omega)).trans h_s4
  have h_o5 := (hb.block (w.heap.size + 1) (by omega)).trans h_o4
  have h_A5 := (hb.block (w2.heap.size) (by omega)).trans h_A4
  have hb5 : Below w.heap.size w w5 := hb4.trans (hb.mono (by omega))
  have hz5 : w4.heap.size ≤ w5.heap.size := hb.size
  clear hb
  go_wp2_with fail
  all_goals
    go_ret
    exact ⟨rfl, hb5⟩
set_option maxRecDepth 100000 in
set_option maxHeartbeats 8000000 in
theorem yes0 (t : Int) (c : Bool) (x v i j ex k a k1 a1 t' x' : Int) (w : World) (HAK : Hid (∀ X : World, Below w.heap.size w X → Asked X))
    (H1 : Hid (∀ X : World, Below w.heap.size w X → Calls Tryd.prog 9 #[.agg #[.int .i64 t, .bool c, .int .i64 x, .int .i64 v], .agg #[.int .i64 i, .int .i64 j, .int .i64 ex, .int .i64 k, .int .i64 a]] X (DecPost ⟨1, (v + 1), [⟨k1, a1⟩]⟩ X)))
    (HM : Hid (∀ X : World, Calls Tryd.prog 15 #[.agg #[.int .i64 t, .bool c, .int .i64 x, .int .i64 v]] X (NumPost (.bool true) X))) (c' : Bool) (HT : Hid (∀ X : World, ∀ g b, EvS X b (.slice (some ⟨g, 0, none⟩) 1 1) [⟨k1, a1⟩] → Calls Tryd.prog 16 #[.agg #[.int .i64 t, .bool c, .int .i64 x, .int .i64 v], .agg #[.int .i64 1, .int .i64 (v + 1), .slice (some ⟨g, 0, none⟩) 1 1]] X (NumPost (.agg #[.int .i64 t', .bool c', .int .i64 x', .int .i64 (v + 1)]) X))) (HM2 : Hid (∀ X : World, Calls Tryd.prog 15 #[.agg #[.int .i64 t', .bool c', .int .i64 x', .int .i64 (v + 1)]] X (NumPost (.bool true) X))) (hv0 : 0 ≤ v) (hv1 : v < 1099511627776) (hx : decide (ex < 0) = true) :
    Calls Tryd.prog 5 #[.agg #[.int .i64 t, .bool c, .int .i64 x, .int .i64 v], .agg #[.int .i64 i, .int .i64 j, .int .i64 ex, .int .i64 k, .int .i64 a]] w (fun e w' => e = .returned (.bool true) ∧ Below w.heap.size w w') := by
  have HW := Lib.hid (fun X (hX : Below w.heap.size w X) => aeWorks_any X (HAK.out X hX))
  clear HAK
  obtain ⟨w1, HX1⟩ : ∃ W : World, Hid (W = ((w.alloc (.cells #[.int .i64 t, .bool c, .int .i64 x, .int .i64 v] 23)).alloc (.cells #[.int .i64 i, .int .i64 j, .int .i64 ex, .int .i64 k, .int .i64 a] 25))) := ⟨_, Lib.hid rfl⟩
  obtain ⟨hz1, hb1, h_s1, h_o1⟩ := two_blocks HX1.out
  replace hz1 : w.heap.size + 2 ≤ w1.heap.size := by omega
  have c_s0 : w1.cell? ⟨w.heap.size, 0, none⟩ = some (.int .i64 t) := by rw [Lib.cell_of_heap h_s1]; rfl
  have c_s1 : w1.cell? ⟨w.heap.size, 1, none⟩ = some (.bool c) := by rw [Lib.cell_of_heap h_s1]; rfl
  have c_s2 : w1.cell? ⟨w.heap.size, 2, none⟩ = some (.int .i64 x) := by rw [Lib.cell_of_heap h_s1]; rfl
  have c_s3 : w1.cell? ⟨w.heap.size, 3, none⟩ = some (.int .i64 v) := by rw [Lib.cell_of_heap h_s1]; rfl
  have c_o0 : w1.cell? ⟨w.heap.size + 1, 0, none⟩ = some (.int .i64 i) := by rw [Lib.cell_of_heap h_o1]; rfl
  have c_o1 : w1.cell? ⟨w.heap.size + 1, 1, none⟩ = some (.int .i64 j) := by rw [Lib.cell_of_heap h_o1]; rfl
  have c_o2 : w1.cell? ⟨w.heap.size + 1, 2, none⟩ = some (.int .i64 ex) := by rw [Lib.cell_of_heap h_o1]; rfl
  have c_o3 : w1.cell? ⟨w.heap.size + 1, 3, none⟩ = some (.int .i64 k) := by rw [Lib.cell_of_heap h_o1]; rfl
  have c_o4 : w1.cell? ⟨w.heap.size + 1, 4, none⟩ = some (.int .i64 a) := by rw [Lib.cell_of_heap h_o1]; rfl
  go_enter Tryd.func5, Tryd.ntmps5
  go_wp2_with (rw [← HX1.out])
  refine (H1.out _ hb1).mono ?_
  rintro e w2 ⟨V, rfl, hE, hb⟩
  clear c_s0 c_s1 c_s2 c_s3 c_o0 c_o1 c_o2 c_o3 c_o4
  have h_s2 := (hb.block (w.heap.size) (by omega)).trans h_s1
  have h_o2 := (hb.block (w.heap.size + 1) (by omega)).trans h_o1
  have hb2 : Below w.heap.size w w2 := hb1.trans (hb.mono (by omega))
  have hz2 : w1.heap.size ≤ w2.heap.size := hb.size
  clear hb
  obtain ⟨g, rfl, hge, hgl, h_g2⟩ := hE.one
  simp only at h_g2
  clear hE
  obtain ⟨w3, HX3⟩ : ∃ W : World, Hid (W = w2.alloc (.cells #[.int .i64 1, .int .i64 (v + 1), .slice (some ⟨g, 0, none⟩) 1 1] 28)) := ⟨_, Lib.hid rfl⟩
  have hb : Below w2.heap.size w2 w3 := by rw [HX3.out]; exact (Below.refl _ _).alloc (Nat.le_refl _) _
  have h_A3 : w3.heap[w2.heap.size]? = some (.cells #[.int .i64 1, .int .i64 (v + 1), .slice (some ⟨g, 0, none⟩) 1 1] 28 (0, 0)) := by rw [HX3.out]; exact heap_alloc_new _ _
  have hy3 : w2.heap.size < w3.heap.size := by rw [HX3.out]; simp
  have h_s3 := (hb.block (w.heap.size) (by omega)).trans h_s2
  have h_o3 := (hb.block (w.heap.size + 1) (by omega)).trans h_o2
  have h_g3 := (hb.block (g) (by omega)).trans h_g2
  have hb3 : Below w.heap.size w w3 := hb2.trans (hb.mono (by omega))
  have hz3 : w2.heap.size ≤ w3.heap.size := hb.size
  clear hb
  have c_s0 : w3.cell? ⟨w.heap.size, 0, none⟩ = some (.int .i64 t) := by rw [Lib.cell_of_heap h_s3]; rfl
  have c_s1 : w3.cell? ⟨w.heap.size, 1, none⟩ = some (.bool c) := by rw [Lib.cell_of_heap h_s3]; rfl
  have c_s2 : w3.cell? ⟨w.heap.size, 2, none⟩ = some (.int .i64 x) := by rw [Lib.cell_of_heap h_s3]; rfl
  have c_s3 : w3.cell? ⟨w.heap.size, 3, none⟩ = some (.int .i64 v) := by rw [Lib.cell_of_heap h_s3]; rfl
  go_wp2_with (rw [← HX3.out])
  refine (HM.out _).mono ?_
  rintro e w4 ⟨rfl, hb⟩
  clear c_s0 c_s1 c_s2 c_s3
  have h_s4 := (hb.block (w.heap.size) (by omega)).trans h_s3
  have h_o4 := (hb.block (w.heap.size + 1) (by omega)).trans h_o3
  have h_g4 := (hb.block (g) (by omega)).trans h_g3
  have h_A4 := (hb.block (w2.heap.size) (by omega)).trans h_A3
  have hb4 : Below w.heap.size w w4 := hb3.trans (hb.mono (by omega))
  have hz4 : w3.heap.size ≤ w4.heap.size := hb.size
  clear hb
  have c_s0 : w4.cell? ⟨w.heap.size, 0, none⟩ = some (.int .i64 t) := by rw [Lib.cell_of_heap h_s4]; rfl
  have c_s1 : w4.cell? ⟨w.heap.size, 1, none⟩ = some (.bool c) := by rw [Lib.cell_of_heap h_s4]; rfl
  have c_s2 : w4.cell? ⟨w.heap.size, 2, none⟩ = some (.int .i64 x) := by rw [Lib.cell_of_heap h_s4]; rfl
  have c_s3 : w4.cell? ⟨w.heap.size, 3, none⟩ = some (.int .i64 v) := by rw [Lib.cell_of_heap h_s4]; rfl
  have c_A0 : w4.cell? ⟨w2.heap.size, 0, none⟩ = some (.int .i64 1) := by rw [Lib.cell_of_heap h_A4]; rfl
  have c_A1 : w4.cell? ⟨w2.heap.size, 1, none⟩ = some (.int .i64 (v + 1)) := by rw [Lib.cell_of_heap h_A4]; rfl
  have c_A2 : w4.cell? ⟨w2.heap.size, 2, none⟩ = some (.slice (some ⟨g, 0, none⟩) 1 1) := by rw [Lib.cell_of_heap h_A4]; rfl
  have HB := Lib.hid (fun X (hX : EvS X w1.heap.size (.slice (some ⟨g, 0, none⟩) 1 1) [⟨k1, a1⟩]) => HT.out X g _ hX)
  go_wp2_with fail
  refine (HB.out _ (.inr ⟨⟨k1, a1⟩, g, rfl, rfl, hge, h_g4⟩)).mono ?_
  rintro e w5 ⟨rfl, hb⟩
  clear c_s0 c_s1 c_s2 c_s3 c_A0 c_A1 c_A2
  have h_s5 := (hb.block (w.heap.size) (by omega)).trans h_s4
  have h_o5 := (hb.block (w.heap.size + 1) (by omega)).trans h_o4
  have h_g5 := (hb.block (g) (by omega)).trans h_g4
  have h_A5 := (hb.block (w2.heap.size) (by omega)).trans h_A4
  have hb5 : Below w.heap.size w w5 := hb4.trans (hb.mono (by omega))
  have hz5 : w4.heap.size ≤ w5.heap.size := hb.size
  clear hb
  obtain ⟨w6, HX6⟩ : ∃ W : World, Hid (W = w5.alloc (.cells #[.int .i64 t', .bool c', .int .i64 x', .int .i64 (v + 1)] 23)) := ⟨_, Lib.hid rfl⟩
  have hb : Below w5.heap.size w5 w6 := by rw [HX6.out]; exact (Below.refl _ _).alloc (Nat.le_refl _) _
  have h_T6 : w6.heap[w5.heap.size]? = some (.cells #[.int .i64 t', .bool c', .int .i64 x', .int .i64 (v + 1)] 23 (0, 0)) := by rw [HX6.out]; exact heap_alloc_new _ _
  have hy6 : w5.heap.size < w6.heap.size := by rw [HX6.out]; simp
  have h_s6 := (hb.block (w.heap.size) (by omega)).trans h_s5
  have h_o6 := (hb.block (w.heap.size + 1) (by omega)).trans h_o5
  have h_g6 := (hb.block (g) (by omega)).trans h_g5
  have h_A6 := (hb.block (w2.heap.size) (by omega)).trans h_A5
  have hb6 : Below w.heap.size w w6 := hb5.trans (hb.mono (by omega))
  have hz6 : w5.heap.size ≤ w6.heap.size := hb.size
  clear hb
  have c_A2 : w6.cell? ⟨w2.heap.size, 2, none⟩ = some (.slice (some ⟨g, 0, none⟩) 1 1) := by rw [Lib.cell_of_heap h_A6]; rfl
  have c_T0 : w6.cell? ⟨w5.heap.size, 0, none⟩ = some (.int .i64 t') := by rw [Lib.cell_of_heap h_T6]; rfl
  have c_T1 : w6.cell? ⟨w5.heap.size, 1, none⟩ = some (.bool c') := by rw [Lib.cell_of_heap h_T6]; rfl
  have c_T2 : w6.cell? ⟨w5.heap.size, 2, none⟩ = some (.int .i64 x') := by rw [Lib.cell_of_heap h_T6]; rfl
  have c_T3 : w6.cell? ⟨w5.heap.size, 3, none⟩ = some (.int .i64 (v + 1)) := by rw [Lib.cell_of_heap h_T6]; rfl
  go_wp2_with (rw [← HX6.out])
  refine (HM2.out _).mono ?_
  rintro e w7 ⟨rfl, hb⟩
  clear c_A2 c_T0 c_T1 c_T2 c_T3
  have h_s7 := (hb.block (w.heap.size) (by omega)).trans h_s6
  have h_o7 := (hb.block (w.heap.size + 1) (by omega)).trans h_o6
  have h_g7 := (hb.block (g) (by omega)).trans h_g6
  have h_A7 := (hb.block (w2.heap.size) (by omega)).trans h_A6
  have h_T7 := (hb.block (w5.heap.size) (by omega)).trans h_T6
  have hb7 : Below w.heap.size w w7 := hb6.trans (hb.mono (by omega))
  have hz7 : w6.heap.size ≤ w7.heap.size := hb.size
  clear hb
  have c_T0 : w7.cell? ⟨w5.heap.size, 0, none⟩ = some (.int .i64 t') := by rw [Lib.cell_of_heap h_T7]; rfl
  have c_T1 : w7.cell? ⟨w5.heap.size, 1, none⟩ = some (.bool c') := by rw [Lib.cell_of_heap h_T7]; rfl
  have c_T2 : w7.cell? ⟨w5.heap.size, 2, none⟩ = some (.int .i64 x') := by rw [Lib.cell_of_heap h_T7]; rfl
  have c_T3 : w7.cell? ⟨w5.heap.size, 3, none⟩ = some (.int .i64 (v + 1)) := by rw [Lib.cell_of_heap h_T7]; rfl
  have c_s0 : w7.cell? ⟨w.heap.size, 0, none⟩ = some (.int .i64 t) := by rw [Lib.cell_of_heap h_s7]; rfl
  have c_s1 : w7.cell? ⟨w.heap.size, 1, none⟩ = some (.bool c) := by rw [Lib.cell_of_heap h_s7]; rfl
  have c_s2 : w7.cell? ⟨w.heap.size, 2, none⟩ = some (.int .i64 x) := by rw [Lib.cell_of_heap h_s7]; rfl
  have c_s3 : w7.cell? ⟨w.heap.size, 3, none⟩ = some (.int .i64 v) := by rw [Lib.cell_of_heap h_s7]; rfl
  have c_A0 : w7.cell? ⟨w2.heap.size, 0, none⟩ = some (.int .i64 1) := by rw [Lib.cell_of_heap h_A7]; rfl
  have c_A1 : w7.cell? ⟨w2.heap.size, 1, none⟩ = some (.int .i64 (v + 1)) := by rw [Lib.cell_of_heap h_A7]; rfl
  have c_A2 : w7.cell? ⟨w2.heap.size, 2, none⟩ = some (.slice (some ⟨g, 0, none⟩) 1 1) := by rw [Lib.cell_of_heap h_A7]; rfl
  have c_o2 : w7.cell? ⟨w.heap.size + 1, 2, none⟩ = some (.int .i64 ex) := by rw [Lib.cell_of_heap h_o7]; rfl
  go_wp2_with fail
  refine (HW.out _ hb7).mono ?_
  rintro e w8 ⟨rfl, hb⟩
  clear c_T0 c_T1 c_T2 c_T3 c_s0 c_s1 c_s2 c_s3 c_A0 c_A1 c_A2 c_o2
  have h_s8 := (hb.block (w.heap.size) (by omega)).trans h_s7
  have h_o8 := (hb.block (w.heap.size + 1) (by omega)).trans h_o7
  have h_g8 := (hb.block (g) (by omega)).trans h_g7
  have h_A8 := (hb.block (w2.heap.size) (by omega)).trans h_A7
  have h_T8 := (hb.block (w5.heap.size) (by omega)).trans h_T7
  have hb8 : Below w.heap.size w w8 := hb7.trans (hb.mono (by omega))
  have hz8 : w7.heap.size ≤ w8.heap.size := hb.size
  clear hb
  go_wp2_with fail
  all_goals
    go_ret
    exact ⟨rfl, hb8⟩
set_option maxRecDepth 100000 in
set_option maxHeartbeats 8000000 in
theorem yes1 (t : Int) (c : Bool) (x v i j ex k a k1 a1 t' x' : Int) (w : World) (HAK : Hid (∀ X : World, Below w.heap.size w X → Asked X))
    (H1 : Hid (∀ X : World, Below w.heap.size w X → Calls Tryd.prog 9 #[.agg #[.int .i64 t, .bool c, .int .i64 x, .int .i64 v], .agg #[.int .i64 i, .int .i64 j, .int .i64 ex, .int .i64 k, .int .i64 a]] X (DecPost ⟨1, (v + 1), [⟨k1, a1⟩]⟩ X)))
    (HM : Hid (∀ X : World, Calls Tryd.prog 15 #[.agg #[.int .i64 t, .bool c, .int .i64 x, .int .i64 v]] X (NumPost (.bool true) X))) (c' : Bool) (HT : Hid (∀ X : World, ∀ g b, EvS X b (.slice (some ⟨g, 0, none⟩) 1 1) [⟨k1, a1⟩] → Calls Tryd.prog 16 #[.agg #[.int .i64 t, .bool c, .int .i64 x, .int .i64 v], .agg #[.int .i64 1, .int .i64 (v + 1), .slice (some ⟨g, 0, none⟩) 1 1]] X (NumPost (.agg #[.int .i64 t', .bool c', .int .i64 x', .int .i64 (v + 1)]) X))) (HM2 : Hid (∀ X : World, Calls Tryd.prog 15 #[.agg #[.int .i64 t', .bool c', .int .i64 x', .int .i64 (v + 1)]] X (NumPost (.bool true) X))) (hv0 : 0 ≤ v) (hv1 : v < 1099511627776) (hx : decide (ex < 0) = false) (hx2 : (ex == v) = true) :
    Calls Tryd.prog 5 #[.agg #[.int .i64 t, .bool c, .int .i64 x, .int .i64 v], .agg #[.int .i64 i, .int .i64 j, .int .i64 ex, .int .i64 k, .int .i64 a]] w (fun e w' => e = .returned (.bool true) ∧ Below w.heap.size w w') := by
  have HW := Lib.hid (fun X (hX : Below w.heap.size w X) => aeWorks_any X (HAK.out X hX))
  clear HAK
  obtain ⟨w1, HX1⟩ : ∃ W : World, Hid (W = ((w.alloc (.cells #[.int .i64 t, .bool c, .int .i64 x, .int .i64 v] 23)).alloc (.cells #[.int .i64 i, .int .i64 j, .int .i64 ex, .int .i64 k, .int .i64 a] 25))) := ⟨_, Lib.hid rfl⟩
  obtain ⟨hz1, hb1, h_s1, h_o1⟩ := two_blocks HX1.out
  replace hz1 : w.heap.size + 2 ≤ w1.heap.size := by omega
  have c_s0 : w1.cell? ⟨w.heap.size, 0, none⟩ = some (.int .i64 t) := by rw [Lib.cell_of_heap h_s1]; rfl
  have c_s1 : w1.cell? ⟨w.heap.size, 1, none⟩ = some (.bool c) := by rw [Lib.cell_of_heap h_s1]; rfl
  have c_s2 : w1.cell? ⟨w.heap.size, 2, none⟩ = some (.int .i64 x) := by rw [Lib.cell_of_heap h_s1]; rfl
  have c_s3 : w1.cell? ⟨w.heap.size, 3, none⟩ = some (.int .i64 v) := by rw [Lib.cell_of_heap h_s1]; rfl
  have c_o0 : w1.cell? ⟨w.heap.size + 1, 0, none⟩ = some (.int .i64 i) := by rw [Lib.cell_of_heap h_o1]; rfl
  have c_o1 : w1.cell? ⟨w.heap.size + 1, 1, none⟩ = some (.int .i64 j) := by rw [Lib.cell_of_heap h_o1]; rfl
  have c_o2 : w1.cell? ⟨w.heap.size + 1, 2, none⟩ = some (.int .i64 ex) := by rw [Lib.cell_of_heap h_o1]; rfl
  have c_o3 : w1.cell? ⟨w.heap.size + 1, 3, none⟩ = some (.int .i64 k) := by rw [Lib.cell_of_heap h_o1]; rfl
  have c_o4 : w1.cell? ⟨w.heap.size + 1, 4, none⟩ = some (.int .i64 a) := by rw [Lib.cell_of_heap h_o1]; rfl
  go_enter Tryd.func5, Tryd.ntmps5
  go_wp2_with (rw [← HX1.out])
  refine (H1.out _ hb1).mono ?_
  rintro e w2 ⟨V, rfl, hE, hb⟩
  clear c_s0 c_s1 c_s2 c_s3 c_o0 c_o1 c_o2 c_o3 c_o4
  have h_s2 := (hb.block (w.heap.size) (by omega)).trans h_s1
  have h_o2 := (hb.block (w.heap.size + 1) (by omega)).trans h_o1
  have hb2 : Below w.heap.size w w2 := hb1.trans (hb.mono (by omega))
  have hz2 : w1.heap.size ≤ w2.heap.size := hb.size
  clear hb
  obtain ⟨g, rfl, hge, hgl, h_g2⟩ := hE.one
  simp only at h_g2
  clear hE
  obtain ⟨w3, HX3⟩ : ∃ W : World, Hid (W = w2.alloc (.cells #[.int .i64 1, .int .i64 (v + 1), .slice (some ⟨g, 0, none⟩) 1 1] 28)) := ⟨_, Lib.hid rfl⟩
  have hb : Below w2.heap.size w2 w3 := by rw [HX3.out]; exact (Below.refl _ _).alloc (Nat.le_refl _) _
  have h_A3 : w3.heap[w2.heap.size]? = some (.cells #[.int .i64 1, .int .i64 (v + 1), .slice (some ⟨g, 0, none⟩) 1 1] 28 (0, 0)) := by rw [HX3.out]; exact heap_alloc_new _ _
  have hy3 : w2.heap.size < w3.heap.size := by rw [HX3.out]; simp
  have h_s3 := (hb.block (w.heap.size) (by omega)).trans h_s2
  have h_o3 := (hb.block (w.heap.size + 1) (by omega)).trans h_o2
  have h_g3 := (hb.block (g) (by omega)).trans h_g2
  have hb3 : Below w.heap.size w w3 := hb2.trans (hb.mono (by omega))
  have hz3 : w2.heap.size ≤ w3.heap.size := hb.size
  clear hb
  have c_s0 : w3.cell? ⟨w.heap.size, 0, none⟩ = some (.int .i64 t) := by rw [Lib.cell_of_heap h_s3]; rfl
  have c_s1 : w3.cell? ⟨w.heap.size, 1, none⟩ = some (.bool c) := by rw [Lib.cell_of_heap h_s3]; rfl
  have c_s2 : w3.cell? ⟨w.heap.size, 2, none⟩ = some (.int .i64 x) := by rw [Lib.cell_of_heap h_s3]; rfl
  have c_s3 : w3.cell? ⟨w.heap.size, 3, none⟩ = some (.int .i64 v) := by rw [Lib.cell_of_heap h_s3]; rfl
  go_wp2_with (rw [← HX3.out])
  refine (HM.out _).mono ?_
  rintro e w4 ⟨rfl, hb⟩
  clear c_s0 c_s1 c_s2 c_s3
  have h_s4 := (hb.block (w.heap.size) (by omega)).trans h_s3
  have h_o4 := (hb.block (w.heap.size + 1) (by omega)).trans h_o3
  have h_g4 := (hb.block (g) (by omega)).trans h_g3
  have h_A4 := (hb.block (w2.heap.size) (by omega)).trans h_A3
  have hb4 : Below w.heap.size w w4 := hb3.trans (hb.mono (by omega))
  have hz4 : w3.heap.size ≤ w4.heap.size := hb.size
  clear hb
  have c_s0 : w4.cell? ⟨w.heap.size, 0, none⟩ = some (.int .i64 t) := by rw [Lib.cell_of_heap h_s4]; rfl
  have c_s1 : w4.cell? ⟨w.heap.size, 1, none⟩ = some (.bool c) := by rw [Lib.cell_of_heap h_s4]; rfl
  have c_s2 : w4.cell? ⟨w.heap.size, 2, none⟩ = some (.int .i64 x) := by rw [Lib.cell_of_heap h_s4]; rfl
  have c_s3 : w4.cell? ⟨w.heap.size, 3, none⟩ = some (.int .i64 v) := by rw [Lib.cell_of_heap h_s4]; rfl
  have c_A0 : w4.cell? ⟨w2.heap.size, 0, none⟩ = some (.int .i64 1) := by rw [Lib.cell_of_heap h_A4]; rfl
  have c_A1 : w4.cell? ⟨w2.heap.size, 1, none⟩ = some (.int .i64 (v + 1)) := by rw [Lib.cell_of_heap h_A4]; rfl
  have c_A2 : w4.cell? ⟨w2.heap.size, 2, none⟩ = some (.slice (some ⟨g, 0, none⟩) 1 1) := by rw [Lib.cell_of_heap h_A4]; rfl
  have HB := Lib.hid (fun X (hX : EvS X w1.heap.size (.slice (some ⟨g, 0, none⟩) 1 1) [⟨k1, a1⟩]) => HT.out X g _ hX)
  go_wp2_with fail
  refine (HB.out _ (.inr ⟨⟨k1, a1⟩, g, rfl, rfl, hge, h_g4⟩)).mono ?_
  rintro e w5 ⟨rfl, hb⟩
  clear c_s0 c_s1 c_s2 c_s3 c_A0 c_A1 c_A2
  have h_s5 := (hb.block (w.heap.size) (by omega)).trans h_s4
  have h_o5 := (hb.block (w.heap.size + 1) (by omega)).trans h_o4
  have h_g5 := (hb.block (g) (by omega)).trans h_g4
  have h_A5 := (hb.block (w2.heap.size) (by omega)).trans h_A4
  have hb5 : Below w.heap.size w w5 := hb4.trans (hb.mono (by omega))
  have hz5 : w4.heap.size ≤ w5.heap.size := hb.size
  clear hb
  obtain ⟨w6, HX6⟩ : ∃ W : World, Hid (W = w5.alloc (.cells #[.int .i64 t', .bool c', .int .i64 x', .int .i64 (v + 1)] 23)) := ⟨_, Lib.hid rfl⟩
  have hb : Below w5.heap.size w5 w6 := by rw [HX6.out]; exact (Below.refl _ _).alloc (Nat.le_refl _) _
  have h_T6 : w6.heap[w5.heap.size]? = some (.cells #[.int .i64 t', .bool c', .int .i64 x', .int .i64 (v + 1)] 23 (0, 0)) := by rw [HX6.out]; exact heap_alloc_new _ _
  have hy6 : w5.heap.size < w6.heap.size := by rw [HX6.out]; simp
  have h_s6 := (hb.block (w.heap.size) (by omega)).trans h_s5
  have h_o6 := (hb.block (w.heap.size + 1) (by omega)).trans h_o5
  have h_g6 := (hb.block (g) (by omega)).trans h_g5
  have h_A6 := (hb.block (w2.heap.size) (by omega)).trans h_A5
  have hb6 : Below w.heap.size w w6 := hb5.trans (hb.mono (by omega))
  have hz6 : w5.heap.size ≤ w6.heap.size := hb.size
  clear hb
  have c_A2 : w6.cell? ⟨w2.heap.size, 2, none⟩ = some (.slice (some ⟨g, 0, none⟩) 1 1) := by rw [Lib.cell_of_heap h_A6]; rfl
  have c_T0 : w6.cell? ⟨w5.heap.size, 0, none⟩ = some (.int .i64 t') := by rw [Lib.cell_of_heap h_T6]; rfl
  have c_T1 : w6.cell? ⟨w5.heap.size, 1, none⟩ = some (.bool c') := by rw [Lib.cell_of_heap h_T6]; rfl
  have c_T2 : w6.cell? ⟨w5.heap.size, 2, none⟩ = some (.int .i64 x') := by rw [Lib.cell_of_heap h_T6]; rfl
  have c_T3 : w6.cell? ⟨w5.heap.size, 3, none⟩ = some (.int .i64 (v + 1)) := by rw [Lib.cell_of_heap h_T6]; rfl
  go_wp2_with (rw [← HX6.out])
  refine (HM2.out _).mono ?_
  rintro e w7 ⟨rfl, hb⟩
  clear c_A2 c_T0 c_T1 c_T2 c_T3
  have h_s7 := (hb.block (w.heap.size) (by omega)).trans h_s6
  have h_o7 := (hb.block (w.heap.size + 1) (by omega)).trans h_o6
  have h_g7 := (hb.block (g) (by omega)).trans h_g6
  have h_A7 := (hb.block (w2.heap.size) (by omega)).trans h_A6
  have h_T7 := (hb.block (w5.heap.size) (by omega)).trans h_T6
  have hb7 : Below w.heap.size w w7 := hb6.trans (hb.mono (by omega))
  have hz7 : w6.heap.size ≤ w7.heap.size := hb.size
  clear hb
  have c_T0 : w7.cell? ⟨w5.heap.size, 0, none⟩ = some (.int .i64 t') := by rw [Lib.cell_of_heap h_T7]; rfl
  have c_T1 : w7.cell? ⟨w5.heap.size, 1, none⟩ = some (.bool c') := by rw [Lib.cell_of_heap h_T7]; rfl
  have c_T2 : w7.cell? ⟨w5.heap.size, 2, none⟩ = some (.int .i64 x') := by rw [Lib.cell_of_heap h_T7]; rfl
  have c_T3 : w7.cell? ⟨w5.heap.size, 3, none⟩ = some (.int .i64 (v + 1)) := by rw [Lib.cell_of_heap h_T7]; rfl
  have c_s0 : w7.cell? ⟨w.heap.size, 0, none⟩ = some (.int .i64 t) := by rw [Lib.cell_of_heap h_s7]; rfl
  have c_s1 : w7.cell? ⟨w.heap.size, 1, none⟩ = some (.bool c) := by rw [Lib.cell_of_heap h_s7]; rfl
  have c_s2 : w7.cell? ⟨w.heap.size, 2, none⟩ = some (.int .i64 x) := by rw [Lib.cell_of_heap h_s7]; rfl
  have c_s3 : w7.cell? ⟨w.heap.size, 3, none⟩ = some (.int .i64 v) := by rw [Lib.cell_of_heap h_s7]; rfl
  have c_A0 : w7.cell? ⟨w2.heap.size, 0, none⟩ = some (.int .i64 1) := by rw [Lib.cell_of_heap h_A7]; rfl
  have c_A1 : w7.cell? ⟨w2.heap.size, 1, none⟩ = some (.int .i64 (v + 1)) := by rw [Lib.cell_of_heap h_A7]; rfl
  have c_A2 : w7.cell? ⟨w2.heap.size, 2, none⟩ = some (.slice (some ⟨g, 0, none⟩) 1 1) := by rw [Lib.cell_of_heap h_A7]; rfl
  have c_o2 : w7.cell? ⟨w.heap.size + 1, 2, none⟩ = some (.int .i64 ex) := by rw [Lib.cell_of_heap h_o7]; rfl
  go_wp2_with fail
  refine (HW.out _ hb7).mono ?_
  rintro e w8 ⟨rfl, hb⟩
  clear c_T0 c_T1 c_T2 c_T3 c_s0 c_s1 c_s2 c_s3 c_A0 c_A1 c_A2 c_o2
  have h_s8 := (hb.block (w.heap.size) (by omega)).trans h_s7
  have h_o8 := (hb.block (w.heap.size + 1) (by omega)).trans h_o7
  have h_g8 := (hb.block (g) (by omega)).trans h_g7
  have h_A8 := (hb.block (w2.heap.size) (by omega)).trans h_A7
  have h_T8 := (hb.block (w5.heap.size) (by omega)).trans h_T7
  have hb8 : Below w.heap.size w w8 := hb7.trans (hb.mono (by omega))
  have hz8 : w7.heap.size ≤ w8.heap.size := hb.size
  clear hb
  go_wp2_with fail
  all_goals
    go_ret
    exact ⟨rfl, hb8⟩
theorem forms (s : St) (q : Od) (hm : s.may = true) : (decide_ s q = ⟨7, s.ver, []⟩ ∨ decide_ s q = ⟨2, s.ver, []⟩ ∨ decide_ s q = ⟨3, s.ver, []⟩) ∨
    (decide_ s q = ⟨1, s.ver + 1, [evOf q]⟩ ∧ comes s (evOf q) = true ∧ (q.ex < 0 ∨ q.ex = s.ver)) := by
  unfold decide_
  rw [hm, if_neg (by decide)]
  split
  · exact .inl (.inl rfl)
  split
  · exact .inl (.inr (.inl rfl))
  rename_i h1 h2
  split
  · exact .inl (.inr (.inr rfl))
  · rename_i h3
    exact .inr ⟨rfl, by simpa using h3, by omega⟩
theorem walk (s : St) (q : Od) (w : World) (hA : Asked w) (_ : s.ints) (_ : q.ints) : Calls Tryd.prog 5 #[s.v, q.v] w (fun e w' => e = .returned (.bool true) ∧ Below w.heap.size w w') := by
  have h1 := fun X (hb : Below w.heap.size w X) => decide_any s q X (hA.keep hb)
  have hM := fun X => lm_any s X
  have HAK := Lib.hid (fun X (hb : Below w.heap.size w X) => hA.keep hb)
  cases hm : s.may
  · rw [hm] at hM
    rw [show decide_ s q = ⟨7, 0, []⟩ by unfold decide_; rw [hm, if_pos rfl]] at h1
    exact bad s.tag s.cl s.sum s.ver q.id q.st q.ex q.ki q.ar w HAK (Lib.hid h1) (Lib.hid hM)
  rw [hm] at hM
  rcases forms s q hm with (h | h | h) | ⟨h, hc, hx⟩
  · rw [h] at h1
    exact not7 s.tag s.cl s.sum s.ver q.id q.st q.ex q.ki q.ar w HAK (Lib.hid h1) (Lib.hid hM)
  · rw [h] at h1
    exact not2 s.tag s.cl s.sum s.ver q.id q.st q.ex q.ki q.ar w HAK (Lib.hid h1) (Lib.hid hM)
  · rw [h] at h1
    exact not3 s.tag s.cl s.sum s.ver q.id q.st q.ex q.ki q.ar w HAK (Lib.hid h1) (Lib.hid hM)
  · rw [h] at h1
    have hl : lets s (evOf q) = true := (lets_iff _ _).2 ⟨hm, hc⟩
    have hM2 := fun X => lm_any (next s (evOf q)) X
    rw [next_may hl] at hM2
    have hT := fun (X : World) (g b : Nat) (hX : EvS X b (.slice (some ⟨g, 0, none⟩) 1 1) [evOf q]) => tail_any s 1 (s.ver + 1) [evOf q] _ b X hX
    rw [show apps s [evOf q] = next s (evOf q) from app_yes hl] at hT
    have hv := (may_iff _).1 hm
    have hv2 := ((comes_iff _ _).1 hc).1
    by_cases hx0 : q.ex < 0
    · exact yes0 s.tag s.cl s.sum s.ver q.id q.st q.ex q.ki q.ar _ _ _ _ w HAK (Lib.hid h1) (Lib.hid hM) _ (Lib.hid hT) (Lib.hid hM2) (by omega) hv2 (decide_eq_true hx0)
    · exact yes1 s.tag s.cl s.sum s.ver q.id q.st q.ex q.ki q.ar _ _ _ _ w HAK (Lib.hid h1) (Lib.hid hM) _ (Lib.hid hT) (Lib.hid hM2) (by omega) hv2 (decide_eq_false hx0) (by simp; omega)
end Go.Proofs.YtpboleiifmepeaaDoor.deedsLeadW
