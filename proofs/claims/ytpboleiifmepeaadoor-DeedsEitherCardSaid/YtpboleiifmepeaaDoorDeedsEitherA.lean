/-
  The walk of the law DeedsEither, where nothing is asked of the states.
-/
import Derived.Test.YtpboleiifmepeaaDoorAeTail
namespace Go.Proofs.YtpboleiifmepeaaDoor.deedsEitherW
open Go.RowKit Go.Sort
set_option maxRecDepth 100000 in
set_option maxHeartbeats 8000000 in
theorem bad (t : Int) (c : Bool) (x v k a m b : Int) (w : World) (HAK : Hid (∀ X : World, Below w.heap.size w X → Asked X))
    (HM : Hid (∀ X : World, Calls Tryd.prog 15 #[.agg #[.int .i64 t, .bool c, .int .i64 x, .int .i64 v]] X (NumPost (.bool false) X))) :
    Calls Tryd.prog 8 #[.agg #[.int .i64 t, .bool c, .int .i64 x, .int .i64 v], .agg #[.int .i64 k, .int .i64 a, .int .i64 m, .int .i64 b]] w (fun e w' => e = .returned (.bool true) ∧ Below w.heap.size w w') := by
  have HW := Lib.hid (fun X (hX : Below w.heap.size w X) => aeWorks_any X (HAK.out X hX))
  clear HAK
  obtain ⟨w1, HX1⟩ : ∃ W : World, Hid (W = ((w.alloc (.cells #[.int .i64 t, .bool c, .int .i64 x, .int .i64 v] 23)).alloc (.cells #[.int .i64 k, .int .i64 a, .int .i64 m, .int .i64 b] 41))) := ⟨_, Lib.hid rfl⟩
  obtain ⟨hz1, hb1, h_s1, h_l1⟩ := two_blocks HX1.out
  replace hz1 : w.heap.size + 2 ≤ w1.heap.size := by omega
  have c_s0 : w1.cell? ⟨w.heap.size, 0, none⟩ = some (.int .i64 t) := by rw [Lib.cell_of_heap h_s1]; rfl
  have c_s1 : w1.cell? ⟨w.heap.size, 1, none⟩ = some (.bool c) := by rw [Lib.cell_of_heap h_s1]; rfl
  have c_s2 : w1.cell? ⟨w.heap.size, 2, none⟩ = some (.int .i64 x) := by rw [Lib.cell_of_heap h_s1]; rfl
  have c_s3 : w1.cell? ⟨w.heap.size, 3, none⟩ = some (.int .i64 v) := by rw [Lib.cell_of_heap h_s1]; rfl
  go_enter Tryd.func8, Tryd.ntmps8
  go_wp2_with (rw [← HX1.out])
  refine (HM.out _).mono ?_
  rintro e w2 ⟨rfl, hb⟩
  clear c_s0 c_s1 c_s2 c_s3
  have h_s2 := (hb.block (w.heap.size) (by omega)).trans h_s1
  have h_l2 := (hb.block (w.heap.size + 1) (by omega)).trans h_l1
  have hb2 : Below w.heap.size w w2 := hb1.trans (hb.mono (by omega))
  have hz2 : w1.heap.size ≤ w2.heap.size := hb.size
  clear hb
  have c_l0 : w2.cell? ⟨w.heap.size + 1, 0, none⟩ = some (.int .i64 k) := by rw [Lib.cell_of_heap h_l2]; rfl
  have c_l1 : w2.cell? ⟨w.heap.size + 1, 1, none⟩ = some (.int .i64 a) := by rw [Lib.cell_of_heap h_l2]; rfl
  have c_l2 : w2.cell? ⟨w.heap.size + 1, 2, none⟩ = some (.int .i64 m) := by rw [Lib.cell_of_heap h_l2]; rfl
  have c_l3 : w2.cell? ⟨w.heap.size + 1, 3, none⟩ = some (.int .i64 b) := by rw [Lib.cell_of_heap h_l2]; rfl
  go_wp2_with fail
  refine (HW.out _ hb2).mono ?_
  rintro e w3 ⟨rfl, hb⟩
  clear c_l0 c_l1 c_l2 c_l3
  have h_s3 := (hb.block (w.heap.size) (by omega)).trans h_s2
  have h_l3 := (hb.block (w.heap.size + 1) (by omega)).trans h_l2
  have hb3 : Below w.heap.size w w3 := hb2.trans (hb.mono (by omega))
  have hz3 : w2.heap.size ≤ w3.heap.size := hb.size
  clear hb
  go_wp2_with fail
  all_goals
    go_ret
    exact ⟨rfl, hb3⟩
set_option maxRecDepth 100000 in
set_option maxHeartbeats 8000000 in
theorem no0 (t : Int) (c : Bool) (x v k a m b : Int) (w : World) (HAK : Hid (∀ X : World, Below w.heap.size w X → Asked X))
    (HM : Hid (∀ X : World, Calls Tryd.prog 15 #[.agg #[.int .i64 t, .bool c, .int .i64 x, .int .i64 v]] X (NumPost (.bool true) X))) (h2 : (k != 2) = true) (h3 : (k != 3) = true) :
    Calls Tryd.prog 8 #[.agg #[.int .i64 t, .bool c, .int .i64 x, .int .i64 v], .agg #[.int .i64 k, .int .i64 a, .int .i64 m, .int .i64 b]] w (fun e w' => e = .returned (.bool true) ∧ Below w.heap.size w w') := by
  have HW := Lib.hid (fun X (hX : Below w.heap.size w X) => aeWorks_any X (HAK.out X hX))
  clear HAK
  obtain ⟨w1, HX1⟩ : ∃ W : World, Hid (W = ((w.alloc (.cells #[.int .i64 t, .bool c, .int .i64 x, .int .i64 v] 23)).alloc (.cells #[.int .i64 k, .int .i64 a, .int .i64 m, .int .i64 b] 41))) := ⟨_, Lib.hid rfl⟩
  obtain ⟨hz1, hb1, h_s1, h_l1⟩ := two_blocks HX1.out
  replace hz1 : w.heap.size + 2 ≤ w1.heap.size := by omega
  have c_s0 : w1.cell? ⟨w.heap.size, 0, none⟩ = some (.int .i64 t) := by rw [Lib.cell_of_heap h_s1]; rfl
  have c_s1 : w1.cell? ⟨w.heap.size, 1, none⟩ = some (.bool c) := by rw [Lib.cell_of_heap h_s1]; rfl
  have c_s2 : w1.cell? ⟨w.heap.size, 2, none⟩ = some (.int .i64 x) := by rw [Lib.cell_of_heap h_s1]; rfl
  have c_s3 : w1.cell? ⟨w.heap.size, 3, none⟩ = some (.int .i64 v) := by rw [Lib.cell_of_heap h_s1]; rfl
  go_enter Tryd.func8, Tryd.ntmps8
  go_wp2_with (rw [← HX1.out])
  refine (HM.out _).mono ?_
  rintro e w2 ⟨rfl, hb⟩
  clear c_s0 c_s1 c_s2 c_s3
  have h_s2 := (hb.block (w.heap.size) (by omega)).trans h_s1
  have h_l2 := (hb.block (w.heap.size + 1) (by omega)).trans h_l1
  have hb2 : Below w.heap.size w w2 := hb1.trans (hb.mono (by omega))
  have hz2 : w1.heap.size ≤ w2.heap.size := hb.size
  clear hb
  have c_l0 : w2.cell? ⟨w.heap.size + 1, 0, none⟩ = some (.int .i64 k) := by rw [Lib.cell_of_heap h_l2]; rfl
  have c_l1 : w2.cell? ⟨w.heap.size + 1, 1, none⟩ = some (.int .i64 a) := by rw [Lib.cell_of_heap h_l2]; rfl
  have c_l2 : w2.cell? ⟨w.heap.size + 1, 2, none⟩ = some (.int .i64 m) := by rw [Lib.cell_of_heap h_l2]; rfl
  have c_l3 : w2.cell? ⟨w.heap.size + 1, 3, none⟩ = some (.int .i64 b) := by rw [Lib.cell_of_heap h_l2]; rfl
  go_wp2_with fail
  refine (HW.out _ hb2).mono ?_
  rintro e w3 ⟨rfl, hb⟩
  clear c_l0 c_l1 c_l2 c_l3
  have h_s3 := (hb.block (w.heap.size) (by omega)).trans h_s2
  have h_l3 := (hb.block (w.heap.size + 1) (by omega)).trans h_l2
  have hb3 : Below w.heap.size w w3 := hb2.trans (hb.mono (by omega))
  have hz3 : w2.heap.size ≤ w3.heap.size := hb.size
  clear hb
  go_wp2_with fail
  all_goals
    go_ret
    exact ⟨rfl, hb3⟩
set_option maxRecDepth 100000 in
set_option maxHeartbeats 8000000 in
theorem no1_2 (t : Int) (c : Bool) (x v a m b : Int) (w : World) (HAK : Hid (∀ X : World, Below w.heap.size w X → Asked X))
    (HM : Hid (∀ X : World, Calls Tryd.prog 15 #[.agg #[.int .i64 t, .bool c, .int .i64 x, .int .i64 v]] X (NumPost (.bool true) X))) (h2 : (m != 2) = true) (h3 : (m != 3) = true) :
    Calls Tryd.prog 8 #[.agg #[.int .i64 t, .bool c, .int .i64 x, .int .i64 v], .agg #[.int .i64 2, .int .i64 a, .int .i64 m, .int .i64 b]] w (fun e w' => e = .returned (.bool true) ∧ Below w.heap.size w w') := by
  have HW := Lib.hid (fun X (hX : Below w.heap.size w X) => aeWorks_any X (HAK.out X hX))
  clear HAK
  obtain ⟨w1, HX1⟩ : ∃ W : World, Hid (W = ((w.alloc (.cells #[.int .i64 t, .bool c, .int .i64 x, .int .i64 v] 23)).alloc (.cells #[.int .i64 2, .int .i64 a, .int .i64 m, .int .i64 b] 41))) := ⟨_, Lib.hid rfl⟩
  obtain ⟨hz1, hb1, h_s1, h_l1⟩ := two_blocks HX1.out
  replace hz1 : w.heap.size + 2 ≤ w1.heap.size := by omega
  have c_s0 : w1.cell? ⟨w.heap.size, 0, none⟩ = some (.int .i64 t) := by rw [Lib.cell_of_heap h_s1]; rfl
  have c_s1 : w1.cell? ⟨w.heap.size, 1, none⟩ = some (.bool c) := by rw [Lib.cell_of_heap h_s1]; rfl
  have c_s2 : w1.cell? ⟨w.heap.size, 2, none⟩ = some (.int .i64 x) := by rw [Lib.cell_of_heap h_s1]; rfl
  have c_s3 : w1.cell? ⟨w.heap.size, 3, none⟩ = some (.int .i64 v) := by rw [Lib.cell_of_heap h_s1]; rfl
  go_enter Tryd.func8, Tryd.ntmps8
  go_wp2_with (rw [← HX1.out])
  refine (HM.out _).mono ?_
  rintro e w2 ⟨rfl, hb⟩
  clear c_s0 c_s1 c_s2 c_s3
  have h_s2 := (hb.block (w.heap.size) (by omega)).trans h_s1
  have h_l2 := (hb.block (w.heap.size + 1) (by omega)).trans h_l1
  have hb2 : Below w.heap.size w w2 := hb1.trans (hb.mono (by omega))
  have hz2 : w1.heap.size ≤ w2.heap.size := hb.size
  clear hb
  have c_l0 : w2.cell? ⟨w.heap.size + 1, 0, none⟩ = some (.int .i64 2) := by rw [Lib.cell_of_heap h_l2]; rfl
  have c_l1 : w2.cell? ⟨w.heap.size + 1, 1, none⟩ = some (.int .i64 a) := by rw [Lib.cell_of_heap h_l2]; rfl
  have c_l2 : w2.cell? ⟨w.heap.size + 1, 2, none⟩ = some (.int .i64 m) := by rw [Lib.cell_of_heap h_l2]; rfl
  have c_l3 : w2.cell? ⟨w.heap.size + 1, 3, none⟩ = some (.int .i64 b) := by rw [Lib.cell_of_heap h_l2]; rfl
  go_wp2_with fail
  refine (HW.out _ hb2).mono ?_
  rintro e w3 ⟨rfl, hb⟩
  clear c_l0 c_l1 c_l2 c_l3
  have h_s3 := (hb.block (w.heap.size) (by omega)).trans h_s2
  have h_l3 := (hb.block (w.heap.size + 1) (by omega)).trans h_l2
  have hb3 : Below w.heap.size w w3 := hb2.trans (hb.mono (by omega))
  have hz3 : w2.heap.size ≤ w3.heap.size := hb.size
  clear hb
  go_wp2_with fail
  all_goals
    go_ret
    exact ⟨rfl, hb3⟩
set_option maxRecDepth 100000 in
set_option maxHeartbeats 8000000 in
theorem no1_3 (t : Int) (c : Bool) (x v a m b : Int) (w : World) (HAK : Hid (∀ X : World, Below w.heap.size w X → Asked X))
    (HM : Hid (∀ X : World, Calls Tryd.prog 15 #[.agg #[.int .i64 t, .bool c, .int .i64 x, .int .i64 v]] X (NumPost (.bool true) X))) (h2 : (m != 2) = true) (h3 : (m != 3) = true) :
    Calls Tryd.prog 8 #[.agg #[.int .i64 t, .bool c, .int .i64 x, .int .i64 v], .agg #[.int .i64 3, .int .i64 a, .int .i64 m, .int .i64 b]] w (fun e w' => e = .returned (.bool true) ∧ Below w.heap.size w w') := by
  have HW := Lib.hid (fun X (hX : Below w.heap.size w X) => aeWorks_any X (HAK.out X hX))
  clear HAK
  obtain ⟨w1, HX1⟩ : ∃ W : World, Hid (W = ((w.alloc (.cells #[.int .i64 t, .bool c, .int .i64 x, .int .i64 v] 23)).alloc (.cells #[.int .i64 3, .int .i64 a, .int .i64 m, .int .i64 b] 41))) := ⟨_, Lib.hid rfl⟩
  obtain ⟨hz1, hb1, h_s1, h_l1⟩ := two_blocks HX1.out
  replace hz1 : w.heap.size + 2 ≤ w1.heap.size := by omega
  have c_s0 : w1.cell? ⟨w.heap.size, 0, none⟩ = some (.int .i64 t) := by rw [Lib.cell_of_heap h_s1]; rfl
  have c_s1 : w1.cell? ⟨w.heap.size, 1, none⟩ = some (.bool c) := by rw [Lib.cell_of_heap h_s1]; rfl
  have c_s2 : w1.cell? ⟨w.heap.size, 2, none⟩ = some (.int .i64 x) := by rw [Lib.cell_of_heap h_s1]; rfl
  have c_s3 : w1.cell? ⟨w.heap.size, 3, none⟩ = some (.int .i64 v) := by rw [Lib.cell_of_heap h_s1]; rfl
  go_enter Tryd.func8, Tryd.ntmps8
  go_wp2_with (rw [← HX1.out])
  refine (HM.out _).mono ?_
  rintro e w2 ⟨rfl, hb⟩
  clear c_s0 c_s1 c_s2 c_s3
  have h_s2 := (hb.block (w.heap.size) (by omega)).trans h_s1
  have h_l2 := (hb.block (w.heap.size + 1) (by omega)).trans h_l1
  have hb2 : Below w.heap.size w w2 := hb1.trans (hb.mono (by omega))
  have hz2 : w1.heap.size ≤ w2.heap.size := hb.size
  clear hb
  have c_l0 : w2.cell? ⟨w.heap.size + 1, 0, none⟩ = some (.int .i64 3) := by rw [Lib.cell_of_heap h_l2]; rfl
  have c_l1 : w2.cell? ⟨w.heap.size + 1, 1, none⟩ = some (.int .i64 a) := by rw [Lib.cell_of_heap h_l2]; rfl
  have c_l2 : w2.cell? ⟨w.heap.size + 1, 2, none⟩ = some (.int .i64 m) := by rw [Lib.cell_of_heap h_l2]; rfl
  have c_l3 : w2.cell? ⟨w.heap.size + 1, 3, none⟩ = some (.int .i64 b) := by rw [Lib.cell_of_heap h_l2]; rfl
  go_wp2_with fail
  refine (HW.out _ hb2).mono ?_
  rintro e w3 ⟨rfl, hb⟩
  clear c_l0 c_l1 c_l2 c_l3
  have h_s3 := (hb.block (w.heap.size) (by omega)).trans h_s2
  have h_l3 := (hb.block (w.heap.size + 1) (by omega)).trans h_l2
  have hb3 : Below w.heap.size w w3 := hb2.trans (hb.mono (by omega))
  have hz3 : w2.heap.size ≤ w3.heap.size := hb.size
  clear hb
  go_wp2_with fail
  all_goals
    go_ret
    exact ⟨rfl, hb3⟩
end Go.Proofs.YtpboleiifmepeaaDoor.deedsEitherW
