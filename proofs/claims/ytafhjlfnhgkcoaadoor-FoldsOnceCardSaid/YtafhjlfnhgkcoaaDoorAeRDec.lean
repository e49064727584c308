/-
  Decide of the document; Decide of both, whole; the document's Apply, whole.
-/
import Derived.Test.YtafhjlfnhgkcoaaDoorAeDec
namespace Go.Proofs.YtafhjlfnhgkcoaaDoor
open Go.RowKit Go.Sort
set_option maxRecDepth 100000 in
set_option maxHeartbeats 2000000 in
theorem rdec_bad (t : Int) (c : Bool) (x v i s ex k a : Int) (w : World) (HM : Hid (∀ X : World, Calls Tryd.prog 30 #[.agg #[.int .i64 t, .bool c, .int .i64 x, .int .i64 v]] X (NumPost (.bool false) X))) :
    Calls Tryd.prog 23 #[.agg #[.int .i64 t, .bool c, .int .i64 x, .int .i64 v], .agg #[.int .i64 i, .int .i64 s, .int .i64 ex, .int .i64 k, .int .i64 a]] w (DecPost ⟨7, 0, []⟩ w) := by
  obtain ⟨w4, HW⟩ : ∃ w4, Hid (w4 = ((w.alloc (.cells #[.int .i64 t, .bool c, .int .i64 x, .int .i64 v] 25)).alloc (.cells #[.int .i64 i, .int .i64 s, .int .i64 ex, .int .i64 k, .int .i64 a] 43)).alloc (.cells #[.int .i64 0, .int .i64 0, .slice none 0 0] 33)) := ⟨_, Lib.hid rfl⟩
  obtain ⟨hz4, hb4, hs4, ho4, hn4⟩ := three_blocks HW.out
  go_enter Tryd.func23, Tryd.ntmps23
  go_wp2_with fail
  rw [← HW.out]
  refine (HM.out _).mono ?_
  rintro e w5 ⟨rfl, hb⟩
  have hs5 := (hb.block (w.heap.size) (by omega)).trans hs4
  have ho5 := (hb.block (w.heap.size + 1) (by omega)).trans ho4
  have hn5 := (hb.block (w.heap.size + 1 + 1) (by omega)).trans hn4
  have hb5 : Below w.heap.size w w5 := hb4.trans (hb.mono (by omega))
  have hz5 : w4.heap.size ≤ w5.heap.size := hb.size
  clear hb
  have n0 : w5.cell? ⟨w.heap.size + 1 + 1, 0, none⟩ = some (.int .i64 0) := by rw [Lib.cell_of_heap hn5]; rfl
  have n1 : w5.cell? ⟨w.heap.size + 1 + 1, 1, none⟩ = some (.int .i64 0) := by rw [Lib.cell_of_heap hn5]; rfl
  have n2 : w5.cell? ⟨w.heap.size + 1 + 1, 2, none⟩ = some (.slice none 0 0) := by rw [Lib.cell_of_heap hn5]; rfl
  have nf : ∀ i, w5.frozen? ⟨w.heap.size + 1 + 1, i, none⟩ = false := fun i => Lib.frozen_of_heap hn5 i
  go_wp2_with (fail)
  (try simp only [Exit.inBlock, Exit.then]); refine bodyPost_ret (results_cell_row rfl _ _ (w.heap.size + 1 + 1) 33 #[.int .i64 7, .int .i64 0, .slice none 0 0] (0, 0) _ rfl (heap_setCell_same _ _ 2 _ _ _ (heap_setCell_same _ _ 1 _ _ _ (heap_setCell_same _ _ 0 _ _ _ hn5))) Tryd.underlying33 rfl (by kernel_rfl)) rfl ?_
  exact ⟨_, rfl, .inl ⟨rfl, rfl⟩, by repeat' (first | (with_reducible assumption) | (with_reducible exact Below.refl _ _) | (with_reducible refine below_drewN ?_ _) | (with_reducible refine Below.drew ?_) | (with_reducible refine Below.alloc ?_ ?_ _) | (with_reducible refine Below.setCell ?_ ?_ _) | go_size)⟩
set_option maxRecDepth 100000 in
set_option maxHeartbeats 2000000 in
theorem rdec_ord (t : Int) (c : Bool) (x v i s ex k a : Int) (w : World) (HM : Hid (∀ X : World, Calls Tryd.prog 30 #[.agg #[.int .i64 t, .bool c, .int .i64 x, .int .i64 v]] X (NumPost (.bool true) X))) (HC : Hid (∀ X : World, Calls Tryd.prog 31 #[.agg #[.int .i64 i, .int .i64 s, .int .i64 ex, .int .i64 k, .int .i64 a]] X (NumPost (.bool false) X))) :
    Calls Tryd.prog 23 #[.agg #[.int .i64 t, .bool c, .int .i64 x, .int .i64 v], .agg #[.int .i64 i, .int .i64 s, .int .i64 ex, .int .i64 k, .int .i64 a]] w (DecPost ⟨7, v, []⟩ w) := by
  obtain ⟨w4, HW⟩ : ∃ w4, Hid (w4 = ((w.alloc (.cells #[.int .i64 t, .bool c, .int .i64 x, .int .i64 v] 25)).alloc (.cells #[.int .i64 i, .int .i64 s, .int .i64 ex, .int .i64 k, .int .i64 a] 43)).alloc (.cells #[.int .i64 0, .int .i64 0, .slice none 0 0] 33)) := ⟨_, Lib.hid rfl⟩
  obtain ⟨hz4, hb4, hs4, ho4, hn4⟩ := three_blocks HW.out
  go_enter Tryd.func23, Tryd.ntmps23
  go_wp2_with fail
  rw [← HW.out]
  refine (HM.out _).mono ?_
  rintro e w5 ⟨rfl, hb⟩
  have hs5 := (hb.block (w.heap.size) (by omega)).trans hs4
  have ho5 := (hb.block (w.heap.size + 1) (by omega)).trans ho4
  have hn5 := (hb.block (w.heap.size + 1 + 1) (by omega)).trans hn4
  have hb5 : Below w.heap.size w w5 := hb4.trans (hb.mono (by omega))
  have hz5 : w4.heap.size ≤ w5.heap.size := hb.size
  clear hb
  have o0 : w5.cell? ⟨w.heap.size + 1, 0, none⟩ = some (.int .i64 i) := by rw [Lib.cell_of_heap ho5]; rfl
  have o1 : w5.cell? ⟨w.heap.size + 1, 1, none⟩ = some (.int .i64 s) := by rw [Lib.cell_of_heap ho5]; rfl
  have o2 : w5.cell? ⟨w.heap.size + 1, 2, none⟩ = some (.int .i64 ex) := by rw [Lib.cell_of_heap ho5]; rfl
  have o3 : w5.cell? ⟨w.heap.size + 1, 3, none⟩ = some (.int .i64 k) := by rw [Lib.cell_of_heap ho5]; rfl
  have o4 : w5.cell? ⟨w.heap.size + 1, 4, none⟩ = some (.int .i64 a) := by rw [Lib.cell_of_heap ho5]; rfl
  go_wp2_with fail
  refine (HC.out _).mono ?_
  rintro e w6 ⟨rfl, hb⟩
  have hs6 := (hb.block (w.heap.size) (by omega)).trans hs5
  have ho6 := (hb.block (w.heap.size + 1) (by omega)).trans ho5
  have hn6 := (hb.block (w.heap.size + 1 + 1) (by omega)).trans hn5
  have hb6 : Below w.heap.size w w6 := hb5.trans (hb.mono (by omega))
  have hz6 : w5.heap.size ≤ w6.heap.size := hb.size
  clear hb
  clear o0 o1 o2 o3 o4
  have a0 : w6.cell? ⟨w.heap.size, 0, none⟩ = some (.int .i64 t) := by rw [Lib.cell_of_heap hs6]; rfl
  have a1 : w6.cell? ⟨w.heap.size, 1, none⟩ = some (.bool c) := by rw [Lib.cell_of_heap hs6]; rfl
  have a2 : w6.cell? ⟨w.heap.size, 2, none⟩ = some (.int .i64 x) := by rw [Lib.cell_of_heap hs6]; rfl
  have a3 : w6.cell? ⟨w.heap.size, 3, none⟩ = some (.int .i64 v) := by rw [Lib.cell_of_heap hs6]; rfl
  have n0 : w6.cell? ⟨w.heap.size + 1 + 1, 0, none⟩ = some (.int .i64 0) := by rw [Lib.cell_of_heap hn6]; rfl
  have n1 : w6.cell? ⟨w.heap.size + 1 + 1, 1, none⟩ = some (.int .i64 0) := by rw [Lib.cell_of_heap hn6]; rfl
  have n2 : w6.cell? ⟨w.heap.size + 1 + 1, 2, none⟩ = some (.slice none 0 0) := by rw [Lib.cell_of_heap hn6]; rfl
  have nf : ∀ i, w6.frozen? ⟨w.heap.size + 1 + 1, i, none⟩ = false := fun i => Lib.frozen_of_heap hn6 i
  go_wp2_with (fail)
  (try simp only [Exit.inBlock, Exit.then]); refine bodyPost_ret (results_cell_row rfl _ _ (w.heap.size + 1 + 1) 33 #[.int .i64 7, .int .i64 v, .slice none 0 0] (0, 0) _ rfl (heap_setCell_same _ _ 2 _ _ _ (heap_setCell_same _ _ 1 _ _ _ (heap_setCell_same _ _ 0 _ _ _ hn6))) Tryd.underlying33 rfl (by kernel_rfl)) rfl ?_
  exact ⟨_, rfl, .inl ⟨rfl, rfl⟩, by repeat' (first | (with_reducible assumption) | (with_reducible exact Below.refl _ _) | (with_reducible refine below_drewN ?_ _) | (with_reducible refine Below.drew ?_) | (with_reducible refine Below.alloc ?_ ?_ _) | (with_reducible refine Below.setCell ?_ ?_ _) | go_size)⟩
set_option maxRecDepth 100000 in
set_option maxHeartbeats 2000000 in
theorem rdec_conf (t : Int) (c : Bool) (x v i s ex k a : Int) (w : World) (HM : Hid (∀ X : World, Calls Tryd.prog 30 #[.agg #[.int .i64 t, .bool c, .int .i64 x, .int .i64 v]] X (NumPost (.bool true) X))) (HC : Hid (∀ X : World, Calls Tryd.prog 31 #[.agg #[.int .i64 i, .int .i64 s, .int .i64 ex, .int .i64 k, .int .i64 a]] X (NumPost (.bool true) X))) (h0 : decide (0 ≤ ex) = true) (h1 : (ex == v) = false) :
    Calls Tryd.prog 23 #[.agg #[.int .i64 t, .bool c, .int .i64 x, .int .i64 v], .agg #[.int .i64 i, .int .i64 s, .int .i64 ex, .int .i64 k, .int .i64 a]] w (DecPost ⟨2, v, []⟩ w) := by
  obtain ⟨w4, HW⟩ : ∃ w4, Hid (w4 = ((w.alloc (.cells #[.int .i64 t, .bool c, .int .i64 x, .int .i64 v] 25)).alloc (.cells #[.int .i64 i, .int .i64 s, .int .i64 ex, .int .i64 k, .int .i64 a] 43)).alloc (.cells #[.int .i64 0, .int .i64 0, .slice none 0 0] 33)) := ⟨_, Lib.hid rfl⟩
  obtain ⟨hz4, hb4, hs4, ho4, hn4⟩ := three_blocks HW.out
  go_enter Tryd.func23, Tryd.ntmps23
  go_wp2_with fail
  rw [← HW.out]
  refine (HM.out _).mono ?_
  rintro e w5 ⟨rfl, hb⟩
  have hs5 := (hb.block (w.heap.size) (by omega)).trans hs4
  have ho5 := (hb.block (w.heap.size + 1) (by omega)).trans ho4
  have hn5 := (hb.block (w.heap.size + 1 + 1) (by omega)).trans hn4
  have hb5 : Below w.heap.size w w5 := hb4.trans (hb.mono (by omega))
  have hz5 : w4.heap.size ≤ w5.heap.size := hb.size
  clear hb
  have o0 : w5.cell? ⟨w.heap.size + 1, 0, none⟩ = some (.int .i64 i) := by rw [Lib.cell_of_heap ho5]; rfl
  have o1 : w5.cell? ⟨w.heap.size + 1, 1, none⟩ = some (.int .i64 s) := by rw [Lib.cell_of_heap ho5]; rfl
  have o2 : w5.cell? ⟨w.heap.size + 1, 2, none⟩ = some (.int .i64 ex) := by rw [Lib.cell_of_heap ho5]; rfl
  have o3 : w5.cell? ⟨w.heap.size + 1, 3, none⟩ = some (.int .i64 k) := by rw [Lib.cell_of_heap ho5]; rfl
  have o4 : w5.cell? ⟨w.heap.size + 1, 4, none⟩ = some (.int .i64 a) := by rw [Lib.cell_of_heap ho5]; rfl
  go_wp2_with fail
  refine (HC.out _).mono ?_
  rintro e w6 ⟨rfl, hb⟩
  have hs6 := (hb.block (w.heap.size) (by omega)).trans hs5
  have ho6 := (hb.block (w.heap.size + 1) (by omega)).trans ho5
  have hn6 := (hb.block (w.heap.size + 1 + 1) (by omega)).trans hn5
  have hb6 : Below w.heap.size w w6 := hb5.trans (hb.mono (by omega))
  have hz6 : w5.heap.size ≤ w6.heap.size := hb.size
  clear hb
  clear o0 o1 o2 o3 o4
  have a0 : w6.cell? ⟨w.heap.size, 0, none⟩ = some (.int .i64 t) := by rw [Lib.cell_of_heap hs6]; rfl
  have a1 : w6.cell? ⟨w.heap.size, 1, none⟩ = some (.bool c) := by rw [Lib.cell_of_heap hs6]; rfl
  have a2 : w6.cell? ⟨w.heap.size, 2, none⟩ = some (.int .i64 x) := by rw [Lib.cell_of_heap hs6]; rfl
  have a3 : w6.cell? ⟨w.heap.size, 3, none⟩ = some (.int .i64 v) := by rw [Lib.cell_of_heap hs6]; rfl
  have o0 : w6.cell? ⟨w.heap.size + 1, 0, none⟩ = some (.int .i64 i) := by rw [Lib.cell_of_heap ho6]; rfl
  have o1 : w6.cell? ⟨w.heap.size + 1, 1, none⟩ = some (.int .i64 s) := by rw [Lib.cell_of_heap ho6]; rfl
  have o2 : w6.cell? ⟨w.heap.size + 1, 2, none⟩ = some (.int .i64 ex) := by rw [Lib.cell_of_heap ho6]; rfl
  have o3 : w6.cell? ⟨w.heap.size + 1, 3, none⟩ = some (.int .i64 k) := by rw [Lib.cell_of_heap ho6]; rfl
  have o4 : w6.cell? ⟨w.heap.size + 1, 4, none⟩ = some (.int .i64 a) := by rw [Lib.cell_of_heap ho6]; rfl
  have n0 : w6.cell? ⟨w.heap.size + 1 + 1, 0, none⟩ = some (.int .i64 0) := by rw [Lib.cell_of_heap hn6]; rfl
  have n1 : w6.cell? ⟨w.heap.size + 1 + 1, 1, none⟩ = some (.int .i64 0) := by rw [Lib.cell_of_heap hn6]; rfl
  have n2 : w6.cell? ⟨w.heap.size + 1 + 1, 2, none⟩ = some (.slice none 0 0) := by rw [Lib.cell_of_heap hn6]; rfl
  have nf : ∀ i, w6.frozen? ⟨w.heap.size + 1 + 1, i, none⟩ = false := fun i => Lib.frozen_of_heap hn6 i
  go_wp2_with (fail)
  (try simp only [Exit.inBlock, Exit.then]); refine bodyPost_ret (results_cell_row rfl _ _ (w.heap.size + 1 + 1) 33 #[.int .i64 2, .int .i64 v, .slice none 0 0] (0, 0) _ rfl (heap_setCell_same _ _ 2 _ _ _ (heap_setCell_same _ _ 1 _ _ _ (heap_setCell_same _ _ 0 _ _ _ hn6))) Tryd.underlying33 rfl (by kernel_rfl)) rfl ?_
  exact ⟨_, rfl, .inl ⟨rfl, rfl⟩, by repeat' (first | (with_reducible assumption) | (with_reducible exact Below.refl _ _) | (with_reducible refine below_drewN ?_ _) | (with_reducible refine Below.drew ?_) | (with_reducible refine Below.alloc ?_ ?_ _) | (with_reducible refine Below.setCell ?_ ?_ _) | go_size)⟩
set_option maxRecDepth 100000 in
set_option maxHeartbeats 2000000 in
theorem rdec_rej0c (t : Int) (c : Bool) (x v i s ex a : Int) (w : World) (HM : Hid (∀ X : World, Calls Tryd.prog 30 #[.agg #[.int .i64 t, .bool c, .int .i64 x, .int .i64 v]] X (NumPost (.bool true) X))) (HC : Hid (∀ X : World, Calls Tryd.prog 31 #[.agg #[.int .i64 i, .int .i64 s, .int .i64 ex, .int .i64 4, .int .i64 a]] X (NumPost (.bool true) X))) (HB : Hid (∀ X : World, Calls Tryd.prog 32 #[.agg #[.int .i64 t, .bool c, .int .i64 x, .int .i64 v], .agg #[.int .i64 4, .int .i64 0]] X (NumPost (.bool false) X))) (h0 : decide (0 ≤ ex) = false) :
    Calls Tryd.prog 23 #[.agg #[.int .i64 t, .bool c, .int .i64 x, .int .i64 v], .agg #[.int .i64 i, .int .i64 s, .int .i64 ex, .int .i64 4, .int .i64 a]] w (DecPost ⟨3, v, []⟩ w) := by
  obtain ⟨w4, HW⟩ : ∃ w4, Hid (w4 = ((w.alloc (.cells #[.int .i64 t, .bool c, .int .i64 x, .int .i64 v] 25)).alloc (.cells #[.int .i64 i, .int .i64 s, .int .i64 ex, .int .i64 4, .int .i64 a] 43)).alloc (.cells #[.int .i64 0, .int .i64 0, .slice none 0 0] 33)) := ⟨_, Lib.hid rfl⟩
  obtain ⟨hz4, hb4, hs4, ho4, hn4⟩ := three_blocks HW.out
  go_enter Tryd.func23, Tryd.ntmps23
  go_wp2_with fail
  rw [← HW.out]
  refine (HM.out _).mono ?_
  rintro e w5 ⟨rfl, hb⟩
  have hs5 := (hb.block (w.heap.size) (by omega)).trans hs4
  have ho5 := (hb.block (w.heap.size + 1) (by omega)).trans ho4
  have hn5 := (hb.block (w.heap.size + 1 + 1) (by omega)).trans hn4
  have hb5 : Below w.heap.size w w5 := hb4.trans (hb.mono (by omega))
  have hz5 : w4.heap.size ≤ w5.heap.size := hb.size
  clear hb
  have o0 : w5.cell? ⟨w.heap.size + 1, 0, none⟩ = some (.int .i64 i) := by rw [Lib.cell_of_heap ho5]; rfl
  have o1 : w5.cell? ⟨w.heap.size + 1, 1, none⟩ = some (.int .i64 s) := by rw [Lib.cell_of_heap ho5]; rfl
  have o2 : w5.cell? ⟨w.heap.size + 1, 2, none⟩ = some (.int .i64 ex) := by rw [Lib.cell_of_heap ho5]; rfl
  have o3 : w5.cell? ⟨w.heap.size + 1, 3, none⟩ = some (.int .i64 4) := by rw [Lib.cell_of_heap ho5]; rfl
  have o4 : w5.cell? ⟨w.heap.size + 1, 4, none⟩ = some (.int .i64 a) := by rw [Lib.cell_of_heap ho5]; rfl
  go_wp2_with fail
  refine (HC.out _).mono ?_
  rintro e w6 ⟨rfl, hb⟩
  have hs6 := (hb.block (w.heap.size) (by omega)).trans hs5
  have ho6 := (hb.block (w.heap.size + 1) (by omega)).trans ho5
  have hn6 := (hb.block (w.heap.size + 1 + 1) (by omega)).trans hn5
  have hb6 : Below w.heap.size w w6 := hb5.trans (hb.mono (by omega))
  have hz6 : w5.heap.size ≤ w6.heap.size := hb.size
  clear hb
  clear o0 o1 o2 o3 o4
  have a0 : w6.cell? ⟨w.heap.size, 0, none⟩ = some (.int .i64 t) := by rw [Lib.cell_of_heap hs6]; rfl
  have a1 : w6.cell? ⟨w.heap.size, 1, none⟩ = some (.bool c) := by rw [Lib.cell_of_heap hs6]; rfl
  have a2 : w6.cell? ⟨w.heap.size, 2, none⟩ = some (.int .i64 x) := by rw [Lib.cell_of_heap hs6]; rfl
  have a3 : w6.cell? ⟨w.heap.size, 3, none⟩ = some (.int .i64 v) := by rw [Lib.cell_of_heap hs6]; rfl
  have o0 : w6.cell? ⟨w.heap.size + 1, 0, none⟩ = some (.int .i64 i) := by rw [Lib.cell_of_heap ho6]; rfl
  have o1 : w6.cell? ⟨w.heap.size + 1, 1, none⟩ = some (.int .i64 s) := by rw [Lib.cell_of_heap ho6]; rfl
  have o2 : w6.cell? ⟨w.heap.size + 1, 2, none⟩ = some (.int .i64 ex) := by rw [Lib.cell_of_heap ho6]; rfl
  have o3 : w6.cell? ⟨w.heap.size + 1, 3, none⟩ = some (.int .i64 4) := by rw [Lib.cell_of_heap ho6]; rfl
  have o4 : w6.cell? ⟨w.heap.size + 1, 4, none⟩ = some (.int .i64 a) := by rw [Lib.cell_of_heap ho6]; rfl
  have hl0 : w.heap.size < w6.heap.size := by omega
  have hl1 : w.heap.size + 1 < w6.heap.size := by omega
  obtain ⟨w7, HX7⟩ : ∃ W, Hid (W = w6.alloc (.cells #[.int .i64 4, .int .i64 0] 35)) := ⟨_, Lib.hid rfl⟩
  have hb : Below w6.heap.size w6 w7 := by rw [HX7.out]; exact (Below.refl _ _).alloc (Nat.le_refl _) _
  have he7 : w7.heap[w6.heap.size]? = some (.cells #[.int .i64 4, .int .i64 0] 35 (0, 0)) := by rw [HX7.out]; exact heap_alloc_new _ _
  have hy7 : w7.heap.size = w6.heap.size + 1 := by rw [HX7.out]; simp
  have hs7 := (hb.block (w.heap.size) (by omega)).trans hs6
  have ho7 := (hb.block (w.heap.size + 1) (by omega)).trans ho6
  have hn7 := (hb.block (w.heap.size + 1 + 1) (by omega)).trans hn6
  have hb7 : Below w.heap.size w w7 := hb6.trans (hb.mono (by omega))
  have hz7 : w6.heap.size ≤ w7.heap.size := hb.size
  clear hb
  go_wp2_with fail
  rw [← HX7.out]
  refine (HB.out _).mono ?_
  rintro e w8 ⟨rfl, hb⟩
  clear a0 a1 a2 a3 o0 o1 o2 o3 o4 hl0 hl1
  have hs8 := (hb.block (w.heap.size) (by omega)).trans hs7
  have ho8 := (hb.block (w.heap.size + 1) (by omega)).trans ho7
  have hn8 := (hb.block (w.heap.size + 1 + 1) (by omega)).trans hn7
  have he8 := (hb.block (w6.heap.size) (by omega)).trans he7
  have hb8 : Below w.heap.size w w8 := hb7.trans (hb.mono (by omega))
  have hz8 : w7.heap.size ≤ w8.heap.size := hb.size
  clear hb
  have a3 : w8.cell? ⟨w.heap.size, 3, none⟩ = some (.int .i64 v) := by rw [Lib.cell_of_heap hs8]; rfl
  have n0 : w8.cell? ⟨w.heap.size + 1 + 1, 0, none⟩ = some (.int .i64 0) := by rw [Lib.cell_of_heap hn8]; rfl
  have n1 : w8.cell? ⟨w.heap.size + 1 + 1, 1, none⟩ = some (.int .i64 0) := by rw [Lib.cell_of_heap hn8]; rfl
  have n2 : w8.cell? ⟨w.heap.size + 1 + 1, 2, none⟩ = some (.slice none 0 0) := by rw [Lib.cell_of_heap hn8]; rfl
  have nf : ∀ i, w8.frozen? ⟨w.heap.size + 1 + 1, i, none⟩ = false := fun i => Lib.frozen_of_heap hn8 i
  go_wp2_with (fail)
  (try simp only [Exit.inBlock, Exit.then]); refine bodyPost_ret (results_cell_row rfl _ _ (w.heap.size + 1 + 1) 33 #[.int .i64 3, .int .i64 v, .slice none 0 0] (0, 0) _ rfl (heap_setCell_same _ _ 2 _ _ _ (heap_setCell_same _ _ 1 _ _ _ (heap_setCell_same _ _ 0 _ _ _ hn8))) Tryd.underlying33 rfl (by kernel_rfl)) rfl ?_
  exact ⟨_, rfl, .inl ⟨rfl, rfl⟩, by repeat' (first | (with_reducible assumption) | (with_reducible exact Below.refl _ _) | (with_reducible refine below_drewN ?_ _) | (with_reducible refine Below.drew ?_) | (with_reducible refine Below.alloc ?_ ?_ _) | (with_reducible refine Below.setCell ?_ ?_ _) | go_size)⟩
set_option maxRecDepth 100000 in
set_option maxHeartbeats 2000000 in
theorem rdec_acc0c (t : Int) (c : Bool) (x v i s ex a : Int) (w : World) (HM : Hid (∀ X : World, Calls Tryd.prog 30 #[.agg #[.int .i64 t, .bool c, .int .i64 x, .int .i64 v]] X (NumPost (.bool true) X))) (HC : Hid (∀ X : World, Calls Tryd.prog 31 #[.agg #[.int .i64 i, .int .i64 s, .int .i64 ex, .int .i64 4, .int .i64 a]] X (NumPost (.bool true) X))) (HB : Hid (∀ X : World, Calls Tryd.prog 32 #[.agg #[.int .i64 t, .bool c, .int .i64 x, .int .i64 v], .agg #[.int .i64 4, .int .i64 0]] X (NumPost (.bool true) X))) (h0 : decide (0 ≤ ex) = false) (hv0 : 0 ≤ v) (hv1 : v < 1099511627776) :
    Calls Tryd.prog 23 #[.agg #[.int .i64 t, .bool c, .int .i64 x, .int .i64 v], .agg #[.int .i64 i, .int .i64 s, .int .i64 ex, .int .i64 4, .int .i64 a]] w (DecPost ⟨1, (v + 1), [⟨4, 0⟩]⟩ w) := by
  obtain ⟨w4, HW⟩ : ∃ w4, Hid (w4 = ((w.alloc (.cells #[.int .i64 t, .bool c, .int .i64 x, .int .i64 v] 25)).alloc (.cells #[.int .i64 i, .int .i64 s, .int .i64 ex, .int .i64 4, .int .i64 a] 43)).alloc (.cells #[.int .i64 0, .int .i64 0, .slice none 0 0] 33)) := ⟨_, Lib.hid rfl⟩
  obtain ⟨hz4, hb4, hs4, ho4, hn4⟩ := three_blocks HW.out
  go_enter Tryd.func23, Tryd.ntmps23
  go_wp2_with fail
  rw [← HW.out]
  refine (HM.out _).mono ?_
  rintro e w5 ⟨rfl, hb⟩
  have hs5 := (hb.block (w.heap.size) (by omega)).trans hs4
  have ho5 := (hb.block (w.heap.size + 1) (by omega)).trans ho4
  have hn5 := (hb.block (w.heap.size + 1 + 1) (by omega)).trans hn4
  have hb5 : Below w.heap.size w w5 := hb4.trans (hb.mono (by omega))
  have hz5 : w4.heap.size ≤ w5.heap.size := hb.size
  clear hb
  have o0 : w5.cell? ⟨w.heap.size + 1, 0, none⟩ = some (.int .i64 i) := by rw [Lib.cell_of_heap ho5]; rfl
  have o1 : w5.cell? ⟨w.heap.size + 1, 1, none⟩ = some (.int .i64 s) := by rw [Lib.cell_of_heap ho5]; rfl
  have o2 : w5.cell? ⟨w.heap.size + 1, 2, none⟩ = some (.int .i64 ex) := by rw [Lib.cell_of_heap ho5]; rfl
  have o3 : w5.cell? ⟨w.heap.size + 1, 3, none⟩ = some (.int .i64 4) := by rw [Lib.cell_of_heap ho5]; rfl
  have o4 : w5.cell? ⟨w.heap.size + 1, 4, none⟩ = some (.int .i64 a) := by rw [Lib.cell_of_heap ho5]; rfl
  go_wp2_with fail
  refine (HC.out _).mono ?_
  rintro e w6 ⟨rfl, hb⟩
  have hs6 := (hb.block (w.heap.size) (by omega)).trans hs5
  have ho6 := (hb.block (w.heap.size + 1) (by omega)).trans ho5
  have hn6 := (hb.block (w.heap.size + 1 + 1) (by omega)).trans hn5
  have hb6 : Below w.heap.size w w6 := hb5.trans (hb.mono (by omega))
  have hz6 : w5.heap.size ≤ w6.heap.size := hb.size
  clear hb
  clear o0 o1 o2 o3 o4
  have a0 : w6.cell? ⟨w.heap.size, 0, none⟩ = some (.int .i64 t) := by rw [Lib.cell_of_heap hs6]; rfl
  have a1 : w6.cell? ⟨w.heap.size, 1, none⟩ = some (.bool c) := by rw [Lib.cell_of_heap hs6]; rfl
  have a2 : w6.cell? ⟨w.heap.size, 2, none⟩ = some (.int .i64 x) := by rw [Lib.cell_of_heap hs6]; rfl
  have a3 : w6.cell? ⟨w.heap.size, 3, none⟩ = some (.int .i64 v) := by rw [Lib.cell_of_heap hs6]; rfl
  have o0 : w6.cell? ⟨w.heap.size + 1, 0, none⟩ = some (.int .i64 i) := by rw [Lib.cell_of_heap ho6]; rfl
  have o1 : w6.cell? ⟨w.heap.size + 1, 1, none⟩ = some (.int .i64 s) := by rw [Lib.cell_of_heap ho6]; rfl
  have o2 : w6.cell? ⟨w.heap.size + 1, 2, none⟩ = some (.int .i64 ex) := by rw [Lib.cell_of_heap ho6]; rfl
  have o3 : w6.cell? ⟨w.heap.size + 1, 3, none⟩ = some (.int .i64 4) := by rw [Lib.cell_of_heap ho6]; rfl
  have o4 : w6.cell? ⟨w.heap.size + 1, 4, none⟩ = some (.int .i64 a) := by rw [Lib.cell_of_heap ho6]; rfl
  have hl0 : w.heap.size < w6.heap.size := by omega
  have hl1 : w.heap.size + 1 < w6.heap.size := by omega
  obtain ⟨w7, HX7⟩ : ∃ W, Hid (W = w6.alloc (.cells #[.int .i64 4, .int .i64 0] 35)) := ⟨_, Lib.hid rfl⟩
  have hb : Below w6.heap.size w6 w7 := by rw [HX7.out]; exact (Below.refl _ _).alloc (Nat.le_refl _) _
  have he7 : w7.heap[w6.heap.size]? = some (.cells #[.int .i64 4, .int .i64 0] 35 (0, 0)) := by rw [HX7.out]; exact heap_alloc_new _ _
  have hy7 : w7.heap.size = w6.heap.size + 1 := by rw [HX7.out]; simp
  have hs7 := (hb.block (w.heap.size) (by omega)).trans hs6
  have ho7 := (hb.block (w.heap.size + 1) (by omega)).trans ho6
  have hn7 := (hb.block (w.heap.size + 1 + 1) (by omega)).trans hn6
  have hb7 : Below w.heap.size w w7 := hb6.trans (hb.mono (by omega))
  have hz7 : w6.heap.size ≤ w7.heap.size := hb.size
  clear hb
  go_wp2_with fail
  rw [← HX7.out]
  refine (HB.out _).mono ?_
  rintro e w8 ⟨rfl, hb⟩
  clear a0 a1 a2 a3 o0 o1 o2 o3 o4 hl0 hl1
  have hs8 := (hb.block (w.heap.size) (by omega)).trans hs7
  have ho8 := (hb.block (w.heap.size + 1) (by omega)).trans ho7
  have hn8 := (hb.block (w.heap.size + 1 + 1) (by omega)).trans hn7
  have he8 := (hb.block (w6.heap.size) (by omega)).trans he7
  have hb8 : Below w.heap.size w w8 := hb7.trans (hb.mono (by omega))
  have hz8 : w7.heap.size ≤ w8.heap.size := hb.size
  clear hb
  have a3 : w8.cell? ⟨w.heap.size, 3, none⟩ = some (.int .i64 v) := by rw [Lib.cell_of_heap hs8]; rfl
  have b0 : w8.cell? ⟨w6.heap.size, 0, none⟩ = some (.int .i64 4) := by rw [Lib.cell_of_heap he8]; rfl
  have b1 : w8.cell? ⟨w6.heap.size, 1, none⟩ = some (.int .i64 0) := by rw [Lib.cell_of_heap he8]; rfl
  obtain ⟨w9, HX9⟩ : ∃ W, Hid (W = w8.alloc (.cells #[.int .i64 4, .int .i64 0] 35)) := ⟨_, Lib.hid rfl⟩
  have hb : Below w8.heap.size w8 w9 := by rw [HX9.out]; exact (Below.refl _ _).alloc (Nat.le_refl _) _
  have hg9 : w9.heap[w8.heap.size]? = some (.cells #[.int .i64 4, .int .i64 0] 35 (0, 0)) := by rw [HX9.out]; exact heap_alloc_new _ _
  have hy9 : w9.heap.size = w8.heap.size + 1 := by rw [HX9.out]; simp
  have hs9 := (hb.block (w.heap.size) (by omega)).trans hs8
  have ho9 := (hb.block (w.heap.size + 1) (by omega)).trans ho8
  have hn9 := (hb.block (w.heap.size + 1 + 1) (by omega)).trans hn8
  have he9 := (hb.block (w6.heap.size) (by omega)).trans he8
  have hb9 : Below w.heap.size w w9 := hb8.trans (hb.mono (by omega))
  have hz9 : w8.heap.size ≤ w9.heap.size := hb.size
  clear hb
  have n0 : w9.cell? ⟨w.heap.size + 1 + 1, 0, none⟩ = some (.int .i64 0) := by rw [Lib.cell_of_heap hn9]; rfl
  have n1 : w9.cell? ⟨w.heap.size + 1 + 1, 1, none⟩ = some (.int .i64 0) := by rw [Lib.cell_of_heap hn9]; rfl
  have n2 : w9.cell? ⟨w.heap.size + 1 + 1, 2, none⟩ = some (.slice none 0 0) := by rw [Lib.cell_of_heap hn9]; rfl
  have nf : ∀ i, w9.frozen? ⟨w.heap.size + 1 + 1, i, none⟩ = false := fun i => Lib.frozen_of_heap hn9 i
  go_wp2_with (rw [← HX9.out])
  (try simp only [Exit.inBlock, Exit.then]); refine bodyPost_ret (results_cell_row rfl _ _ (w.heap.size + 1 + 1) 33 #[.int .i64 1, .int .i64 (v + 1), .slice (some ⟨w8.heap.size, 0, none⟩) 1 1] (0, 0) _ rfl (heap_setCell_same _ _ 2 _ _ _ (heap_setCell_same _ _ 1 _ _ _ (heap_setCell_same _ _ 0 _ _ _ hn9))) Tryd.underlying33 rfl (by kernel_rfl)) rfl ?_
  refine ⟨_, rfl, .inr ⟨⟨4, 0⟩, w8.heap.size, rfl, rfl, by omega, ?_⟩, by repeat' (first | (with_reducible assumption) | (with_reducible exact Below.refl _ _) | (with_reducible refine below_drewN ?_ _) | (with_reducible refine Below.drew ?_) | (with_reducible refine Below.alloc ?_ ?_ _) | (with_reducible refine Below.setCell ?_ ?_ _) | go_size)⟩
  exact (Below.heap_setCell _ _ _ _ (by show w8.heap.size ≠ w.heap.size + 1 + 1; omega)).trans ((Below.heap_setCell _ _ _ _ (by show w8.heap.size ≠ w.heap.size + 1 + 1; omega)).trans ((Below.heap_setCell _ _ _ _ (by show w8.heap.size ≠ w.heap.size + 1 + 1; omega)).trans hg9))
set_option maxRecDepth 100000 in
set_option maxHeartbeats 2000000 in
theorem rdec_rej0e (t : Int) (c : Bool) (x v i s ex k a : Int) (w : World) (HM : Hid (∀ X : World, Calls Tryd.prog 30 #[.agg #[.int .i64 t, .bool c, .int .i64 x, .int .i64 v]] X (NumPost (.bool true) X))) (HC : Hid (∀ X : World, Calls Tryd.prog 31 #[.agg #[.int .i64 i, .int .i64 s, .int .i64 ex, .int .i64 k, .int .i64 a]] X (NumPost (.bool true) X))) (HB : Hid (∀ X : World, Calls Tryd.prog 32 #[.agg #[.int .i64 t, .bool c, .int .i64 x, .int .i64 v], .agg #[.int .i64 k, .int .i64 a]] X (NumPost (.bool false) X))) (h0 : decide (0 ≤ ex) = false) (hk : (k == 4) = false) :
    Calls Tryd.prog 23 #[.agg #[.int .i64 t, .bool c, .int .i64 x, .int .i64 v], .agg #[.int .i64 i, .int .i64 s, .int .i64 ex, .int .i64 k, .int .i64 a]] w (DecPost ⟨3, v, []⟩ w) := by
  obtain ⟨w4, HW⟩ : ∃ w4, Hid (w4 = ((w.alloc (.cells #[.int .i64 t, .bool c, .int .i64 x, .int .i64 v] 25)).alloc (.cells #[.int .i64 i, .int .i64 s, .int .i64 ex, .int .i64 k, .int .i64 a] 43)).alloc (.cells #[.int .i64 0, .int .i64 0, .slice none 0 0] 33)) := ⟨_, Lib.hid rfl⟩
  obtain ⟨hz4, hb4, hs4, ho4, hn4⟩ := three_blocks HW.out
  go_enter Tryd.func23, Tryd.ntmps23
  go_wp2_with fail
  rw [← HW.out]
  refine (HM.out _).mono ?_
  rintro e w5 ⟨rfl, hb⟩
  have hs5 := (hb.block (w.heap.size) (by omega)).trans hs4
  have ho5 := (hb.block (w.heap.size + 1) (by omega)).trans ho4
  have hn5 := (hb.block (w.heap.size + 1 + 1) (by omega)).trans hn4
  have hb5 : Below w.heap.size w w5 := hb4.trans (hb.mono (by omega))
  have hz5 : w4.heap.size ≤ w5.heap.size := hb.size
  clear hb
  have o0 : w5.cell? ⟨w.heap.size + 1, 0, none⟩ = some (.int .i64 i) := by rw [Lib.cell_of_heap ho5]; rfl
  have o1 : w5.cell? ⟨w.heap.size + 1, 1, none⟩ = some (.int .i64 s) := by rw [Lib.cell_of_heap ho5]; rfl
  have o2 : w5.cell? ⟨w.heap.size + 1, 2, none⟩ = some (.int .i64 ex) := by rw [Lib.cell_of_heap ho5]; rfl
  have o3 : w5.cell? ⟨w.heap.size + 1, 3, none⟩ = some (.int .i64 k) := by rw [Lib.cell_of_heap ho5]; rfl
  have o4 : w5.cell? ⟨w.heap.size + 1, 4, none⟩ = some (.int .i64 a) := by rw [Lib.cell_of_heap ho5]; rfl
  go_wp2_with fail
  refine (HC.out _).mono ?_
  rintro e w6 ⟨rfl, hb⟩
  have hs6 := (hb.block (w.heap.size) (by omega)).trans hs5
  have ho6 := (hb.block (w.heap.size + 1) (by omega)).trans ho5
  have hn6 := (hb.block (w.heap.size + 1 + 1) (by omega)).trans hn5
  have hb6 : Below w.heap.size w w6 := hb5.trans (hb.mono (by omega))
  have hz6 : w5.heap.size ≤ w6.heap.size := hb.size
  clear hb
  clear o0 o1 o2 o3 o4
  have a0 : w6.cell? ⟨w.heap.size, 0, none⟩ = some (.int .i64 t) := by rw [Lib.cell_of_heap hs6]; rfl
  have a1 : w6.cell? ⟨w.heap.size, 1, none⟩ = some (.bool c) := by rw [Lib.cell_of_heap hs6]; rfl
  have a2 : w6.cell? ⟨w.heap.size, 2, none⟩ = some (.int .i64 x) := by rw [Lib.cell_of_heap hs6]; rfl
  have a3 : w6.cell? ⟨w.heap.size, 3, none⟩ = some (.int .i64 v) := by rw [Lib.cell_of_heap hs6]; rfl
  have o0 : w6.cell? ⟨w.heap.size + 1, 0, none⟩ = some (.int .i64 i) := by rw [Lib.cell_of_heap ho6]; rfl
  have o1 : w6.cell? ⟨w.heap.size + 1, 1, none⟩ = some (.int .i64 s) := by rw [Lib.cell_of_heap ho6]; rfl
  have o2 : w6.cell? ⟨w.heap.size + 1, 2, none⟩ = some (.int .i64 ex) := by rw [Lib.cell_of_heap ho6]; rfl
  have o3 : w6.cell? ⟨w.heap.size + 1, 3, none⟩ = some (.int .i64 k) := by rw [Lib.cell_of_heap ho6]; rfl
  have o4 : w6.cell? ⟨w.heap.size + 1, 4, none⟩ = some (.int .i64 a) := by rw [Lib.cell_of_heap ho6]; rfl
  have hl0 : w.heap.size < w6.heap.size := by omega
  have hl1 : w.heap.size + 1 < w6.heap.size := by omega
  obtain ⟨w7, HX7⟩ : ∃ W, Hid (W = w6.alloc (.cells #[.int .i64 k, .int .i64 a] 35)) := ⟨_, Lib.hid rfl⟩
  have hb : Below w6.heap.size w6 w7 := by rw [HX7.out]; exact (Below.refl _ _).alloc (Nat.le_refl _) _
  have he7 : w7.heap[w6.heap.size]? = some (.cells #[.int .i64 k, .int .i64 a] 35 (0, 0)) := by rw [HX7.out]; exact heap_alloc_new _ _
  have hy7 : w7.heap.size = w6.heap.size + 1 := by rw [HX7.out]; simp
  have hs7 := (hb.block (w.heap.size) (by omega)).trans hs6
  have ho7 := (hb.block (w.heap.size + 1) (by omega)).trans ho6
  have hn7 := (hb.block (w.heap.size + 1 + 1) (by omega)).trans hn6
  have hb7 : Below w.heap.size w w7 := hb6.trans (hb.mono (by omega))
  have hz7 : w6.heap.size ≤ w7.heap.size := hb.size
  clear hb
  go_wp2_with fail
  rw [← HX7.out]
  refine (HB.out _).mono ?_
  rintro e w8 ⟨rfl, hb⟩
  clear a0 a1 a2 a3 o0 o1 o2 o3 o4 hl0 hl1
  have hs8 := (hb.block (w.heap.size) (by omega)).trans hs7
  have ho8 := (hb.block (w.heap.size + 1) (by omega)).trans ho7
  have hn8 := (hb.block (w.heap.size + 1 + 1) (by omega)).trans hn7
  have he8 := (hb.block (w6.heap.size) (by omega)).trans he7
  have hb8 : Below w.heap.size w w8 := hb7.trans (hb.mono (by omega))
  have hz8 : w7.heap.size ≤ w8.heap.size := hb.size
  clear hb
  have a3 : w8.cell? ⟨w.heap.size, 3, none⟩ = some (.int .i64 v) := by rw [Lib.cell_of_heap hs8]; rfl
  have n0 : w8.cell? ⟨w.heap.size + 1 + 1, 0, none⟩ = some (.int .i64 0) := by rw [Lib.cell_of_heap hn8]; rfl
  have n1 : w8.cell? ⟨w.heap.size + 1 + 1, 1, none⟩ = some (.int .i64 0) := by rw [Lib.cell_of_heap hn8]; rfl
  have n2 : w8.cell? ⟨w.heap.size + 1 + 1, 2, none⟩ = some (.slice none 0 0) := by rw [Lib.cell_of_heap hn8]; rfl
  have nf : ∀ i, w8.frozen? ⟨w.heap.size + 1 + 1, i, none⟩ = false := fun i => Lib.frozen_of_heap hn8 i
  go_wp2_with (fail)
  (try simp only [Exit.inBlock, Exit.then]); refine bodyPost_ret (results_cell_row rfl _ _ (w.heap.size + 1 + 1) 33 #[.int .i64 3, .int .i64 v, .slice none 0 0] (0, 0) _ rfl (heap_setCell_same _ _ 2 _ _ _ (heap_setCell_same _ _ 1 _ _ _ (heap_setCell_same _ _ 0 _ _ _ hn8))) Tryd.underlying33 rfl (by kernel_rfl)) rfl ?_
  exact ⟨_, rfl, .inl ⟨rfl, rfl⟩, by repeat' (first | (with_reducible assumption) | (with_reducible exact Below.refl _ _) | (with_reducible refine below_drewN ?_ _) | (with_reducible refine Below.drew ?_) | (with_reducible refine Below.alloc ?_ ?_ _) | (with_reducible refine Below.setCell ?_ ?_ _) | go_size)⟩
set_option maxRecDepth 100000 in
set_option maxHeartbeats 2000000 in
theorem rdec_acc0e (t : Int) (c : Bool) (x v i s ex k a : Int) (w : World) (HM : Hid (∀ X : World, Calls Tryd.prog 30 #[.agg #[.int .i64 t, .bool c, .int .i64 x, .int .i64 v]] X (NumPost (.bool true) X))) (HC : Hid (∀ X : World, Calls Tryd.prog 31 #[.agg #[.int .i64 i, .int .i64 s, .int .i64 ex, .int .i64 k, .int .i64 a]] X (NumPost (.bool true) X))) (HB : Hid (∀ X : World, Calls Tryd.prog 32 #[.agg #[.int .i64 t, .bool c, .int .i64 x, .int .i64 v], .agg #[.int .i64 k, .int .i64 a]] X (NumPost (.bool true) X))) (h0 : decide (0 ≤ ex) = false) (hk : (k == 4) = false) (hv0 : 0 ≤ v) (hv1 : v < 1099511627776) :
    Calls Tryd.prog 23 #[.agg #[.int .i64 t, .bool c, .int .i64 x, .int .i64 v], .agg #[.int .i64 i, .int .i64 s, .int .i64 ex, .int .i64 k, .int .i64 a]] w (DecPost ⟨1, (v + 1), [⟨k, a⟩]⟩ w) := by
  obtain ⟨w4, HW⟩ : ∃ w4, Hid (w4 = ((w.alloc (.cells #[.int .i64 t, .bool c, .int .i64 x, .int .i64 v] 25)).alloc (.cells #[.int .i64 i, .int .i64 s, .int .i64 ex, .int .i64 k, .int .i64 a] 43)).alloc (.cells #[.int .i64 0, .int .i64 0, .slice none 0 0] 33)) := ⟨_, Lib.hid rfl⟩
  obtain ⟨hz4, hb4, hs4, ho4, hn4⟩ := three_blocks HW.out
  go_enter Tryd.func23, Tryd.ntmps23
  go_wp2_with fail
  rw [← HW.out]
  refine (HM.out _).mono ?_
  rintro e w5 ⟨rfl, hb⟩
  have hs5 := (hb.block (w.heap.size) (by omega)).trans hs4
  have ho5 := (hb.block (w.heap.size + 1) (by omega)).trans ho4
  have hn5 := (hb.block (w.heap.size + 1 + 1) (by omega)).trans hn4
  have hb5 : Below w.heap.size w w5 := hb4.trans (hb.mono (by omega))
  have hz5 : w4.heap.size ≤ w5.heap.size := hb.size
  clear hb
  have o0 : w5.cell? ⟨w.heap.size + 1, 0, none⟩ = some (.int .i64 i) := by rw [Lib.cell_of_heap ho5]; rfl
  have o1 : w5.cell? ⟨w.heap.size + 1, 1, none⟩ = some (.int .i64 s) := by rw [Lib.cell_of_heap ho5]; rfl
  have o2 : w5.cell? ⟨w.heap.size + 1, 2, none⟩ = some (.int .i64 ex) := by rw [Lib.cell_of_heap ho5]; rfl
  have o3 : w5.cell? ⟨w.heap.size + 1, 3, none⟩ = some (.int .i64 k) := by rw [Lib.cell_of_heap ho5]; rfl
  have o4 : w5.cell? ⟨w.heap.size + 1, 4, none⟩ = some (.int .i64 a) := by rw [Lib.cell_of_heap ho5]; rfl
  go_wp2_with fail
  refine (HC.out _).mono ?_
  rintro e w6 ⟨rfl, hb⟩
  have hs6 := (hb.block (w.heap.size) (by omega)).trans hs5
  have ho6 := (hb.block (w.heap.size + 1) (by omega)).trans ho5
  have hn6 := (hb.block (w.heap.size + 1 + 1) (by omega)).trans hn5
  have hb6 : Below w.heap.size w w6 := hb5.trans (hb.mono (by omega))
  have hz6 : w5.heap.size ≤ w6.heap.size := hb.size
  clear hb
  clear o0 o1 o2 o3 o4
  have a0 : w6.cell? ⟨w.heap.size, 0, none⟩ = some (.int .i64 t) := by rw [Lib.cell_of_heap hs6]; rfl
  have a1 : w6.cell? ⟨w.heap.size, 1, none⟩ = some (.bool c) := by rw [Lib.cell_of_heap hs6]; rfl
  have a2 : w6.cell? ⟨w.heap.size, 2, none⟩ = some (.int .i64 x) := by rw [Lib.cell_of_heap hs6]; rfl
  have a3 : w6.cell? ⟨w.heap.size, 3, none⟩ = some (.int .i64 v) := by rw [Lib.cell_of_heap hs6]; rfl
  have o0 : w6.cell? ⟨w.heap.size + 1, 0, none⟩ = some (.int .i64 i) := by rw [Lib.cell_of_heap ho6]; rfl
  have o1 : w6.cell? ⟨w.heap.size + 1, 1, none⟩ = some (.int .i64 s) := by rw [Lib.cell_of_heap ho6]; rfl
  have o2 : w6.cell? ⟨w.heap.size + 1, 2, none⟩ = some (.int .i64 ex) := by rw [Lib.cell_of_heap ho6]; rfl
  have o3 : w6.cell? ⟨w.heap.size + 1, 3, none⟩ = some (.int .i64 k) := by rw [Lib.cell_of_heap ho6]; rfl
  have o4 : w6.cell? ⟨w.heap.size + 1, 4, none⟩ = some (.int .i64 a) := by rw [Lib.cell_of_heap ho6]; rfl
  have hl0 : w.heap.size < w6.heap.size := by omega
  have hl1 : w.heap.size + 1 < w6.heap.size := by omega
  obtain ⟨w7, HX7⟩ : ∃ W, Hid (W = w6.alloc (.cells #[.int .i64 k, .int .i64 a] 35)) := ⟨_, Lib.hid rfl⟩
  have hb : Below w6.heap.size w6 w7 := by rw [HX7.out]; exact (Below.refl _ _).alloc (Nat.le_refl _) _
  have he7 : w7.heap[w6.heap.size]? = some (.cells #[.int .i64 k, .int .i64 a] 35 (0, 0)) := by rw [HX7.out]; exact heap_alloc_new _ _
  have hy7 : w7.heap.size = w6.heap.size + 1 := by rw [HX7.out]; simp
  have hs7 := (hb.block (w.heap.size) (by omega)).trans hs6
  have ho7 := (hb.block (w.heap.size + 1) (by omega)).trans ho6
  have hn7 := (hb.block (w.heap.size + 1 + 1) (by omega)).trans hn6
  have hb7 : Below w.heap.size w w7 := hb6.trans (hb.mono (by omega))
  have hz7 : w6.heap.size ≤ w7.heap.size := hb.size
  clear hb
  go_wp2_with fail
  rw [← HX7.out]
  refine (HB.out _).mono ?_
  rintro e w8 ⟨rfl, hb⟩
  clear a0 a1 a2 a3 o0 o1 o2 o3 o4 hl0 hl1
  have hs8 := (hb.block (w.heap.size) (by omega)).trans hs7
  have ho8 := (hb.block (w.heap.size + 1) (by omega)).trans ho7
  have hn8 := (hb.block (w.heap.size + 1 + 1) (by omega)).trans hn7
  have he8 := (hb.block (w6.heap.size) (by omega)).trans he7
  have hb8 : Below w.heap.size w w8 := hb7.trans (hb.mono (by omega))
  have hz8 : w7.heap.size ≤ w8.heap.size := hb.size
  clear hb
  have a3 : w8.cell? ⟨w.heap.size, 3, none⟩ = some (.int .i64 v) := by rw [Lib.cell_of_heap hs8]; rfl
  have b0 : w8.cell? ⟨w6.heap.size, 0, none⟩ = some (.int .i64 k) := by rw [Lib.cell_of_heap he8]; rfl
  have b1 : w8.cell? ⟨w6.heap.size, 1, none⟩ = some (.int .i64 a) := by rw [Lib.cell_of_heap he8]; rfl
  obtain ⟨w9, HX9⟩ : ∃ W, Hid (W = w8.alloc (.cells #[.int .i64 k, .int .i64 a] 35)) := ⟨_, Lib.hid rfl⟩
  have hb : Below w8.heap.size w8 w9 := by rw [HX9.out]; exact (Below.refl _ _).alloc (Nat.le_refl _) _
  have hg9 : w9.heap[w8.heap.size]? = some (.cells #[.int .i64 k, .int .i64 a] 35 (0, 0)) := by rw [HX9.out]; exact heap_alloc_new _ _
  have hy9 : w9.heap.size = w8.heap.size + 1 := by rw [HX9.out]; simp
  have hs9 := (hb.block (w.heap.size) (by omega)).trans hs8
  have ho9 := (hb.block (w.heap.size + 1) (by omega)).trans ho8
  have hn9 := (hb.block (w.heap.size + 1 + 1) (by omega)).trans hn8
  have he9 := (hb.block (w6.heap.size) (by omega)).trans he8
  have hb9 : Below w.heap.size w w9 := hb8.trans (hb.mono (by omega))
  have hz9 : w8.heap.size ≤ w9.heap.size := hb.size
  clear hb
  have n0 : w9.cell? ⟨w.heap.size + 1 + 1, 0, none⟩ = some (.int .i64 0) := by rw [Lib.cell_of_heap hn9]; rfl
  have n1 : w9.cell? ⟨w.heap.size + 1 + 1, 1, none⟩ = some (.int .i64 0) := by rw [Lib.cell_of_heap hn9]; rfl
  have n2 : w9.cell? ⟨w.heap.size + 1 + 1, 2, none⟩ = some (.slice none 0 0) := by rw [Lib.cell_of_heap hn9]; rfl
  have nf : ∀ i, w9.frozen? ⟨w.heap.size + 1 + 1, i, none⟩ = false := fun i => Lib.frozen_of_heap hn9 i
  go_wp2_with (rw [← HX9.out])
  (try simp only [Exit.inBlock, Exit.then]); refine bodyPost_ret (results_cell_row rfl _ _ (w.heap.size + 1 + 1) 33 #[.int .i64 1, .int .i64 (v + 1), .slice (some ⟨w8.heap.size, 0, none⟩) 1 1] (0, 0) _ rfl (heap_setCell_same _ _ 2 _ _ _ (heap_setCell_same _ _ 1 _ _ _ (heap_setCell_same _ _ 0 _ _ _ hn9))) Tryd.underlying33 rfl (by kernel_rfl)) rfl ?_
  refine ⟨_, rfl, .inr ⟨⟨k, a⟩, w8.heap.size, rfl, rfl, by omega, ?_⟩, by repeat' (first | (with_reducible assumption) | (with_reducible exact Below.refl _ _) | (with_reducible refine below_drewN ?_ _) | (with_reducible refine Below.drew ?_) | (with_reducible refine Below.alloc ?_ ?_ _) | (with_reducible refine Below.setCell ?_ ?_ _) | go_size)⟩
  exact (Below.heap_setCell _ _ _ _ (by show w8.heap.size ≠ w.heap.size + 1 + 1; omega)).trans ((Below.heap_setCell _ _ _ _ (by show w8.heap.size ≠ w.heap.size + 1 + 1; omega)).trans ((Below.heap_setCell _ _ _ _ (by show w8.heap.size ≠ w.heap.size + 1 + 1; omega)).trans hg9))
set_option maxRecDepth 100000 in
set_option maxHeartbeats 2000000 in
theorem rdec_rej1c (t : Int) (c : Bool) (x v i s a : Int) (w : World) (HM : Hid (∀ X : World, Calls Tryd.prog 30 #[.agg #[.int .i64 t, .bool c, .int .i64 x, .int .i64 v]] X (NumPost (.bool true) X))) (HC : Hid (∀ X : World, Calls Tryd.prog 31 #[.agg #[.int .i64 i, .int .i64 s, .int .i64 v, .int .i64 4, .int .i64 a]] X (NumPost (.bool true) X))) (HB : Hid (∀ X : World, Calls Tryd.prog 32 #[.agg #[.int .i64 t, .bool c, .int .i64 x, .int .i64 v], .agg #[.int .i64 4, .int .i64 0]] X (NumPost (.bool false) X))) (h0 : decide (0 ≤ v) = true) :
    Calls Tryd.prog 23 #[.agg #[.int .i64 t, .bool c, .int .i64 x, .int .i64 v], .agg #[.int .i64 i, .int .i64 s, .int .i64 v, .int .i64 4, .int .i64 a]] w (DecPost ⟨3, v, []⟩ w) := by
  obtain ⟨w4, HW⟩ : ∃ w4, Hid (w4 = ((w.alloc (.cells #[.int .i64 t, .bool c, .int .i64 x, .int .i64 v] 25)).alloc (.cells #[.int .i64 i, .int .i64 s, .int .i64 v, .int .i64 4, .int .i64 a] 43)).alloc (.cells #[.int .i64 0, .int .i64 0, .slice none 0 0] 33)) := ⟨_, Lib.hid rfl⟩
  obtain ⟨hz4, hb4, hs4, ho4, hn4⟩ := three_blocks HW.out
  go_enter Tryd.func23, Tryd.ntmps23
  go_wp2_with fail
  rw [← HW.out]
  refine (HM.out _).mono ?_
  rintro e w5 ⟨rfl, hb⟩
  have hs5 := (hb.block (w.heap.size) (by omega)).trans hs4
  have ho5 := (hb.block (w.heap.size + 1) (by omega)).trans ho4
  have hn5 := (hb.block (w.heap.size + 1 + 1) (by omega)).trans hn4
  have hb5 : Below w.heap.size w w5 := hb4.trans (hb.mono (by omega))
  have hz5 : w4.heap.size ≤ w5.heap.size := hb.size
  clear hb
  have o0 : w5.cell? ⟨w.heap.size + 1, 0, none⟩ = some (.int .i64 i) := by rw [Lib.cell_of_heap ho5]; rfl
  have o1 : w5.cell? ⟨w.heap.size + 1, 1, none⟩ = some (.int .i64 s) := by rw [Lib.cell_of_heap ho5]; rfl
  have o2 : w5.cell? ⟨w.heap.size + 1, 2, none⟩ = some (.int .i64 v) := by rw [Lib.cell_of_heap ho5]; rfl
  have o3 : w5.cell? ⟨w.heap.size + 1, 3, none⟩ = some (.int .i64 4) := by rw [Lib.cell_of_heap ho5]; rfl
  have o4 : w5.cell? ⟨w.heap.size + 1, 4, none⟩ = some (.int .i64 a) := by rw [Lib.cell_of_heap ho5]; rfl
  go_wp2_with fail
  refine (HC.out _).mono ?_
  rintro e w6 ⟨rfl, hb⟩
  have hs6 := (hb.block (w.heap.size) (by omega)).trans hs5
  have ho6 := (hb.block (w.heap.size + 1) (by omega)).trans ho5
  have hn6 := (hb.block (w.heap.size + 1 + 1) (by omega)).trans hn5
  have hb6 : Below w.heap.size w w6 := hb5.trans (hb.mono (by omega))
  have hz6 : w5.heap.size ≤ w6.heap.size := hb.size
  clear hb
  clear o0 o1 o2 o3 o4
  have a0 : w6.cell? ⟨w.heap.size, 0, none⟩ = some (.int .i64 t) := by rw [Lib.cell_of_heap hs6]; rfl
  have a1 : w6.cell? ⟨w.heap.size, 1, none⟩ = some (.bool c) := by rw [Lib.cell_of_heap hs6]; rfl
  have a2 : w6.cell? ⟨w.heap.size, 2, none⟩ = some (.int .i64 x) := by rw [Lib.cell_of_heap hs6]; rfl
  have a3 : w6.cell? ⟨w.heap.size, 3, none⟩ = some (.int .i64 v) := by rw [Lib.cell_of_heap hs6]; rfl
  have o0 : w6.cell? ⟨w.heap.size + 1, 0, none⟩ = some (.int .i64 i) := by rw [Lib.cell_of_heap ho6]; rfl
  have o1 : w6.cell? ⟨w.heap.size + 1, 1, none⟩ = some (.int .i64 s) := by rw [Lib.cell_of_heap ho6]; rfl
  have o2 : w6.cell? ⟨w.heap.size + 1, 2, none⟩ = some (.int .i64 v) := by rw [Lib.cell_of_heap ho6]; rfl
  have o3 : w6.cell? ⟨w.heap.size + 1, 3, none⟩ = some (.int .i64 4) := by rw [Lib.cell_of_heap ho6]; rfl
  have o4 : w6.cell? ⟨w.heap.size + 1, 4, none⟩ = some (.int .i64 a) := by rw [Lib.cell_of_heap ho6]; rfl
  have hl0 : w.heap.size < w6.heap.size := by omega
  have hl1 : w.heap.size + 1 < w6.heap.size := by omega
  obtain ⟨w7, HX7⟩ : ∃ W, Hid (W = w6.alloc (.cells #[.int .i64 4, .int .i64 0] 35)) := ⟨_, Lib.hid rfl⟩
  have hb : Below w6.heap.size w6 w7 := by rw [HX7.out]; exact (Below.refl _ _).alloc (Nat.le_refl _) _
  have he7 : w7.heap[w6.heap.size]? = some (.cells #[.int .i64 4, .int .i64 0] 35 (0, 0)) := by rw [HX7.out]; exact heap_alloc_new _ _
  have hy7 : w7.heap.size = w6.heap.size + 1 := by rw [HX7.out]; simp
  have hs7 := (hb.block (w.heap.size) (by omega)).trans hs6
  have ho7 := (hb.block (w.heap.size + 1) (by omega)).trans ho6
  have hn7 := (hb.block (w.heap.size + 1 + 1) (by omega)).trans hn6
  have hb7 : Below w.heap.size w w7 := hb6.trans (hb.mono (by omega))
  have hz7 : w6.heap.size ≤ w7.heap.size := hb.size
  clear hb
  go_wp2_with fail
  rw [← HX7.out]
  refine (HB.out _).mono ?_
  rintro e w8 ⟨rfl, hb⟩
  clear a0 a1 a2 a3 o0 o1 o2 o3 o4 hl0 hl1
  have hs8 := (hb.block (w.heap.size) (by omega)).trans hs7
  have ho8 := (hb.block (w.heap.size + 1) (by omega)).trans ho7
  have hn8 := (hb.block (w.heap.size + 1 + 1) (by omega)).trans hn7
  have he8 := (hb.block (w6.heap.size) (by omega)).trans he7
  have hb8 : Below w.heap.size w w8 := hb7.trans (hb.mono (by omega))
  have hz8 : w7.heap.size ≤ w8.heap.size := hb.size
  clear hb
  have a3 : w8.cell? ⟨w.heap.size, 3, none⟩ = some (.int .i64 v) := by rw [Lib.cell_of_heap hs8]; rfl
  have n0 : w8.cell? ⟨w.heap.size + 1 + 1, 0, none⟩ = some (.int .i64 0) := by rw [Lib.cell_of_heap hn8]; rfl
  have n1 : w8.cell? ⟨w.heap.size + 1 + 1, 1, none⟩ = some (.int .i64 0) := by rw [Lib.cell_of_heap hn8]; rfl
  have n2 : w8.cell? ⟨w.heap.size + 1 + 1, 2, none⟩ = some (.slice none 0 0) := by rw [Lib.cell_of_heap hn8]; rfl
  have nf : ∀ i, w8.frozen? ⟨w.heap.size + 1 + 1, i, none⟩ = false := fun i => Lib.frozen_of_heap hn8 i
  go_wp2_with (fail)
  (try simp only [Exit.inBlock, Exit.then]); refine bodyPost_ret (results_cell_row rfl _ _ (w.heap.size + 1 + 1) 33 #[.int .i64 3, .int .i64 v, .slice none 0 0] (0, 0) _ rfl (heap_setCell_same _ _ 2 _ _ _ (heap_setCell_same _ _ 1 _ _ _ (heap_setCell_same _ _ 0 _ _ _ hn8))) Tryd.underlying33 rfl (by kernel_rfl)) rfl ?_
  exact ⟨_, rfl, .inl ⟨rfl, rfl⟩, by repeat' (first | (with_reducible assumption) | (with_reducible exact Below.refl _ _) | (with_reducible refine below_drewN ?_ _) | (with_reducible refine Below.drew ?_) | (with_reducible refine Below.alloc ?_ ?_ _) | (with_reducible refine Below.setCell ?_ ?_ _) | go_size)⟩
set_option maxRecDepth 100000 in
set_option maxHeartbeats 2000000 in
theorem rdec_acc1c (t : Int) (c : Bool) (x v i s a : Int) (w : World) (HM : Hid (∀ X : World, Calls Tryd.prog 30 #[.agg #[.int .i64 t, .bool c, .int .i64 x, .int .i64 v]] X (NumPost (.bool true) X))) (HC : Hid (∀ X : World, Calls Tryd.prog 31 #[.agg #[.int .i64 i, .int .i64 s, .int .i64 v, .int .i64 4, .int .i64 a]] X (NumPost (.bool true) X))) (HB : Hid (∀ X : World, Calls Tryd.prog 32 #[.agg #[.int .i64 t, .bool c, .int .i64 x, .int .i64 v], .agg #[.int .i64 4, .int .i64 0]] X (NumPost (.bool true) X))) (hv0 : 0 ≤ v) (hv1 : v < 1099511627776) :
    Calls Tryd.prog 23 #[.agg #[.int .i64 t, .bool c, .int .i64 x, .int .i64 v], .agg #[.int .i64 i, .int .i64 s, .int .i64 v, .int .i64 4, .int .i64 a]] w (DecPost ⟨1, (v + 1), [⟨4, 0⟩]⟩ w) := by
  obtain ⟨w4, HW⟩ : ∃ w4, Hid (w4 = ((w.alloc (.cells #[.int .i64 t, .bool c, .int .i64 x, .int .i64 v] 25)).alloc (.cells #[.int .i64 i, .int .i64 s, .int .i64 v, .int .i64 4, .int .i64 a] 43)).alloc (.cells #[.int .i64 0, .int .i64 0, .slice none 0 0] 33)) := ⟨_, Lib.hid rfl⟩
  obtain ⟨hz4, hb4, hs4, ho4, hn4⟩ := three_blocks HW.out
  go_enter Tryd.func23, Tryd.ntmps23
  go_wp2_with fail
  rw [← HW.out]
  refine (HM.out _).mono ?_
  rintro e w5 ⟨rfl, hb⟩
  have hs5 := (hb.block (w.heap.size) (by omega)).trans hs4
  have ho5 := (hb.block (w.heap.size + 1) (by omega)).trans ho4
  have hn5 := (hb.block (w.heap.size + 1 + 1) (by omega)).trans hn4
  have hb5 : Below w.heap.size w w5 := hb4.trans (hb.mono (by omega))
  have hz5 : w4.heap.size ≤ w5.heap.size := hb.size
  clear hb
  have o0 : w5.cell? ⟨w.heap.size + 1, 0, none⟩ = some (.int .i64 i) := by rw [Lib.cell_of_heap ho5]; rfl
  have o1 : w5.cell? ⟨w.heap.size + 1, 1, none⟩ = some (.int .i64 s) := by rw [Lib.cell_of_heap ho5]; rfl
  have o2 : w5.cell? ⟨w.heap.size + 1, 2, none⟩ = some (.int .i64 v) := by rw [Lib.cell_of_heap ho5]; rfl
  have o3 : w5.cell? ⟨w.heap.size + 1, 3, none⟩ = some (.int .i64 4) := by rw [Lib.cell_of_heap ho5]; rfl
  have o4 : w5.cell? ⟨w.heap.size + 1, 4, none⟩ = some (.int .i64 a) := by rw [Lib.cell_of_heap ho5]; rfl
  go_wp2_with fail
  refine (HC.out _).mono ?_
  rintro e w6 ⟨rfl, hb⟩
  have hs6 := (hb.block (w.heap.size) (by omega)).trans hs5
  have ho6 := (hb.block (w.heap.size + 1) (by omega)).trans ho5
  have hn6 := (hb.block (w.heap.size + 1 + 1) (by omega)).trans hn5
  have hb6 : Below w.heap.size w w6 := hb5.trans (hb.mono (by omega))
  have hz6 : w5.heap.size ≤ w6.heap.size := hb.size
  clear hb
  clear o0 o1 o2 o3 o4
  have a0 : w6.cell? ⟨w.heap.size, 0, none⟩ = some (.int .i64 t) := by rw [Lib.cell_of_heap hs6]; rfl
  have a1 : w6.cell? ⟨w.heap.size, 1, none⟩ = some (.bool c) := by rw [Lib.cell_of_heap hs6]; rfl
  have a2 : w6.cell? ⟨w.heap.size, 2, none⟩ = some (.int .i64 x) := by rw [Lib.cell_of_heap hs6]; rfl
  have a3 : w6.cell? ⟨w.heap.size, 3, none⟩ = some (.int .i64 v) := by rw [Lib.cell_of_heap hs6]; rfl
  have o0 : w6.cell? ⟨w.heap.size + 1, 0, none⟩ = some (.int .i64 i) := by rw [Lib.cell_of_heap ho6]; rfl
  have o1 : w6.cell? ⟨w.heap.size + 1, 1, none⟩ = some (.int .i64 s) := by rw [Lib.cell_of_heap ho6]; rfl
  have o2 : w6.cell? ⟨w.heap.size + 1, 2, none⟩ = some (.int .i64 v) := by rw [Lib.cell_of_heap ho6]; rfl
  have o3 : w6.cell? ⟨w.heap.size + 1, 3, none⟩ = some (.int .i64 4) := by rw [Lib.cell_of_heap ho6]; rfl
  have o4 : w6.cell? ⟨w.heap.size + 1, 4, none⟩ = some (.int .i64 a) := by rw [Lib.cell_of_heap ho6]; rfl
  have hl0 : w.heap.size < w6.heap.size := by omega
  have hl1 : w.heap.size + 1 < w6.heap.size := by omega
  obtain ⟨w7, HX7⟩ : ∃ W, Hid (W = w6.alloc (.cells #[.int .i64 4, .int .i64 0] 35)) := ⟨_, Lib.hid rfl⟩
  have hb : Below w6.heap.size w6 w7 := by rw [HX7.out]; exact (Below.refl _ _).alloc (Nat.le_refl _) _
  have he7 : w7.heap[w6.heap.size]? = some (.cells #[.int .i64 4, .int .i64 0] 35 (0, 0)) := by rw [HX7.out]; exact heap_alloc_new _ _
  have hy7 : w7.heap.size = w6.heap.size + 1 := by rw [HX7.out]; simp
  have hs7 := (hb.block (w.heap.size) (by omega)).trans hs6
  have ho7 := (hb.block (w.heap.size + 1) (by omega)).trans ho6
  have hn7 := (hb.block (w.heap.size + 1 + 1) (by omega)).trans hn6
  have hb7 : Below w.heap.size w w7 := hb6.trans (hb.mono (by omega))
  have hz7 : w6.heap.size ≤ w7.heap.size := hb.size
  clear hb
  go_wp2_with fail
  rw [← HX7.out]
  refine (HB.out _).mono ?_
  rintro e w8 ⟨rfl, hb⟩
  clear a0 a1 a2 a3 o0 o1 o2 o3 o4 hl0 hl1
  have hs8 := (hb.block (w.heap.size) (by omega)).trans hs7
  have ho8 := (hb.block (w.heap.size + 1) (by omega)).trans ho7
  have hn8 := (hb.block (w.heap.size + 1 + 1) (by omega)).trans hn7
  have he8 := (hb.block (w6.heap.size) (by omega)).trans he7
  have hb8 : Below w.heap.size w w8 := hb7.trans (hb.mono (by omega))
  have hz8 : w7.heap.size ≤ w8.heap.size := hb.size
  clear hb
  have a3 : w8.cell? ⟨w.heap.size, 3, none⟩ = some (.int .i64 v) := by rw [Lib.cell_of_heap hs8]; rfl
  have b0 : w8.cell? ⟨w6.heap.size, 0, none⟩ = some (.int .i64 4) := by rw [Lib.cell_of_heap he8]; rfl
  have b1 : w8.cell? ⟨w6.heap.size, 1, none⟩ = some (.int .i64 0) := by rw [Lib.cell_of_heap he8]; rfl
  obtain ⟨w9, HX9⟩ : ∃ W, Hid (W = w8.alloc (.cells #[.int .i64 4, .int .i64 0] 35)) := ⟨_, Lib.hid rfl⟩
  have hb : Below w8.heap.size w8 w9 := by rw [HX9.out]; exact (Below.refl _ _).alloc (Nat.le_refl _) _
  have hg9 : w9.heap[w8.heap.size]? = some (.cells #[.int .i64 4, .int .i64 0] 35 (0, 0)) := by rw [HX9.out]; exact heap_alloc_new _ _
  have hy9 : w9.heap.size = w8.heap.size + 1 := by rw [HX9.out]; simp
  have hs9 := (hb.block (w.heap.size) (by omega)).trans hs8
  have ho9 := (hb.block (w.heap.size + 1) (by omega)).trans ho8
  have hn9 := (hb.block (w.heap.size + 1 + 1) (by omega)).trans hn8
  have he9 := (hb.block (w6.heap.size) (by omega)).trans he8
  have hb9 : Below w.heap.size w w9 := hb8.trans (hb.mono (by omega))
  have hz9 : w8.heap.size ≤ w9.heap.size := hb.size
  clear hb
  have n0 : w9.cell? ⟨w.heap.size + 1 + 1, 0, none⟩ = some (.int .i64 0) := by rw [Lib.cell_of_heap hn9]; rfl
  have n1 : w9.cell? ⟨w.heap.size + 1 + 1, 1, none⟩ = some (.int .i64 0) := by rw [Lib.cell_of_heap hn9]; rfl
  have n2 : w9.cell? ⟨w.heap.size + 1 + 1, 2, none⟩ = some (.slice none 0 0) := by rw [Lib.cell_of_heap hn9]; rfl
  have nf : ∀ i, w9.frozen? ⟨w.heap.size + 1 + 1, i, none⟩ = false := fun i => Lib.frozen_of_heap hn9 i
  go_wp2_with (rw [← HX9.out])
  (try simp only [Exit.inBlock, Exit.then]); refine bodyPost_ret (results_cell_row rfl _ _ (w.heap.size + 1 + 1) 33 #[.int .i64 1, .int .i64 (v + 1), .slice (some ⟨w8.heap.size, 0, none⟩) 1 1] (0, 0) _ rfl (heap_setCell_same _ _ 2 _ _ _ (heap_setCell_same _ _ 1 _ _ _ (heap_setCell_same _ _ 0 _ _ _ hn9))) Tryd.underlying33 rfl (by kernel_rfl)) rfl ?_
  refine ⟨_, rfl, .inr ⟨⟨4, 0⟩, w8.heap.size, rfl, rfl, by omega, ?_⟩, by repeat' (first | (with_reducible assumption) | (with_reducible exact Below.refl _ _) | (with_reducible refine below_drewN ?_ _) | (with_reducible refine Below.drew ?_) | (with_reducible refine Below.alloc ?_ ?_ _) | (with_reducible refine Below.setCell ?_ ?_ _) | go_size)⟩
  exact (Below.heap_setCell _ _ _ _ (by show w8.heap.size ≠ w.heap.size + 1 + 1; omega)).trans ((Below.heap_setCell _ _ _ _ (by show w8.heap.size ≠ w.heap.size + 1 + 1; omega)).trans ((Below.heap_setCell _ _ _ _ (by show w8.heap.size ≠ w.heap.size + 1 + 1; omega)).trans hg9))
set_option maxRecDepth 100000 in
set_option maxHeartbeats 2000000 in
theorem rdec_rej1e (t : Int) (c : Bool) (x v i s k a : Int) (w : World) (HM : Hid (∀ X : World, Calls Tryd.prog 30 #[.agg #[.int .i64 t, .bool c, .int .i64 x, .int .i64 v]] X (NumPost (.bool true) X))) (HC : Hid (∀ X : World, Calls Tryd.prog 31 #[.agg #[.int .i64 i, .int .i64 s, .int .i64 v, .int .i64 k, .int .i64 a]] X (NumPost (.bool true) X))) (HB : Hid (∀ X : World, Calls Tryd.prog 32 #[.agg #[.int .i64 t, .bool c, .int .i64 x, .int .i64 v], .agg #[.int .i64 k, .int .i64 a]] X (NumPost (.bool false) X))) (h0 : decide (0 ≤ v) = true) (hk : (k == 4) = false) :
    Calls Tryd.prog 23 #[.agg #[.int .i64 t, .bool c, .int .i64 x, .int .i64 v], .agg #[.int .i64 i, .int .i64 s, .int .i64 v, .int .i64 k, .int .i64 a]] w (DecPost ⟨3, v, []⟩ w) := by
  obtain ⟨w4, HW⟩ : ∃ w4, Hid (w4 = ((w.alloc (.cells #[.int .i64 t, .bool c, .int .i64 x, .int .i64 v] 25)).alloc (.cells #[.int .i64 i, .int .i64 s, .int .i64 v, .int .i64 k, .int .i64 a] 43)).alloc (.cells #[.int .i64 0, .int .i64 0, .slice none 0 0] 33)) := ⟨_, Lib.hid rfl⟩
  obtain ⟨hz4, hb4, hs4, ho4, hn4⟩ := three_blocks HW.out
  go_enter Tryd.func23, Tryd.ntmps23
  go_wp2_with fail
  rw [← HW.out]
  refine (HM.out _).mono ?_
  rintro e w5 ⟨rfl, hb⟩
  have hs5 := (hb.block (w.heap.size) (by omega)).trans hs4
  have ho5 := (hb.block (w.heap.size + 1) (by omega)).trans ho4
  have hn5 := (hb.block (w.heap.size + 1 + 1) (by omega)).trans hn4
  have hb5 : Below w.heap.size w w5 := hb4.trans (hb.mono (by omega))
  have hz5 : w4.heap.size ≤ w5.heap.size := hb.size
  clear hb
  have o0 : w5.cell? ⟨w.heap.size + 1, 0, none⟩ = some (.int .i64 i) := by rw [Lib.cell_of_heap ho5]; rfl
  have o1 : w5.cell? ⟨w.heap.size + 1, 1, none⟩ = some (.int .i64 s) := by rw [Lib.cell_of_heap ho5]; rfl
  have o2 : w5.cell? ⟨w.heap.size + 1, 2, none⟩ = some (.int .i64 v) := by rw [Lib.cell_of_heap ho5]; rfl
  have o3 : w5.cell? ⟨w.heap.size + 1, 3, none⟩ = some (.int .i64 k) := by rw [Lib.cell_of_heap ho5]; rfl
  have o4 : w5.cell? ⟨w.heap.size + 1, 4, none⟩ = some (.int .i64 a) := by rw [Lib.cell_of_heap ho5]; rfl
  go_wp2_with fail
  refine (HC.out _).mono ?_
  rintro e w6 ⟨rfl, hb⟩
  have hs6 := (hb.block (w.heap.size) (by omega)).trans hs5
  have ho6 := (hb.block (w.heap.size + 1) (by omega)).trans ho5
  have hn6 := (hb.block (w.heap.size + 1 + 1) (by omega)).trans hn5
  have hb6 : Below w.heap.size w w6 := hb5.trans (hb.mono (by omega))
  have hz6 : w5.heap.size ≤ w6.heap.size := hb.size
  clear hb
  clear o0 o1 o2 o3 o4
  have a0 : w6.cell? ⟨w.heap.size, 0, none⟩ = some (.int .i64 t) := by rw [Lib.cell_of_heap hs6]; rfl
  have a1 : w6.cell? ⟨w.heap.size, 1, none⟩ = some (.bool c) := by rw [Lib.cell_of_heap hs6]; rfl
  have a2 : w6.cell? ⟨w.heap.size, 2, none⟩ = some (.int .i64 x) := by rw [Lib.cell_of_heap hs6]; rfl
  have a3 : w6.cell? ⟨w.heap.size, 3, none⟩ = some (.int .i64 v) := by rw [Lib.cell_of_heap hs6]; rfl
  have o0 : w6.cell? ⟨w.heap.size + 1, 0, none⟩ = some (.int .i64 i) := by rw [Lib.cell_of_heap ho6]; rfl
  have o1 : w6.cell? ⟨w.heap.size + 1, 1, none⟩ = some (.int .i64 s) := by rw [Lib.cell_of_heap ho6]; rfl
  have o2 : w6.cell? ⟨w.heap.size + 1, 2, none⟩ = some (.int .i64 v) := by rw [Lib.cell_of_heap ho6]; rfl
  have o3 : w6.cell? ⟨w.heap.size + 1, 3, none⟩ = some (.int .i64 k) := by rw [Lib.cell_of_heap ho6]; rfl
  have o4 : w6.cell? ⟨w.heap.size + 1, 4, none⟩ = some (.int .i64 a) := by rw [Lib.cell_of_heap ho6]; rfl
  have hl0 : w.heap.size < w6.heap.size := by omega
  have hl1 : w.heap.size + 1 < w6.heap.size := by omega
  obtain ⟨w7, HX7⟩ : ∃ W, Hid (W = w6.alloc (.cells #[.int .i64 k, .int .i64 a] 35)) := ⟨_, Lib.hid rfl⟩
  have hb : Below w6.heap.size w6 w7 := by rw [HX7.out]; exact (Below.refl _ _).alloc (Nat.le_refl _) _
  have he7 : w7.heap[w6.heap.size]? = some (.cells #[.int .i64 k, .int .i64 a] 35 (0, 0)) := by rw [HX7.out]; exact heap_alloc_new _ _
  have hy7 : w7.heap.size = w6.heap.size + 1 := by rw [HX7.out]; simp
  have hs7 := (hb.block (w.heap.size) (by omega)).trans hs6
  have ho7 := (hb.block (w.heap.size + 1) (by omega)).trans ho6
  have hn7 := (hb.block (w.heap.size + 1 + 1) (by omega)).trans hn6
  have hb7 : Below w.heap.size w w7 := hb6.trans (hb.mono (by omega))
  have hz7 : w6.heap.size ≤ w7.heap.size := hb.size
  clear hb
  go_wp2_with fail
  rw [← HX7.out]
  refine (HB.out _).mono ?_
  rintro e w8 ⟨rfl, hb⟩
  clear a0 a1 a2 a3 o0 o1 o2 o3 o4 hl0 hl1
  have hs8 := (hb.block (w.heap.size) (by omega)).trans hs7
  have ho8 := (hb.block (w.heap.size + 1) (by omega)).trans ho7
  have hn8 := (hb.block (w.heap.size + 1 + 1) (by omega)).trans hn7
  have he8 := (hb.block (w6.heap.size) (by omega)).trans he7
  have hb8 : Below w.heap.size w w8 := hb7.trans (hb.mono (by omega))
  have hz8 : w7.heap.size ≤ w8.heap.size := hb.size
  clear hb
  have a3 : w8.cell? ⟨w.heap.size, 3, none⟩ = some (.int .i64 v) := by rw [Lib.cell_of_heap hs8]; rfl
  have n0 : w8.cell? ⟨w.heap.size + 1 + 1, 0, none⟩ = some (.int .i64 0) := by rw [Lib.cell_of_heap hn8]; rfl
  have n1 : w8.cell? ⟨w.heap.size + 1 + 1, 1, none⟩ = some (.int .i64 0) := by rw [Lib.cell_of_heap hn8]; rfl
  have n2 : w8.cell? ⟨w.heap.size + 1 + 1, 2, none⟩ = some (.slice none 0 0) := by rw [Lib.cell_of_heap hn8]; rfl
  have nf : ∀ i, w8.frozen? ⟨w.heap.size + 1 + 1, i, none⟩ = false := fun i => Lib.frozen_of_heap hn8 i
  go_wp2_with (fail)
  (try simp only [Exit.inBlock, Exit.then]); refine bodyPost_ret (results_cell_row rfl _ _ (w.heap.size + 1 + 1) 33 #[.int .i64 3, .int .i64 v, .slice none 0 0] (0, 0) _ rfl (heap_setCell_same _ _ 2 _ _ _ (heap_setCell_same _ _ 1 _ _ _ (heap_setCell_same _ _ 0 _ _ _ hn8))) Tryd.underlying33 rfl (by kernel_rfl)) rfl ?_
  exact ⟨_, rfl, .inl ⟨rfl, rfl⟩, by repeat' (first | (with_reducible assumption) | (with_reducible exact Below.refl _ _) | (with_reducible refine below_drewN ?_ _) | (with_reducible refine Below.drew ?_) | (with_reducible refine Below.alloc ?_ ?_ _) | (with_reducible refine Below.setCell ?_ ?_ _) | go_size)⟩
set_option maxRecDepth 100000 in
set_option maxHeartbeats 2000000 in
theorem rdec_acc1e (t : Int) (c : Bool) (x v i s k a : Int) (w : World) (HM : Hid (∀ X : World, Calls Tryd.prog 30 #[.agg #[.int .i64 t, .bool c, .int .i64 x, .int .i64 v]] X (NumPost (.bool true) X))) (HC : Hid (∀ X : World, Calls Tryd.prog 31 #[.agg #[.int .i64 i, .int .i64 s, .int .i64 v, .int .i64 k, .int .i64 a]] X (NumPost (.bool true) X))) (HB : Hid (∀ X : World, Calls Tryd.prog 32 #[.agg #[.int .i64 t, .bool c, .int .i64 x, .int .i64 v], .agg #[.int .i64 k, .int .i64 a]] X (NumPost (.bool true) X))) (hk : (k == 4) = false) (hv0 : 0 ≤ v) (hv1 : v < 1099511627776) :
    Calls Tryd.prog 23 #[.agg #[.int .i64 t, .bool c, .int .i64 x, .int .i64 v], .agg #[.int .i64 i, .int .i64 s, .int .i64 v, .int .i64 k, .int .i64 a]] w (DecPost ⟨1, (v + 1), [⟨k, a⟩]⟩ w) := by
  obtain ⟨w4, HW⟩ : ∃ w4, Hid (w4 = ((w.alloc (.cells #[.int .i64 t, .bool c, .int .i64 x, .int .i64 v] 25)).alloc (.cells #[.int .i64 i, .int .i64 s, .int .i64 v, .int .i64 k, .int .i64 a] 43)).alloc (.cells #[.int .i64 0, .int .i64 0, .slice none 0 0] 33)) := ⟨_, Lib.hid rfl⟩
  obtain ⟨hz4, hb4, hs4, ho4, hn4⟩ := three_blocks HW.out
  go_enter Tryd.func23, Tryd.ntmps23
  go_wp2_with fail
  rw [← HW.out]
  refine (HM.out _).mono ?_
  rintro e w5 ⟨rfl, hb⟩
  have hs5 := (hb.block (w.heap.size) (by omega)).trans hs4
  have ho5 := (hb.block (w.heap.size + 1) (by omega)).trans ho4
  have hn5 := (hb.block (w.heap.size + 1 + 1) (by omega)).trans hn4
  have hb5 : Below w.heap.size w w5 := hb4.trans (hb.mono (by omega))
  have hz5 : w4.heap.size ≤ w5.heap.size := hb.size
  clear hb
  have o0 : w5.cell? ⟨w.heap.size + 1, 0, none⟩ = some (.int .i64 i) := by rw [Lib.cell_of_heap ho5]; rfl
  have o1 : w5.cell? ⟨w.heap.size + 1, 1, none⟩ = some (.int .i64 s) := by rw [Lib.cell_of_heap ho5]; rfl
  have o2 : w5.cell? ⟨w.heap.size + 1, 2, none⟩ = some (.int .i64 v) := by rw [Lib.cell_of_heap ho5]; rfl
  have o3 : w5.cell? ⟨w.heap.size + 1, 3, none⟩ = some (.int .i64 k) := by rw [Lib.cell_of_heap ho5]; rfl
  have o4 : w5.cell? ⟨w.heap.size + 1, 4, none⟩ = some (.int .i64 a) := by rw [Lib.cell_of_heap ho5]; rfl
  go_wp2_with fail
  refine (HC.out _).mono ?_
  rintro e w6 ⟨rfl, hb⟩
  have hs6 := (hb.block (w.heap.size) (by omega)).trans hs5
  have ho6 := (hb.block (w.heap.size + 1) (by omega)).trans ho5
  have hn6 := (hb.block (w.heap.size + 1 + 1) (by omega)).trans hn5
  have hb6 : Below w.heap.size w w6 := hb5.trans (hb.mono (by omega))
  have hz6 : w5.heap.size ≤ w6.heap.size := hb.size
  clear hb
  clear o0 o1 o2 o3 o4
  have a0 : w6.cell? ⟨w.heap.size, 0, none⟩ = some (.int .i64 t) := by rw [Lib.cell_of_heap hs6]; rfl
  have a1 : w6.cell? ⟨w.heap.size, 1, none⟩ = some (.bool c) := by rw [Lib.cell_of_heap hs6]; rfl
  have a2 : w6.cell? ⟨w.heap.size, 2, none⟩ = some (.int .i64 x) := by rw [Lib.cell_of_heap hs6]; rfl
  have a3 : w6.cell? ⟨w.heap.size, 3, none⟩ = some (.int .i64 v) := by rw [Lib.cell_of_heap hs6]; rfl
  have o0 : w6.cell? ⟨w.heap.size + 1, 0, none⟩ = some (.int .i64 i) := by rw [Lib.cell_of_heap ho6]; rfl
  have o1 : w6.cell? ⟨w.heap.size + 1, 1, none⟩ = some (.int .i64 s) := by rw [Lib.cell_of_heap ho6]; rfl
  have o2 : w6.cell? ⟨w.heap.size + 1, 2, none⟩ = some (.int .i64 v) := by rw [Lib.cell_of_heap ho6]; rfl
  have o3 : w6.cell? ⟨w.heap.size + 1, 3, none⟩ = some (.int .i64 k) := by rw [Lib.cell_of_heap ho6]; rfl
  have o4 : w6.cell? ⟨w.heap.size + 1, 4, none⟩ = some (.int .i64 a) := by rw [Lib.cell_of_heap ho6]; rfl
  have hl0 : w.heap.size < w6.heap.size := by omega
  have hl1 : w.heap.size + 1 < w6.heap.size := by omega
  obtain ⟨w7, HX7⟩ : ∃ W, Hid (W = w6.alloc (.cells #[.int .i64 k, .int .i64 a] 35)) := ⟨_, Lib.hid rfl⟩
  have hb : Below w6.heap.size w6 w7 := by rw [HX7.out]; exact (Below.refl _ _).alloc (Nat.le_refl _) _
  have he7 : w7.heap[w6.heap.size]? = some (.cells #[.int .i64 k, .int .i64 a] 35 (0, 0)) := by rw [HX7.out]; exact heap_alloc_new _ _
  have hy7 : w7.heap.size = w6.heap.size + 1 := by rw [HX7.out]; simp
  have hs7 := (hb.block (w.heap.size) (by omega)).trans hs6
  have ho7 := (hb.block (w.heap.size + 1) (by omega)).trans ho6
  have hn7 := (hb.block (w.heap.size + 1 + 1) (by omega)).trans hn6
  have hb7 : Below w.heap.size w w7 := hb6.trans (hb.mono (by omega))
  have hz7 : w6.heap.size ≤ w7.heap.size := hb.size
  clear hb
  go_wp2_with fail
  rw [← HX7.out]
  refine (HB.out _).mono ?_
  rintro e w8 ⟨rfl, hb⟩
  clear a0 a1 a2 a3 o0 o1 o2 o3 o4 hl0 hl1
  have hs8 := (hb.block (w.heap.size) (by omega)).trans hs7
  have ho8 := (hb.block (w.heap.size + 1) (by omega)).trans ho7
  have hn8 := (hb.block (w.heap.size + 1 + 1) (by omega)).trans hn7
  have he8 := (hb.block (w6.heap.size) (by omega)).trans he7
  have hb8 : Below w.heap.size w w8 := hb7.trans (hb.mono (by omega))
  have hz8 : w7.heap.size ≤ w8.heap.size := hb.size
  clear hb
  have a3 : w8.cell? ⟨w.heap.size, 3, none⟩ = some (.int .i64 v) := by rw [Lib.cell_of_heap hs8]; rfl
  have b0 : w8.cell? ⟨w6.heap.size, 0, none⟩ = some (.int .i64 k) := by rw [Lib.cell_of_heap he8]; rfl
  have b1 : w8.cell? ⟨w6.heap.size, 1, none⟩ = some (.int .i64 a) := by rw [Lib.cell_of_heap he8]; rfl
  obtain ⟨w9, HX9⟩ : ∃ W, Hid (W = w8.alloc (.cells #[.int .i64 k, .int .i64 a] 35)) := ⟨_, Lib.hid rfl⟩
  have hb : Below w8.heap.size w8 w9 := by rw [HX9.out]; exact (Below.refl _ _).alloc (Nat.le_refl _) _
  have hg9 : w9.heap[w8.heap.size]? = some (.cells #[.int .i64 k, .int .i64 a] 35 (0, 0)) := by rw [HX9.out]; exact heap_alloc_new _ _
  have hy9 : w9.heap.size = w8.heap.size + 1 := by rw [HX9.out]; simp
  have hs9 := (hb.block (w.heap.size) (by omega)).trans hs8
  have ho9 := (hb.block (w.heap.size + 1) (by omega)).trans ho8
  have hn9 := (hb.block (w.heap.size + 1 + 1) (by omega)).trans hn8
  have he9 := (hb.block (w6.heap.size) (by omega)).trans he8
  have hb9 : Below w.heap.size w w9 := hb8.trans (hb.mono (by omega))
  have hz9 : w8.heap.size ≤ w9.heap.size := hb.size
  clear hb
  have n0 : w9.cell? ⟨w.heap.size + 1 + 1, 0, none⟩ = some (.int .i64 0) := by rw [Lib.cell_of_heap hn9]; rfl
  have n1 : w9.cell? ⟨w.heap.size + 1 + 1, 1, none⟩ = some (.int .i64 0) := by rw [Lib.cell_of_heap hn9]; rfl
  have n2 : w9.cell? ⟨w.heap.size + 1 + 1, 2, none⟩ = some (.slice none 0 0) := by rw [Lib.cell_of_heap hn9]; rfl
  have nf : ∀ i, w9.frozen? ⟨w.heap.size + 1 + 1, i, none⟩ = false := fun i => Lib.frozen_of_heap hn9 i
  go_wp2_with (rw [← HX9.out])
  (try simp only [Exit.inBlock, Exit.then]); refine bodyPost_ret (results_cell_row rfl _ _ (w.heap.size + 1 + 1) 33 #[.int .i64 1, .int .i64 (v + 1), .slice (some ⟨w8.heap.size, 0, none⟩) 1 1] (0, 0) _ rfl (heap_setCell_same _ _ 2 _ _ _ (heap_setCell_same _ _ 1 _ _ _ (heap_setCell_same _ _ 0 _ _ _ hn9))) Tryd.underlying33 rfl (by kernel_rfl)) rfl ?_
  refine ⟨_, rfl, .inr ⟨⟨k, a⟩, w8.heap.size, rfl, rfl, by omega, ?_⟩, by repeat' (first | (with_reducible assumption) | (with_reducible exact Below.refl _ _) | (with_reducible refine below_drewN ?_ _) | (with_reducible refine Below.drew ?_) | (with_reducible refine Below.alloc ?_ ?_ _) | (with_reducible refine Below.setCell ?_ ?_ _) | go_size)⟩
  exact (Below.heap_setCell _ _ _ _ (by show w8.heap.size ≠ w.heap.size + 1 + 1; omega)).trans ((Below.heap_setCell _ _ _ _ (by show w8.heap.size ≠ w.heap.size + 1 + 1; omega)).trans ((Below.heap_setCell _ _ _ _ (by show w8.heap.size ≠ w.heap.size + 1 + 1; omega)).trans hg9))
theorem check_any' (o : Od) {X : World} (hA : Asked X) : Calls Tryd.prog 28 #[o.v] X (NumPost (.int .i64 (if o.may then 0 else 2)) X) := check_any o X hA
theorem decide_any (s : St) (o : Od) (w : World) (hA : Asked w) : Calls Tryd.prog 20 #[s.v, o.v] w (DecPost (decide_ s o) w) := by
  have HM := fun X => maybe_any s X
  have HC := fun X (hb : Below w.heap.size w X) => check_any' o (hA.keep hb)
  have HE := fun X => ev_any o X
  have HB := fun X => beh_any s (evOf o) X
  have hl : s.may = true → lets s (evOf o) = comes s (evOf o) := fun h => by unfold lets; rw [h]; rfl
  have hR : decide_ s o = if s.may = false then ⟨7, 0, []⟩ else if o.may = false then ⟨7, s.ver, []⟩ else if 0 ≤ o.ex ∧ o.ex ≠ s.ver then ⟨2, s.ver, []⟩ else if comes s (evOf o) = false then ⟨3, s.ver, []⟩ else ⟨1, s.ver + 1, [evOf o]⟩ := rfl
  generalize evOf o = ev at *
  rw [hR]
  cases hm : s.may
  · rw [hm] at HM
    obtain ⟨t, c, x, v⟩ := s
    obtain ⟨i, st, ex, k, a⟩ := o
    rw [if_pos rfl]
    exact dec_bad t c x v i st ex k a w (Lib.hid HM)
  rw [hm] at HM
  rw [if_neg (by decide)]
  cases ho : o.may
  · rw [ho] at HC
    obtain ⟨t, c, x, v⟩ := s
    obtain ⟨i, st, ex, k, a⟩ := o
    rw [if_pos rfl]
    exact dec_ord t c x v i st ex k a w (Lib.hid HM) (Lib.hid HC)
  rw [ho] at HC
  rw [if_neg (by decide)]
  have hl := hl hm
  obtain ⟨k', a'⟩ := ev
  by_cases h : 0 ≤ o.ex ∧ o.ex ≠ s.ver
  · rw [if_pos h]
    obtain ⟨t, c, x, v⟩ := s
    obtain ⟨i, st, ex, k, a⟩ := o
    exact dec_conf t c x v i st ex k a w (Lib.hid HM) (Lib.hid HC) (decide_eq_true h.1) (by simpa using h.2)
  rw [if_neg h]
  cases hc : comes s ⟨k', a'⟩
  · rw [if_pos rfl]
    obtain ⟨t, c, x, v⟩ := s
    obtain ⟨i, st, ex, k, a⟩ := o
    by_cases hx : 0 ≤ ex
    · obtain rfl : ex = v := by simp only at h; omega
      exact dec_rej1 t c x ex i st k a k' a' w (Lib.hid HM) (Lib.hid HC) (Lib.hid HE) (Lib.hid fun X => (HB X).mono fun e w' ⟨n, he, _, hb⟩ => ⟨n, by rw [he, hl, hc], hb⟩) (decide_eq_true hx)
    · exact dec_rej0 t c x v i st ex k a k' a' w (Lib.hid HM) (Lib.hid HC) (Lib.hid HE) (Lib.hid fun X => (HB X).mono fun e w' ⟨n, he, _, hb⟩ => ⟨n, by rw [he, hl, hc], hb⟩) (decide_eq_false hx)
  · rw [if_neg (by decide)]
    obtain ⟨t, c, x, v⟩ := s
    obtain ⟨i, st, ex, k, a⟩ := o
    by_cases hx : 0 ≤ ex
    · obtain rfl : ex = v := by simp only at h; omega
      exact dec_acc1 t c x ex i st k a k' a' _ w (Lib.hid HM) (Lib.hid HC) (Lib.hid HE) (Lib.hid fun X => (HB X).mono fun e w' ⟨n, he, hn, hb⟩ => ⟨n, by rw [he, hl, hc], by rw [hn (by rw [hl, hc])]; rfl, hb⟩) (decide_eq_true hx)
    · exact dec_acc0 t c x v i st ex k a k' a' _ w (Lib.hid HM) (Lib.hid HC) (Lib.hid HE) (Lib.hid fun X => (HB X).mono fun e w' ⟨n, he, hn, hb⟩ => ⟨n, by rw [he, hl, hc], by rw [hn (by rw [hl, hc])]; rfl, hb⟩) (decide_eq_false hx)
theorem rapply_any (s : St) (ev : Ev) (w : World) : Calls Tryd.prog 24 #[s.v, ev.v] w (NumPost (app s ev).v w) := by
  have HM := fun X => rm_any s X
  cases hm : s.may
  · rw [hm] at HM
    rw [app_no (by unfold lets; rw [hm]; rfl)]
    obtain ⟨t, c, x, v⟩ := s
    obtain ⟨k, a⟩ := ev
    exact rapp_m t c x v k a w (Lib.hid HM)
  have HC := fun X => com_any s ev X hm
  have hl : lets s ev = comes s ev := by unfold lets; rw [hm]; rfl
  rw [hm] at HM
  cases hc : comes s ev
  · rw [hc] at HC
    rw [app_no (by rw [hl, hc])]
    obtain ⟨t, c, x, v⟩ := s
    obtain ⟨k, a⟩ := ev
    exact rapp_c t c x v k a w (Lib.hid HM) (Lib.hid HC)
  · rw [hc] at HC
    rw [app_yes (by rw [hl, hc])]
    have hm := (may_iff _).1 hm
    obtain ⟨h1, h2, h3⟩ := (comes_iff _ _).1 hc
    clear hl hc
    obtain ⟨t, c, x, v⟩ := s
    obtain ⟨k, a⟩ := ev
    simp only at hm h1 h2 h3
    subst h2
    have hv0 : 0 ≤ v := by omega
    rcases h3 with ⟨rfl, h3⟩ | ⟨rfl, h3⟩ | ⟨rfl, h3⟩ | ⟨rfl, h3⟩
    · exact rapp_1 t false x v a w (Lib.hid HM) (Lib.hid HC) hv0 h1
    · exact rapp_2 t false x v a w (Lib.hid HM) (Lib.hid HC) hv0 h1 (by omega) h3.2.1 h3.2.2
    · exact rapp_3 t false x v a w (Lib.hid HM) (Lib.hid HC) hv0 h1 (by omega) h3.1 (by omega)
    · exact rapp_4 t false x v a w (Lib.hid HM) (Lib.hid HC) hv0 h1
theorem rdecide_any (s : St) (o : Od) (w : World) : Calls Tryd.prog 23 #[s.v, o.v] w (DecPost (decide_ s o) w) := by
  have HM := fun X => rm_any s X
  have HC := fun X => rmay_any o X
  have HB := fun X => com_any s (evOf o) X
  unfold decide_
  cases hm : s.may
  · rw [hm] at HM
    obtain ⟨t, c, x, v⟩ := s
    obtain ⟨i, st, ex, k, a⟩ := o
    rw [if_pos rfl]
    exact rdec_bad t c x v i st ex k a w (Lib.hid HM)
  have HB := fun X => HB X hm
  have hmi := (may_iff _).1 hm
  rw [hm] at HM
  rw [if_neg (by decide)]
  cases ho : o.may
  · rw [ho] at HC
    obtain ⟨t, c, x, v⟩ := s
    obtain ⟨i, st, ex, k, a⟩ := o
    rw [if_pos rfl]
    exact rdec_ord t c x v i st ex k a w (Lib.hid HM) (Lib.hid HC)
  rw [ho] at HC
  rw [if_neg (by decide)]
  by_cases h : 0 ≤ o.ex ∧ o.ex ≠ s.ver
  · rw [if_pos h]
    obtain ⟨t, c, x, v⟩ := s
    obtain ⟨i, st, ex, k, a⟩ := o
    exact rdec_conf t c x v i st ex k a w (Lib.hid HM) (Lib.hid HC) (decide_eq_true h.1) (by simpa using h.2)
  rw [if_neg h]
  have hv : comes s (evOf o) = true → 0 ≤ s.ver ∧ s.ver < 1099511627776 := fun hc => ⟨by omega, ((comes_iff _ _).1 hc).1⟩
  cases hc : comes s (evOf o)
  · rw [if_pos rfl]
    rw [hc] at HB
    obtain ⟨t, c, x, v⟩ := s
    obtain ⟨i, st, ex, k, a⟩ := o
    by_cases hk : k = 4
    · subst hk
      by_cases hx : 0 ≤ ex
      · obtain rfl : ex = v := by simp only at h; omega
        exact rdec_rej1c t c x ex i st a w (Lib.hid HM) (Lib.hid HC) (Lib.hid HB) (decide_eq_true hx)
      · exact rdec_rej0c t c x v i st ex a w (Lib.hid HM) (Lib.hid HC) (Lib.hid HB) (decide_eq_false hx)
    · have he : evOf ⟨i, st, ex, k, a⟩ = ⟨k, a⟩ := by unfold evOf; rw [if_neg hk]
      rw [he] at HB
      by_cases hx : 0 ≤ ex
      · obtain rfl : ex = v := by simp only at h; omega
        exact rdec_rej1e t c x ex i st k a w (Lib.hid HM) (Lib.hid HC) (Lib.hid HB) (decide_eq_true hx) (by simp [hk])
      · exact rdec_rej0e t c x v i st ex k a w (Lib.hid HM) (Lib.hid HC) (Lib.hid HB) (decide_eq_false hx) (by simp [hk])
  · rw [if_neg (by decide)]
    rw [hc] at HB
    obtain ⟨hv0, hv1⟩ := hv hc
    obtain ⟨t, c, x, v⟩ := s
    obtain ⟨i, st, ex, k, a⟩ := o
    by_cases hk : k = 4
    · subst hk
      by_cases hx : 0 ≤ ex
      · obtain rfl : ex = v := by simp only at h; omega
        exact rdec_acc1c t c x ex i st a w (Lib.hid HM) (Lib.hid HC) (Lib.hid HB) hv0 hv1
      · exact rdec_acc0c t c x v i st ex a w (Lib.hid HM) (Lib.hid HC) (Lib.hid HB) (decide_eq_false hx) hv0 hv1
    · have he : evOf ⟨i, st, ex, k, a⟩ = ⟨k, a⟩ := by unfold evOf; rw [if_neg hk]
      rw [he] at HB ⊢
      by_cases hx : 0 ≤ ex
      · obtain rfl : ex = v := by simp only at h; omega
        exact rdec_acc1e t c x ex i st k a w (Lib.hid HM) (Lib.hid HC) (Lib.hid HB) (by simp [hk]) hv0 hv1
      · exact rdec_acc0e t c x v i st ex k a w (Lib.hid HM) (Lib.hid HC) (Lib.hid HB) (decide_eq_false hx) (by simp [hk]) hv0 hv1
end Go.Proofs.YtafhjlfnhgkcoaaDoor
