/-
  Apply of package deeds, and of the document; eventOf.
-/
import Derived.Test.YtafhjlfnhgkcoaaDoorAeLets
import Derived.Test.YtafhjlfnhgkcoaaDoorAeRef
namespace Go.Proofs.YtafhjlfnhgkcoaaDoor
open Go.RowKit Go.Sort
set_option maxRecDepth 100000 in
set_option maxHeartbeats 1000000 in
theorem app_n (t : Int) (c : Bool) (x v k a : Int) (w : World) (HG : Hid (∀ X : World, Calls Tryd.prog 26 #[.agg #[.int .i64 t, .bool c, .int .i64 x, .int .i64 v], .agg #[.int .i64 k, .int .i64 a]] X (fun e w' => ∃ n : St, e = .returned (.tuple #[n.v, .bool false]) ∧  Below X.heap.size X w'))) :
    Calls Tryd.prog 18 #[.agg #[.int .i64 t, .bool c, .int .i64 x, .int .i64 v], .agg #[.int .i64 k, .int .i64 a]] w (NumPost (.agg #[.int .i64 t, .bool c, .int .i64 x, .int .i64 v]) w) := by
  obtain ⟨w4, HW⟩ : ∃ w4, Hid (w4 = ((w.alloc (.cells #[.int .i64 t, .bool c, .int .i64 x, .int .i64 v] 25)).alloc (.cells #[.int .i64 k, .int .i64 a] 35)).alloc (.cells #[.int .i64 0, .bool false, .int .i64 0, .int .i64 0] 25)) := ⟨_, Lib.hid rfl⟩
  obtain ⟨hz4, hb4, hs4, he4, hn4⟩ := three_blocks HW.out
  go_enter Tryd.func18, Tryd.ntmps18
  go_wp2_with fail
  rw [← HW.out]
  refine (HG.out _).mono ?_
  rintro e w5 ⟨⟨t1, c1, x1, v1⟩, rfl, hb⟩
  simp only [St.v]
  have hs5 := (hb.block w.heap.size (by omega)).trans hs4
  have he5 := (hb.block (w.heap.size + 1) (by omega)).trans he4
  have hn5 := (hb.block (w.heap.size + 1 + 1) (by omega)).trans hn4
  have hb5 : Below w.heap.size w w5 := hb4.trans (hb.mono (by omega))
  have hz5 : w.heap.size + 1 + 1 < w5.heap.size := by have := hb.size; omega
  clear hb
  have a0 : w5.cell? ⟨w.heap.size, 0, none⟩ = some (.int .i64 t) := by rw [Lib.cell_of_heap hs5]; rfl
  have a1 : w5.cell? ⟨w.heap.size, 1, none⟩ = some (.bool c) := by rw [Lib.cell_of_heap hs5]; rfl
  have a2 : w5.cell? ⟨w.heap.size, 2, none⟩ = some (.int .i64 x) := by rw [Lib.cell_of_heap hs5]; rfl
  have a3 : w5.cell? ⟨w.heap.size, 3, none⟩ = some (.int .i64 v) := by rw [Lib.cell_of_heap hs5]; rfl
  have n0 : w5.cell? ⟨w.heap.size + 1 + 1, 0, none⟩ = some (.int .i64 0) := by rw [Lib.cell_of_heap hn5]; rfl
  have n1 : w5.cell? ⟨w.heap.size + 1 + 1, 1, none⟩ = some (.bool false) := by rw [Lib.cell_of_heap hn5]; rfl
  have n2 : w5.cell? ⟨w.heap.size + 1 + 1, 2, none⟩ = some (.int .i64 0) := by rw [Lib.cell_of_heap hn5]; rfl
  have n3 : w5.cell? ⟨w.heap.size + 1 + 1, 3, none⟩ = some (.int .i64 0) := by rw [Lib.cell_of_heap hn5]; rfl
  have nf : ∀ i, w5.frozen? ⟨w.heap.size + 1 + 1, i, none⟩ = false := fun i => Lib.frozen_of_heap hn5 i
  obtain ⟨w6, HX⟩ : ∃ w6, Hid (w6 = w5.alloc (.cells #[.int .i64 t1, .bool c1, .int .i64 x1, .int .i64 v1] 25)) := ⟨_, Lib.hid rfl⟩
  have hz6 : w6.heap.size = w5.heap.size + 1 := by rw [HX.out]; simp
  have hm6 : w6.heap[w5.heap.size]? = some (.cells #[.int .i64 t1, .bool c1, .int .i64 x1, .int .i64 v1] 25 (0, 0)) := by rw [HX.out]; exact heap_alloc_new _ _
  have hb : Below w5.heap.size w5 w6 := by rw [HX.out]; exact (Below.refl _ _).alloc (Nat.le_refl _) _
  have hn6 := (hb.block (w.heap.size + 1 + 1) (by omega)).trans hn5
  have hs6 := (hb.block w.heap.size (by omega)).trans hs5
  have hb6 : Below w.heap.size w w6 := hb5.trans (hb.mono (by omega))
  clear hb
  have b0 : w6.cell? ⟨w.heap.size, 0, none⟩ = some (.int .i64 t) := by rw [Lib.cell_of_heap hs6]; rfl
  have b1 : w6.cell? ⟨w.heap.size, 1, none⟩ = some (.bool c) := by rw [Lib.cell_of_heap hs6]; rfl
  have b2 : w6.cell? ⟨w.heap.size, 2, none⟩ = some (.int .i64 x) := by rw [Lib.cell_of_heap hs6]; rfl
  have b3 : w6.cell? ⟨w.heap.size, 3, none⟩ = some (.int .i64 v) := by rw [Lib.cell_of_heap hs6]; rfl
  have m0 : w6.cell? ⟨w.heap.size + 1 + 1, 0, none⟩ = some (.int .i64 0) := by rw [Lib.cell_of_heap hn6]; rfl
  have m1 : w6.cell? ⟨w.heap.size + 1 + 1, 1, none⟩ = some (.bool false) := by rw [Lib.cell_of_heap hn6]; rfl
  have m2 : w6.cell? ⟨w.heap.size + 1 + 1, 2, none⟩ = some (.int .i64 0) := by rw [Lib.cell_of_heap hn6]; rfl
  have m3 : w6.cell? ⟨w.heap.size + 1 + 1, 3, none⟩ = some (.int .i64 0) := by rw [Lib.cell_of_heap hn6]; rfl
  have mf : ∀ i, w6.frozen? ⟨w.heap.size + 1 + 1, i, none⟩ = false := fun i => Lib.frozen_of_heap hn6 i
  clear a0 a1 a2 a3 n0 n1 n2 n3 nf
  go_wp2_with (rw [← HX.out])
  (try simp only [Exit.inBlock, Exit.then]); refine bodyPost_ret (results_cell_row rfl _ _ (w.heap.size + 1 + 1) 25 #[.int .i64 t, .bool c, .int .i64 x, .int .i64 v] (0, 0) _ rfl (heap_setCell_same _ _ 3 _ _ _ (heap_setCell_same _ _ 2 _ _ _ (heap_setCell_same _ _ 1 _ _ _ (heap_setCell_same _ _ 0 _ _ _ hn6)))) Tryd.underlying25 rfl (by kernel_rfl)) rfl ?_
  exact ⟨rfl, by repeat' (first | (with_reducible assumption) | (with_reducible exact Below.refl _ _) | (with_reducible refine below_drewN ?_ _) | (with_reducible refine Below.drew ?_) | (with_reducible refine Below.alloc ?_ ?_ _) | (with_reducible refine Below.setCell ?_ ?_ _) | go_size)⟩
set_option maxRecDepth 100000 in
set_option maxHeartbeats 1000000 in
theorem app_y (t : Int) (c : Bool) (x v k a : Int) (t2 : Int) (c2 : Bool) (x2 v2 : Int) (w : World) (HG : Hid (∀ X : World, Calls Tryd.prog 26 #[.agg #[.int .i64 t, .bool c, .int .i64 x, .int .i64 v], .agg #[.int .i64 k, .int .i64 a]] X (fun e w' => ∃ n : St, e = .returned (.tuple #[n.v, .bool true]) ∧ n = ⟨t2, c2, x2, v2⟩ ∧ Below X.heap.size X w'))) :
    Calls Tryd.prog 18 #[.agg #[.int .i64 t, .bool c, .int .i64 x, .int .i64 v], .agg #[.int .i64 k, .int .i64 a]] w (NumPost (.agg #[.int .i64 t2, .bool c2, .int .i64 x2, .int .i64 v2]) w) := by
  obtain ⟨w4, HW⟩ : ∃ w4, Hid (w4 = ((w.alloc (.cells #[.int .i64 t, .bool c, .int .i64 x, .int .i64 v] 25)).alloc (.cells #[.int .i64 k, .int .i64 a] 35)).alloc (.cells #[.int .i64 0, .bool false, .int .i64 0, .int .i64 0] 25)) := ⟨_, Lib.hid rfl⟩
  obtain ⟨hz4, hb4, hs4, he4, hn4⟩ := three_blocks HW.out
  go_enter Tryd.func18, Tryd.ntmps18
  go_wp2_with fail
  rw [← HW.out]
  refine (HG.out _).mono ?_
  rintro e w5 ⟨⟨t1, c1, x1, v1⟩, rfl, hn, hb⟩
  obtain ⟨rfl, rfl, rfl, rfl⟩ := St.mk.inj hn
  simp only [St.v]
  have hs5 := (hb.block w.heap.size (by omega)).trans hs4
  have he5 := (hb.block (w.heap.size + 1) (by omega)).trans he4
  have hn5 := (hb.block (w.heap.size + 1 + 1) (by omega)).trans hn4
  have hb5 : Below w.heap.size w w5 := hb4.trans (hb.mono (by omega))
  have hz5 : w.heap.size + 1 + 1 < w5.heap.size := by have := hb.size; omega
  clear hb
  have a0 : w5.cell? ⟨w.heap.size, 0, none⟩ = some (.int .i64 t) := by rw [Lib.cell_of_heap hs5]; rfl
  have a1 : w5.cell? ⟨w.heap.size, 1, none⟩ = some (.bool c) := by rw [Lib.cell_of_heap hs5]; rfl
  have a2 : w5.cell? ⟨w.heap.size, 2, none⟩ = some (.int .i64 x) := by rw [Lib.cell_of_heap hs5]; rfl
  have a3 : w5.cell? ⟨w.heap.size, 3, none⟩ = some (.int .i64 v) := by rw [Lib.cell_of_heap hs5]; rfl
  have n0 : w5.cell? ⟨w.heap.size + 1 + 1, 0, none⟩ = some (.int .i64 0) := by rw [Lib.cell_of_heap hn5]; rfl
  have n1 : w5.cell? ⟨w.heap.size + 1 + 1, 1, none⟩ = some (.bool false) := by rw [Lib.cell_of_heap hn5]; rfl
  have n2 : w5.cell? ⟨w.heap.size + 1 + 1, 2, none⟩ = some (.int .i64 0) := by rw [Lib.cell_of_heap hn5]; rfl
  have n3 : w5.cell? ⟨w.heap.size + 1 + 1, 3, none⟩ = some (.int .i64 0) := by rw [Lib.cell_of_heap hn5]; rfl
  have nf : ∀ i, w5.frozen? ⟨w.heap.size + 1 + 1, i, none⟩ = false := fun i => Lib.frozen_of_heap hn5 i
  obtain ⟨w6, HX⟩ : ∃ w6, Hid (w6 = w5.alloc (.cells #[.int .i64 t1, .bool c1, .int .i64 x1, .int .i64 v1] 25)) := ⟨_, Lib.hid rfl⟩
  have hz6 : w6.heap.size = w5.heap.size + 1 := by rw [HX.out]; simp
  have hm6 : w6.heap[w5.heap.size]? = some (.cells #[.int .i64 t1, .bool c1, .int .i64 x1, .int .i64 v1] 25 (0, 0)) := by rw [HX.out]; exact heap_alloc_new _ _
  have hb : Below w5.heap.size w5 w6 := by rw [HX.out]; exact (Below.refl _ _).alloc (Nat.le_refl _) _
  have hn6 := (hb.block (w.heap.size + 1 + 1) (by omega)).trans hn5
  have hs6 := (hb.block w.heap.size (by omega)).trans hs5
  have hb6 : Below w.heap.size w w6 := hb5.trans (hb.mono (by omega))
  clear hb
  have b0 : w6.cell? ⟨w5.heap.size, 0, none⟩ = some (.int .i64 t1) := by rw [Lib.cell_of_heap hm6]; rfl
  have b1 : w6.cell? ⟨w5.heap.size, 1, none⟩ = some (.bool c1) := by rw [Lib.cell_of_heap hm6]; rfl
  have b2 : w6.cell? ⟨w5.heap.size, 2, none⟩ = some (.int .i64 x1) := by rw [Lib.cell_of_heap hm6]; rfl
  have b3 : w6.cell? ⟨w5.heap.size, 3, none⟩ = some (.int .i64 v1) := by rw [Lib.cell_of_heap hm6]; rfl
  have m0 : w6.cell? ⟨w.heap.size + 1 + 1, 0, none⟩ = some (.int .i64 0) := by rw [Lib.cell_of_heap hn6]; rfl
  have m1 : w6.cell? ⟨w.heap.size + 1 + 1, 1, none⟩ = some (.bool false) := by rw [Lib.cell_of_heap hn6]; rfl
  have m2 : w6.cell? ⟨w.heap.size + 1 + 1, 2, none⟩ = some (.int .i64 0) := by rw [Lib.cell_of_heap hn6]; rfl
  have m3 : w6.cell? ⟨w.heap.size + 1 + 1, 3, none⟩ = some (.int .i64 0) := by rw [Lib.cell_of_heap hn6]; rfl
  have mf : ∀ i, w6.frozen? ⟨w.heap.size + 1 + 1, i, none⟩ = false := fun i => Lib.frozen_of_heap hn6 i
  clear a0 a1 a2 a3 n0 n1 n2 n3 nf
  go_wp2_with (rw [← HX.out])
  (try simp only [Exit.inBlock, Exit.then]); refine bodyPost_ret (results_cell_row rfl _ _ (w.heap.size + 1 + 1) 25 #[.int .i64 t1, .bool c1, .int .i64 x1, .int .i64 v1] (0, 0) _ rfl (heap_setCell_same _ _ 3 _ _ _ (heap_setCell_same _ _ 2 _ _ _ (heap_setCell_same _ _ 1 _ _ _ (heap_setCell_same _ _ 0 _ _ _ hn6)))) Tryd.underlying25 rfl (by kernel_rfl)) rfl ?_
  exact ⟨rfl, by repeat' (first | (with_reducible assumption) | (with_reducible exact Below.refl _ _) | (with_reducible refine below_drewN ?_ _) | (with_reducible refine Below.drew ?_) | (with_reducible refine Below.alloc ?_ ?_ _) | (with_reducible refine Below.setCell ?_ ?_ _) | go_size)⟩
theorem apply_any (s : St) (ev : Ev) (w : World) : Calls Tryd.prog 18 #[s.v, ev.v] w (NumPost (app s ev).v w) := by
  have B := fun X => beh_any s ev X
  cases h : lets s ev
  · rw [app_no h]
    obtain ⟨t, c, x, v⟩ := s
    obtain ⟨k, a⟩ := ev
    refine app_n t c x v k a w (Lib.hid fun X => (B X).mono ?_)
    rintro e w' ⟨n, he, -, hb⟩
    exact ⟨n, by rw [he, h], hb⟩
  · rw [app_yes h]
    obtain ⟨t, c, x, v⟩ := s
    obtain ⟨k, a⟩ := ev
    refine app_y t c x v k a _ _ _ _ w (Lib.hid fun X => (B X).mono ?_)
    rintro e w' ⟨n, he, hn, hb⟩
    exact ⟨n, by rw [he, h], hn h, hb⟩
set_option maxRecDepth 100000 in
set_option maxHeartbeats 1000000 in
theorem ev_c (i s ex a : Int) (w : World) : Calls Tryd.prog 29 #[.agg #[.int .i64 i, .int .i64 s, .int .i64 ex, .int .i64 4, .int .i64 a]] w (NumPost (.agg #[.int .i64 4, .int .i64 0]) w) := by
  go_enter Tryd.func29, Tryd.ntmps29
  go_wp2_with fail
  (try simp only [Exit.inBlock, Exit.then]); refine bodyPost_ret (v := .agg #[.int .i64 4, .int .i64 0]) (by rw [results_cell1 rfl]; go_simp) rfl ?_
  exact ⟨rfl, by repeat' (first | (with_reducible assumption) | (with_reducible exact Below.refl _ _) | (with_reducible refine below_drewN ?_ _) | (with_reducible refine Below.drew ?_) | (with_reducible refine Below.alloc ?_ ?_ _) | (with_reducible refine Below.setCell ?_ ?_ _) | go_size)⟩
set_option maxRecDepth 100000 in
set_option maxHeartbeats 1000000 in
theorem ev_e (i s ex k a : Int) (w : World) (h : (k == 4) = false) : Calls Tryd.prog 29 #[.agg #[.int .i64 i, .int .i64 s, .int .i64 ex, .int .i64 k, .int .i64 a]] w (NumPost (.agg #[.int .i64 k, .int .i64 a]) w) := by
  go_enter Tryd.func29, Tryd.ntmps29
  go_wp2_with fail
  (try simp only [Exit.inBlock, Exit.then]); refine bodyPost_ret (v := .agg #[.int .i64 k, .int .i64 a]) (by rw [results_cell1 rfl]; go_simp) rfl ?_
  exact ⟨rfl, by repeat' (first | (with_reducible assumption) | (with_reducible exact Below.refl _ _) | (with_reducible refine below_drewN ?_ _) | (with_reducible refine Below.drew ?_) | (with_reducible refine Below.alloc ?_ ?_ _) | (with_reducible refine Below.setCell ?_ ?_ _) | go_size)⟩
theorem ev_any (o : Od) (w : World) : Calls Tryd.prog 29 #[o.v] w (NumPost (evOf o).v w) := by
  obtain ⟨i, s, ex, k, a⟩ := o
  by_cases h : k = 4
  · subst h; exact ev_c i s ex a w
  · have := ev_e i s ex k a w (by simp [h])
    simpa [Od.v, evOf, Ev.v, h] using this
set_option maxRecDepth 100000 in
set_option maxHeartbeats 1000000 in
theorem rapp_m (t : Int) (c : Bool) (x v k a : Int) (w : World) (HM : Hid (∀ X : World, Calls Tryd.prog 30 #[.agg #[.int .i64 t, .bool c, .int .i64 x, .int .i64 v]] X (NumPost (.bool false) X))) :
    Calls Tryd.prog 24 #[.agg #[.int .i64 t, .bool c, .int .i64 x, .int .i64 v], .agg #[.int .i64 k, .int .i64 a]] w (NumPost (.agg #[.int .i64 t, .bool c, .int .i64 x, .int .i64 v]) w) := by
  obtain ⟨w4, HW⟩ : ∃ w4, Hid (w4 = ((w.alloc (.cells #[.int .i64 t, .bool c, .int .i64 x, .int .i64 v] 25)).alloc (.cells #[.int .i64 k, .int .i64 a] 35)).alloc (.cells #[.int .i64 0, .bool false, .int .i64 0, .int .i64 0] 25)) := ⟨_, Lib.hid rfl⟩
  obtain ⟨hz4, hb4, hs4, he4, hn4⟩ := three_blocks HW.out
  go_enter Tryd.func24, Tryd.ntmps24
  go_wp2_with fail
  rw [← HW.out]
  refine (HM.out _).mono ?_
  rintro e w5 ⟨rfl, hb⟩
  have hs5 := (hb.block w.heap.size (by omega)).trans hs4
  have he5 := (hb.block (w.heap.size + 1) (by omega)).trans he4
  have hn5 := (hb.block (w.heap.size + 1 + 1) (by omega)).trans hn4
  have hb5 : Below w.heap.size w w5 := hb4.trans (hb.mono (by omega))
  have hz5 : w.heap.size + 1 + 1 < w5.heap.size := by have := hb.size; omega
  clear hb
  have a0 : w5.cell? ⟨w.heap.size, 0, none⟩ = some (.int .i64 t) := by rw [Lib.cell_of_heap hs5]; rfl
  have a1 : w5.cell? ⟨w.heap.size, 1, none⟩ = some (.bool c) := by rw [Lib.cell_of_heap hs5]; rfl
  have a2 : w5.cell? ⟨w.heap.size, 2, none⟩ = some (.int .i64 x) := by rw [Lib.cell_of_heap hs5]; rfl
  have a3 : w5.cell? ⟨w.heap.size, 3, none⟩ = some (.int .i64 v) := by rw [Lib.cell_of_heap hs5]; rfl
  have af : ∀ i, w5.frozen? ⟨w.heap.size, i, none⟩ = false := fun i => Lib.frozen_of_heap hs5 i
  have b0 : w5.cell? ⟨w.heap.size + 1, 0, none⟩ = some (.int .i64 k) := by rw [Lib.cell_of_heap he5]; rfl
  have b1 : w5.cell? ⟨w.heap.size + 1, 1, none⟩ = some (.int .i64 a) := by rw [Lib.cell_of_heap he5]; rfl
  have n0 : w5.cell? ⟨w.heap.size + 1 + 1, 0, none⟩ = some (.int .i64 0) := by rw [Lib.cell_of_heap hn5]; rfl
  have n1 : w5.cell? ⟨w.heap.size + 1 + 1, 1, none⟩ = some (.bool false) := by rw [Lib.cell_of_heap hn5]; rfl
  have n2 : w5.cell? ⟨w.heap.size + 1 + 1, 2, none⟩ = some (.int .i64 0) := by rw [Lib.cell_of_heap hn5]; rfl
  have n3 : w5.cell? ⟨w.heap.size + 1 + 1, 3, none⟩ = some (.int .i64 0) := by rw [Lib.cell_of_heap hn5]; rfl
  have nf : ∀ i, w5.frozen? ⟨w.heap.size + 1 + 1, i, none⟩ = false := fun i => Lib.frozen_of_heap hn5 i
  go_wp2_with fail
  (try simp only [Exit.inBlock, Exit.then]); refine bodyPost_ret (results_cell_row rfl _ _ (w.heap.size + 1 + 1) 25 #[.int .i64 t, .bool c, .int .i64 x, .int .i64 v] (0, 0) _ rfl (heap_setCell_same _ _ 3 _ _ _ (heap_setCell_same _ _ 2 _ _ _ (heap_setCell_same _ _ 1 _ _ _ (heap_setCell_same _ _ 0 _ _ _ hn5)))) Tryd.underlying25 rfl (by kernel_rfl)) rfl ?_
  exact ⟨rfl, by repeat' (first | (with_reducible assumption) | (with_reducible exact Below.refl _ _) | (with_reducible refine below_drewN ?_ _) | (with_reducible refine Below.drew ?_) | (with_reducible refine Below.alloc ?_ ?_ _) | (with_reducible refine Below.setCell ?_ ?_ _) | go_size)⟩
set_option maxRecDepth 100000 in
set_option maxHeartbeats 1000000 in
theorem rapp_c (t : Int) (c : Bool) (x v k a : Int) (w : World) (HM : Hid (∀ X : World, Calls Tryd.prog 30 #[.agg #[.int .i64 t, .bool c, .int .i64 x, .int .i64 v]] X (NumPost (.bool true) X))) (HC : Hid (∀ X : World, Calls Tryd.prog 32 #[.agg #[.int .i64 t, .bool c, .int .i64 x, .int .i64 v], .agg #[.int .i64 k, .int .i64 a]] X (NumPost (.bool false) X))) :
    Calls Tryd.prog 24 #[.agg #[.int .i64 t, .bool c, .int .i64 x, .int .i64 v], .agg #[.int .i64 k, .int .i64 a]] w (NumPost (.agg #[.int .i64 t, .bool c, .int .i64 x, .int .i64 v]) w) := by
  obtain ⟨w4, HW⟩ : ∃ w4, Hid (w4 = ((w.alloc (.cells #[.int .i64 t, .bool c, .int .i64 x, .int .i64 v] 25)).alloc (.cells #[.int .i64 k, .int .i64 a] 35)).alloc (.cells #[.int .i64 0, .bool false, .int .i64 0, .int .i64 0] 25)) := ⟨_, Lib.hid rfl⟩
  obtain ⟨hz4, hb4, hs4, he4, hn4⟩ := three_blocks HW.out
  go_enter Tryd.func24, Tryd.ntmps24
  go_wp2_with fail
  rw [← HW.out]
  refine (HM.out _).mono ?_
  rintro e w5 ⟨rfl, hb⟩
  have hs5 := (hb.block w.heap.size (by omega)).trans hs4
  have he5 := (hb.block (w.heap.size + 1) (by omega)).trans he4
  have hn5 := (hb.block (w.heap.size + 1 + 1) (by omega)).trans hn4
  have hb5 : Below w.heap.size w w5 := hb4.trans (hb.mono (by omega))
  have hz5 : w.heap.size + 1 + 1 < w5.heap.size := by have := hb.size; omega
  clear hb
  have a0 : w5.cell? ⟨w.heap.size, 0, none⟩ = some (.int .i64 t) := by rw [Lib.cell_of_heap hs5]; rfl
  have a1 : w5.cell? ⟨w.heap.size, 1, none⟩ = some (.bool c) := by rw [Lib.cell_of_heap hs5]; rfl
  have a2 : w5.cell? ⟨w.heap.size, 2, none⟩ = some (.int .i64 x) := by rw [Lib.cell_of_heap hs5]; rfl
  have a3 : w5.cell? ⟨w.heap.size, 3, none⟩ = some (.int .i64 v) := by rw [Lib.cell_of_heap hs5]; rfl
  have af : ∀ i, w5.frozen? ⟨w.heap.size, i, none⟩ = false := fun i => Lib.frozen_of_heap hs5 i
  have b0 : w5.cell? ⟨w.heap.size + 1, 0, none⟩ = some (.int .i64 k) := by rw [Lib.cell_of_heap he5]; rfl
  have b1 : w5.cell? ⟨w.heap.size + 1, 1, none⟩ = some (.int .i64 a) := by rw [Lib.cell_of_heap he5]; rfl
  have n0 : w5.cell? ⟨w.heap.size + 1 + 1, 0, none⟩ = some (.int .i64 0) := by rw [Lib.cell_of_heap hn5]; rfl
  have n1 : w5.cell? ⟨w.heap.size + 1 + 1, 1, none⟩ = some (.bool false) := by rw [Lib.cell_of_heap hn5]; rfl
  have n2 : w5.cell? ⟨w.heap.size + 1 + 1, 2, none⟩ = some (.int .i64 0) := by rw [Lib.cell_of_heap hn5]; rfl
  have n3 : w5.cell? ⟨w.heap.size + 1 + 1, 3, none⟩ = some (.int .i64 0) := by rw [Lib.cell_of_heap hn5]; rfl
  have nf : ∀ i, w5.frozen? ⟨w.heap.size + 1 + 1, i, none⟩ = false := fun i => Lib.frozen_of_heap hn5 i
  go_wp2_with fail
  refine (HC.out _).mono ?_
  rintro e w6 ⟨rfl, hb⟩
  have hs6 := (hb.block w.heap.size (by omega)).trans hs5
  have he6 := (hb.block (w.heap.size + 1) (by omega)).trans he5
  have hn6 := (hb.block (w.heap.size + 1 + 1) (by omega)).trans hn5
  have hb6 : Below w.heap.size w w6 := hb5.trans (hb.mono (by omega))
  have hz6 : w.heap.size + 1 + 1 < w6.heap.size := by have := hb.size; omega
  clear hb
  clear a0 a1 a2 a3 af b0 b1 n0 n1 n2 n3 nf
  have a0 : w6.cell? ⟨w.heap.size, 0, none⟩ = some (.int .i64 t) := by rw [Lib.cell_of_heap hs6]; rfl
  have a1 : w6.cell? ⟨w.heap.size, 1, none⟩ = some (.bool c) := by rw [Lib.cell_of_heap hs6]; rfl
  have a2 : w6.cell? ⟨w.heap.size, 2, none⟩ = some (.int .i64 x) := by rw [Lib.cell_of_heap hs6]; rfl
  have a3 : w6.cell? ⟨w.heap.size, 3, none⟩ = some (.int .i64 v) := by rw [Lib.cell_of_heap hs6]; rfl
  have af : ∀ i, w6.frozen? ⟨w.heap.size, i, none⟩ = false := fun i => Lib.frozen_of_heap hs6 i
  have b0 : w6.cell? ⟨w.heap.size + 1, 0, none⟩ = some (.int .i64 k) := by rw [Lib.cell_of_heap he6]; rfl
  have b1 : w6.cell? ⟨w.heap.size + 1, 1, none⟩ = some (.int .i64 a) := by rw [Lib.cell_of_heap he6]; rfl
  have n0 : w6.cell? ⟨w.heap.size + 1 + 1, 0, none⟩ = some (.int .i64 0) := by rw [Lib.cell_of_heap hn6]; rfl
  have n1 : w6.cell? ⟨w.heap.size + 1 + 1, 1, none⟩ = some (.bool false) := by rw [Lib.cell_of_heap hn6]; rfl
  have n2 : w6.cell? ⟨w.heap.size + 1 + 1, 2, none⟩ = some (.int .i64 0) := by rw [Lib.cell_of_heap hn6]; rfl
  have n3 : w6.cell? ⟨w.heap.size + 1 + 1, 3, none⟩ = some (.int .i64 0) := by rw [Lib.cell_of_heap hn6]; rfl
  have nf : ∀ i, w6.frozen? ⟨w.heap.size + 1 + 1, i, none⟩ = false := fun i => Lib.frozen_of_heap hn6 i
  go_wp2_with fail
  (try simp only [Exit.inBlock, Exit.then]); refine bodyPost_ret (results_cell_row rfl _ _ (w.heap.size + 1 + 1) 25 #[.int .i64 t, .bool c, .int .i64 x, .int .i64 v] (0, 0) _ rfl (heap_setCell_same _ _ 3 _ _ _ (heap_setCell_same _ _ 2 _ _ _ (heap_setCell_same _ _ 1 _ _ _ (heap_setCell_same _ _ 0 _ _ _ hn6)))) Tryd.underlying25 rfl (by kernel_rfl)) rfl ?_
  exact ⟨rfl, by repeat' (first | (with_reducible assumption) | (with_reducible exact Below.refl _ _) | (with_reducible refine below_drewN ?_ _) | (with_reducible refine Below.drew ?_) | (with_reducible refine Below.alloc ?_ ?_ _) | (with_reducible refine Below.setCell ?_ ?_ _) | go_size)⟩
set_option maxRecDepth 100000 in
set_option maxHeartbeats 1000000 in
theorem rapp_1 (t : Int) (c : Bool) (x v a : Int) (w : World) (HM : Hid (∀ X : World, Calls Tryd.prog 30 #[.agg #[.int .i64 t, .bool c, .int .i64 x, .int .i64 v]] X (NumPost (.bool true) X))) (HC : Hid (∀ X : World, Calls Tryd.prog 32 #[.agg #[.int .i64 t, .bool c, .int .i64 x, .int .i64 v], .agg #[.int .i64 1, .int .i64 a]] X (NumPost (.bool true) X))) (hv0 : 0 ≤ v) (hv1 : v < 1099511627776) :
    Calls Tryd.prog 24 #[.agg #[.int .i64 t, .bool c, .int .i64 x, .int .i64 v], .agg #[.int .i64 1, .int .i64 a]] w (NumPost (.agg #[.int .i64 a, .bool c, .int .i64 x, .int .i64 (v + 1)]) w) := by
  obtain ⟨w4, HW⟩ : ∃ w4, Hid (w4 = ((w.alloc (.cells #[.int .i64 t, .bool c, .int .i64 x, .int .i64 v] 25)).alloc (.cells #[.int .i64 1, .int .i64 a] 35)).alloc (.cells #[.int .i64 0, .bool false, .int .i64 0, .int .i64 0] 25)) := ⟨_, Lib.hid rfl⟩
  obtain ⟨hz4, hb4, hs4, he4, hn4⟩ := three_blocks HW.out
  go_enter Tryd.func24, Tryd.ntmps24
  go_wp2_with fail
  rw [← HW.out]
  refine (HM.out _).mono ?_
  rintro e w5 ⟨rfl, hb⟩
  have hs5 := (hb.block w.heap.size (by omega)).trans hs4
  have he5 := (hb.block (w.heap.size + 1) (by omega)).trans he4
  have hn5 := (hb.block (w.heap.size + 1 + 1) (by omega)).trans hn4
  have hb5 : Below w.heap.size w w5 := hb4.trans (hb.mono (by omega))
  have hz5 : w.heap.size + 1 + 1 < w5.heap.size := by have := hb.size; omega
  clear hb
  have a0 : w5.cell? ⟨w.heap.size, 0, none⟩ = some (.int .i64 t) := by rw [Lib.cell_of_heap hs5]; rfl
  have a1 : w5.cell? ⟨w.heap.size, 1, none⟩ = some (.bool c) := by rw [Lib.cell_of_heap hs5]; rfl
  have a2 : w5.cell? ⟨w.heap.size, 2, none⟩ = some (.int .i64 x) := by rw [Lib.cell_of_heap hs5]; rfl
  have a3 : w5.cell? ⟨w.heap.size, 3, none⟩ = some (.int .i64 v) := by rw [Lib.cell_of_heap hs5]; rfl
  have af : ∀ i, w5.frozen? ⟨w.heap.size, i, none⟩ = false := fun i => Lib.frozen_of_heap hs5 i
  have b0 : w5.cell? ⟨w.heap.size + 1, 0, none⟩ = some (.int .i64 1) := by rw [Lib.cell_of_heap he5]; rfl
  have b1 : w5.cell? ⟨w.heap.size + 1, 1, none⟩ = some (.int .i64 a) := by rw [Lib.cell_of_heap he5]; rfl
  have n0 : w5.cell? ⟨w.heap.size + 1 + 1, 0, none⟩ = some (.int .i64 0) := by rw [Lib.cell_of_heap hn5]; rfl
  have n1 : w5.cell? ⟨w.heap.size + 1 + 1, 1, none⟩ = some (.bool false) := by rw [Lib.cell_of_heap hn5]; rfl
  have n2 : w5.cell? ⟨w.heap.size + 1 + 1, 2, none⟩ = some (.int .i64 0) := by rw [Lib.cell_of_heap hn5]; rfl
  have n3 : w5.cell? ⟨w.heap.size + 1 + 1, 3, none⟩ = some (.int .i64 0) := by rw [Lib.cell_of_heap hn5]; rfl
  have nf : ∀ i, w5.frozen? ⟨w.heap.size + 1 + 1, i, none⟩ = false := fun i => Lib.frozen_of_heap hn5 i
  go_wp2_with fail
  refine (HC.out _).mono ?_
  rintro e w6 ⟨rfl, hb⟩
  have hs6 := (hb.block w.heap.size (by omega)).trans hs5
  have he6 := (hb.block (w.heap.size + 1) (by omega)).trans he5
  have hn6 := (hb.block (w.heap.size + 1 + 1) (by omega)).trans hn5
  have hb6 : Below w.heap.size w w6 := hb5.trans (hb.mono (by omega))
  have hz6 : w.heap.size + 1 + 1 < w6.heap.size := by have := hb.size; omega
  clear hb
  clear a0 a1 a2 a3 af b0 b1 n0 n1 n2 n3 nf
  have a0 : w6.cell? ⟨w.heap.size, 0, none⟩ = some (.int .i64 t) := by rw [Lib.cell_of_heap hs6]; rfl
  have a1 : w6.cell? ⟨w.heap.size, 1, none⟩ = some (.bool c) := by rw [Lib.cell_of_heap hs6]; rfl
  have a2 : w6.cell? ⟨w.heap.size, 2, none⟩ = some (.int .i64 x) := by rw [Lib.cell_of_heap hs6]; rfl
  have a3 : w6.cell? ⟨w.heap.size, 3, none⟩ = some (.int .i64 v) := by rw [Lib.cell_of_heap hs6]; rfl
  have af : ∀ i, w6.frozen? ⟨w.heap.size, i, none⟩ = false := fun i => Lib.frozen_of_heap hs6 i
  have b0 : w6.cell? ⟨w.heap.size + 1, 0, none⟩ = some (.int .i64 1) := by rw [Lib.cell_of_heap he6]; rfl
  have b1 : w6.cell? ⟨w.heap.size + 1, 1, none⟩ = some (.int .i64 a) := by rw [Lib.cell_of_heap he6]; rfl
  have n0 : w6.cell? ⟨w.heap.size + 1 + 1, 0, none⟩ = some (.int .i64 0) := by rw [Lib.cell_of_heap hn6]; rfl
  have n1 : w6.cell? ⟨w.heap.size + 1 + 1, 1, none⟩ = some (.bool false) := by rw [Lib.cell_of_heap hn6]; rfl
  have n2 : w6.cell? ⟨w.heap.size + 1 + 1, 2, none⟩ = some (.int .i64 0) := by rw [Lib.cell_of_heap hn6]; rfl
  have n3 : w6.cell? ⟨w.heap.size + 1 + 1, 3, none⟩ = some (.int .i64 0) := by rw [Lib.cell_of_heap hn6]; rfl
  have nf : ∀ i, w6.frozen? ⟨w.heap.size + 1 + 1, i, none⟩ = false := fun i => Lib.frozen_of_heap hn6 i
  go_wp2_with fail
  (try simp only [Exit.inBlock, Exit.then]); refine bodyPost_ret (results_cell_row rfl _ _ (w.heap.size + 1 + 1) 25 #[.int .i64 a, .bool c, .int .i64 x, .int .i64 (v + 1)] (0, 0) _ rfl (heap_setCell_same _ _ 3 _ _ _ (heap_setCell_same _ _ 2 _ _ _ (heap_setCell_same _ _ 1 _ _ _ (heap_setCell_same _ _ 0 _ _ _ ((Below.heap_setCell _ _ _ _ (by show w.heap.size + 1 + 1 ≠ w.heap.size; omega)).trans ((Below.heap_setCell _ _ _ _ (by show w.heap.size + 1 + 1 ≠ w.heap.size; omega)).trans hn6)))))) Tryd.underlying25 rfl (by kernel_rfl)) rfl ?_
  exact ⟨rfl, by repeat' (first | (with_reducible assumption) | (with_reducible exact Below.refl _ _) | (with_reducible refine below_drewN ?_ _) | (with_reducible refine Below.drew ?_) | (with_reducible refine Below.alloc ?_ ?_ _) | (with_reducible refine Below.setCell ?_ ?_ _) | go_size)⟩
set_option maxRecDepth 100000 in
set_option maxHeartbeats 1000000 in
theorem rapp_2 (t : Int) (c : Bool) (x v a : Int) (w : World) (HM : Hid (∀ X : World, Calls Tryd.prog 30 #[.agg #[.int .i64 t, .bool c, .int .i64 x, .int .i64 v]] X (NumPost (.bool true) X))) (HC : Hid (∀ X : World, Calls Tryd.prog 32 #[.agg #[.int .i64 t, .bool c, .int .i64 x, .int .i64 v], .agg #[.int .i64 2, .int .i64 a]] X (NumPost (.bool true) X))) (hv0 : 0 ≤ v) (hv1 : v < 1099511627776) (h0 : -1099511627776 ≤ x) (h1 : 1 ≤ a) (h2 : x + a ≤ 1099511627776) :
    Calls Tryd.prog 24 #[.agg #[.int .i64 t, .bool c, .int .i64 x, .int .i64 v], .agg #[.int .i64 2, .int .i64 a]] w (NumPost (.agg #[.int .i64 t, .bool c, .int .i64 (x + a), .int .i64 (v + 1)]) w) := by
  obtain ⟨w4, HW⟩ : ∃ w4, Hid (w4 = ((w.alloc (.cells #[.int .i64 t, .bool c, .int .i64 x, .int .i64 v] 25)).alloc (.cells #[.int .i64 2, .int .i64 a] 35)).alloc (.cells #[.int .i64 0, .bool false, .int .i64 0, .int .i64 0] 25)) := ⟨_, Lib.hid rfl⟩
  obtain ⟨hz4, hb4, hs4, he4, hn4⟩ := three_blocks HW.out
  go_enter Tryd.func24, Tryd.ntmps24
  go_wp2_with fail
  rw [← HW.out]
  refine (HM.out _).mono ?_
  rintro e w5 ⟨rfl, hb⟩
  have hs5 := (hb.block w.heap.size (by omega)).trans hs4
  have he5 := (hb.block (w.heap.size + 1) (by omega)).trans he4
  have hn5 := (hb.block (w.heap.size + 1 + 1) (by omega)).trans hn4
  have hb5 : Below w.heap.size w w5 := hb4.trans (hb.mono (by omega))
  have hz5 : w.heap.size + 1 + 1 < w5.heap.size := by have := hb.size; omega
  clear hb
  have a0 : w5.cell? ⟨w.heap.size, 0, none⟩ = some (.int .i64 t) := by rw [Lib.cell_of_heap hs5]; rfl
  have a1 : w5.cell? ⟨w.heap.size, 1, none⟩ = some (.bool c) := by rw [Lib.cell_of_heap hs5]; rfl
  have a2 : w5.cell? ⟨w.heap.size, 2, none⟩ = some (.int .i64 x) := by rw [Lib.cell_of_heap hs5]; rfl
  have a3 : w5.cell? ⟨w.heap.size, 3, none⟩ = some (.int .i64 v) := by rw [Lib.cell_of_heap hs5]; rfl
  have af : ∀ i, w5.frozen? ⟨w.heap.size, i, none⟩ = false := fun i => Lib.frozen_of_heap hs5 i
  have b0 : w5.cell? ⟨w.heap.size + 1, 0, none⟩ = some (.int .i64 2) := by rw [Lib.cell_of_heap he5]; rfl
  have b1 : w5.cell? ⟨w.heap.size + 1, 1, none⟩ = some (.int .i64 a) := by rw [Lib.cell_of_heap he5]; rfl
  have n0 : w5.cell? ⟨w.heap.size + 1 + 1, 0, none⟩ = some (.int .i64 0) := by rw [Lib.cell_of_heap hn5]; rfl
  have n1 : w5.cell? ⟨w.heap.size + 1 + 1, 1, none⟩ = some (.bool false) := by rw [Lib.cell_of_heap hn5]; rfl
  have n2 : w5.cell? ⟨w.heap.size + 1 + 1, 2, none⟩ = some (.int .i64 0) := by rw [Lib.cell_of_heap hn5]; rfl
  have n3 : w5.cell? ⟨w.heap.size + 1 + 1, 3, none⟩ = some (.int .i64 0) := by rw [Lib.cell_of_heap hn5]; rfl
  have nf : ∀ i, w5.frozen? ⟨w.heap.size + 1 + 1, i, none⟩ = false := fun i => Lib.frozen_of_heap hn5 i
  go_wp2_with fail
  refine (HC.out _).mono ?_
  rintro e w6 ⟨rfl, hb⟩
  have hs6 := (hb.block w.heap.size (by omega)).trans hs5
  have he6 := (hb.block (w.heap.size + 1) (by omega)).trans he5
  have hn6 := (hb.block (w.heap.size + 1 + 1) (by omega)).trans hn5
  have hb6 : Below w.heap.size w w6 := hb5.trans (hb.mono (by omega))
  have hz6 : w.heap.size + 1 + 1 < w6.heap.size := by have := hb.size; omega
  clear hb
  clear a0 a1 a2 a3 af b0 b1 n0 n1 n2 n3 nf
  have a0 : w6.cell? ⟨w.heap.size, 0, none⟩ = some (.int .i64 t) := by rw [Lib.cell_of_heap hs6]; rfl
  have a1 : w6.cell? ⟨w.heap.size, 1, none⟩ = some (.bool c) := by rw [Lib.cell_of_heap hs6]; rfl
  have a2 : w6.cell? ⟨w.heap.size, 2, none⟩ = some (.int .i64 x) := by rw [Lib.cell_of_heap hs6]; rfl
  have a3 : w6.cell? ⟨w.heap.size, 3, none⟩ = some (.int .i64 v) := by rw [Lib.cell_of_heap hs6]; rfl
  have af : ∀ i, w6.frozen? ⟨w.heap.size, i, none⟩ = false := fun i => Lib.frozen_of_heap hs6 i
  have b0 : w6.cell? ⟨w.heap.size + 1, 0, none⟩ = some (.int .i64 2) := by rw [Lib.cell_of_heap he6]; rfl
  have b1 : w6.cell? ⟨w.heap.size + 1, 1, none⟩ = some (.int .i64 a) := by rw [Lib.cell_of_heap he6]; rfl
  have n0 : w6.cell? ⟨w.heap.size + 1 + 1, 0, none⟩ = some (.int .i64 0) := by rw [Lib.cell_of_heap hn6]; rfl
  have n1 : w6.cell? ⟨w.heap.size + 1 + 1, 1, none⟩ = some (.bool false) := by rw [Lib.cell_of_heap hn6]; rfl
  have n2 : w6.cell? ⟨w.heap.size + 1 + 1, 2, none⟩ = some (.int .i64 0) := by rw [Lib.cell_of_heap hn6]; rfl
  have n3 : w6.cell? ⟨w.heap.size + 1 + 1, 3, none⟩ = some (.int .i64 0) := by rw [Lib.cell_of_heap hn6]; rfl
  have nf : ∀ i, w6.frozen? ⟨w.heap.size + 1 + 1, i, none⟩ = false := fun i => Lib.frozen_of_heap hn6 i
  go_wp2_with fail
  (try simp only [Exit.inBlock, Exit.then]); refine bodyPost_ret (results_cell_row rfl _ _ (w.heap.size + 1 + 1) 25 #[.int .i64 t, .bool c, .int .i64 (x + a), .int .i64 (v + 1)] (0, 0) _ rfl (heap_setCell_same _ _ 3 _ _ _ (heap_setCell_same _ _ 2 _ _ _ (heap_setCell_same _ _ 1 _ _ _ (heap_setCell_same _ _ 0 _ _ _ ((Below.heap_setCell _ _ _ _ (by show w.heap.size + 1 + 1 ≠ w.heap.size; omega)).trans ((Below.heap_setCell _ _ _ _ (by show w.heap.size + 1 + 1 ≠ w.heap.size; omega)).trans hn6)))))) Tryd.underlying25 rfl (by kernel_rfl)) rfl ?_
  exact ⟨rfl, by repeat' (first | (with_reducible assumption) | (with_reducible exact Below.refl _ _) | (with_reducible refine below_drewN ?_ _) | (with_reducible refine Below.drew ?_) | (with_reducible refine Below.alloc ?_ ?_ _) | (with_reducible refine Below.setCell ?_ ?_ _) | go_size)⟩
set_option maxRecDepth 100000 in
set_option maxHeartbeats 1000000 in
theorem rapp_3 (t : Int) (c : Bool) (x v a : Int) (w : World) (HM : Hid (∀ X : World, Calls Tryd.prog 30 #[.agg #[.int .i64 t, .bool c, .int .i64 x, .int .i64 v]] X (NumPost (.bool true) X))) (HC : Hid (∀ X : World, Calls Tryd.prog 32 #[.agg #[.int .i64 t, .bool c, .int .i64 x, .int .i64 v], .agg #[.int .i64 3, .int .i64 a]] X (NumPost (.bool true) X))) (hv0 : 0 ≤ v) (hv1 : v < 1099511627776) (h0 : x ≤ 1099511627776) (h1 : 1 ≤ a) (h2 : -1099511627776 ≤ x - a) :
    Calls Tryd.prog 24 #[.agg #[.int .i64 t, .bool c, .int .i64 x, .int .i64 v], .agg #[.int .i64 3, .int .i64 a]] w (NumPost (.agg #[.int .i64 t, .bool c, .int .i64 (x - a), .int .i64 (v + 1)]) w) := by
  obtain ⟨w4, HW⟩ : ∃ w4, Hid (w4 = ((w.alloc (.cells #[.int .i64 t, .bool c, .int .i64 x, .int .i64 v] 25)).alloc (.cells #[.int .i64 3, .int .i64 a] 35)).alloc (.cells #[.int .i64 0, .bool false, .int .i64 0, .int .i64 0] 25)) := ⟨_, Lib.hid rfl⟩
  obtain ⟨hz4, hb4, hs4, he4, hn4⟩ := three_blocks HW.out
  go_enter Tryd.func24, Tryd.ntmps24
  go_wp2_with fail
  rw [← HW.out]
  refine (HM.out _).mono ?_
  rintro e w5 ⟨rfl, hb⟩
  have hs5 := (hb.block w.heap.size (by omega)).trans hs4
  have he5 := (hb.block (w.heap.size + 1) (by omega)).trans he4
  have hn5 := (hb.block (w.heap.size + 1 + 1) (by omega)).trans hn4
  have hb5 : Below w.heap.size w w5 := hb4.trans (hb.mono (by omega))
  have hz5 : w.heap.size + 1 + 1 < w5.heap.size := by have := hb.size; omega
  clear hb
  have a0 : w5.cell? ⟨w.heap.size, 0, none⟩ = some (.int .i64 t) := by rw [Lib.cell_of_heap hs5]; rfl
  have a1 : w5.cell? ⟨w.heap.size, 1, none⟩ = some (.bool c) := by rw [Lib.cell_of_heap hs5]; rfl
  have a2 : w5.cell? ⟨w.heap.size, 2, none⟩ = some (.int .i64 x) := by rw [Lib.cell_of_heap hs5]; rfl
  have a3 : w5.cell? ⟨w.heap.size, 3, none⟩ = some (.int .i64 v) := by rw [Lib.cell_of_heap hs5]; rfl
  have af : ∀ i, w5.frozen? ⟨w.heap.size, i, none⟩ = false := fun i => Lib.frozen_of_heap hs5 i
  have b0 : w5.cell? ⟨w.heap.size + 1, 0, none⟩ = some (.int .i64 3) := by rw [Lib.cell_of_heap he5]; rfl
  have b1 : w5.cell? ⟨w.heap.size + 1, 1, none⟩ = some (.int .i64 a) := by rw [Lib.cell_of_heap he5]; rfl
  have n0 : w5.cell? ⟨w.heap.size + 1 + 1, 0, none⟩ = some (.int .i64 0) := by rw [Lib.cell_of_heap hn5]; rfl
  have n1 : w5.cell? ⟨w.heap.size + 1 + 1, 1, none⟩ = some (.bool false) := by rw [Lib.cell_of_heap hn5]; rfl
  have n2 : w5.cell? ⟨w.heap.size + 1 + 1, 2, none⟩ = some (.int .i64 0) := by rw [Lib.cell_of_heap hn5]; rfl
  have n3 : w5.cell? ⟨w.heap.size + 1 + 1, 3, none⟩ = some (.int .i64 0) := by rw [Lib.cell_of_heap hn5]; rfl
  have nf : ∀ i, w5.frozen? ⟨w.heap.size + 1 + 1, i, none⟩ = false := fun i => Lib.frozen_of_heap hn5 i
  go_wp2_with fail
  refine (HC.out _).mono ?_
  rintro e w6 ⟨rfl, hb⟩
  have hs6 := (hb.block w.heap.size (by omega)).trans hs5
  have he6 := (hb.block (w.heap.size + 1) (by omega)).trans he5
  have hn6 := (hb.block (w.heap.size + 1 + 1) (by omega)).trans hn5
  have hb6 : Below w.heap.size w w6 := hb5.trans (hb.mono (by omega))
  have hz6 : w.heap.size + 1 + 1 < w6.heap.size := by have := hb.size; omega
  clear hb
  clear a0 a1 a2 a3 af b0 b1 n0 n1 n2 n3 nf
  have a0 : w6.cell? ⟨w.heap.size, 0, none⟩ = some (.int .i64 t) := by rw [Lib.cell_of_heap hs6]; rfl
  have a1 : w6.cell? ⟨w.heap.size, 1, none⟩ = some (.bool c) := by rw [Lib.cell_of_heap hs6]; rfl
  have a2 : w6.cell? ⟨w.heap.size, 2, none⟩ = some (.int .i64 x) := by rw [Lib.cell_of_heap hs6]; rfl
  have a3 : w6.cell? ⟨w.heap.size, 3, none⟩ = some (.int .i64 v) := by rw [Lib.cell_of_heap hs6]; rfl
  have af : ∀ i, w6.frozen? ⟨w.heap.size, i, none⟩ = false := fun i => Lib.frozen_of_heap hs6 i
  have b0 : w6.cell? ⟨w.heap.size + 1, 0, none⟩ = some (.int .i64 3) := by rw [Lib.cell_of_heap he6]; rfl
  have b1 : w6.cell? ⟨w.heap.size + 1, 1, none⟩ = some (.int .i64 a) := by rw [Lib.cell_of_heap he6]; rfl
  have n0 : w6.cell? ⟨w.heap.size + 1 + 1, 0, none⟩ = some (.int .i64 0) := by rw [Lib.cell_of_heap hn6]; rfl
  have n1 : w6.cell? ⟨w.heap.size + 1 + 1, 1, none⟩ = some (.bool false) := by rw [Lib.cell_of_heap hn6]; rfl
  have n2 : w6.cell? ⟨w.heap.size + 1 + 1, 2, none⟩ = some (.int .i64 0) := by rw [Lib.cell_of_heap hn6]; rfl
  have n3 : w6.cell? ⟨w.heap.size + 1 + 1, 3, none⟩ = some (.int .i64 0) := by rw [Lib.cell_of_heap hn6]; rfl
  have nf : ∀ i, w6.frozen? ⟨w.heap.size + 1 + 1, i, none⟩ = false := fun i => Lib.frozen_of_heap hn6 i
  go_wp2_with fail
  (try simp only [Exit.inBlock, Exit.then]); refine bodyPost_ret (results_cell_row rfl _ _ (w.heap.size + 1 + 1) 25 #[.int .i64 t, .bool c, .int .i64 (x - a), .int .i64 (v + 1)] (0, 0) _ rfl (heap_setCell_same _ _ 3 _ _ _ (heap_setCell_same _ _ 2 _ _ _ (heap_setCell_same _ _ 1 _ _ _ (heap_setCell_same _ _ 0 _ _ _ ((Below.heap_setCell _ _ _ _ (by show w.heap.size + 1 + 1 ≠ w.heap.size; omega)).trans ((Below.heap_setCell _ _ _ _ (by show w.heap.size + 1 + 1 ≠ w.heap.size; omega)).trans hn6)))))) Tryd.underlying25 rfl (by kernel_rfl)) rfl ?_
  exact ⟨rfl, by repeat' (first | (with_reducible assumption) | (with_reducible exact Below.refl _ _) | (with_reducible refine below_drewN ?_ _) | (with_reducible refine Below.drew ?_) | (with_reducible refine Below.alloc ?_ ?_ _) | (with_reducible refine Below.setCell ?_ ?_ _) | go_size)⟩
set_option maxRecDepth 100000 in
set_option maxHeartbeats 1000000 in
theorem rapp_4 (t : Int) (c : Bool) (x v a : Int) (w : World) (HM : Hid (∀ X : World, Calls Tryd.prog 30 #[.agg #[.int .i64 t, .bool c, .int .i64 x, .int .i64 v]] X (NumPost (.bool true) X))) (HC : Hid (∀ X : World, Calls Tryd.prog 32 #[.agg #[.int .i64 t, .bool c, .int .i64 x, .int .i64 v], .agg #[.int .i64 4, .int .i64 a]] X (NumPost (.bool true) X))) (hv0 : 0 ≤ v) (hv1 : v < 1099511627776) :
    Calls Tryd.prog 24 #[.agg #[.int .i64 t, .bool c, .int .i64 x, .int .i64 v], .agg #[.int .i64 4, .int .i64 a]] w (NumPost (.agg #[.int .i64 t, .bool true, .int .i64 x, .int .i64 (v + 1)]) w) := by
  obtain ⟨w4, HW⟩ : ∃ w4, Hid (w4 = ((w.alloc (.cells #[.int .i64 t, .bool c, .int .i64 x, .int .i64 v] 25)).alloc (.cells #[.int .i64 4, .int .i64 a] 35)).alloc (.cells #[.int .i64 0, .bool false, .int .i64 0, .int .i64 0] 25)) := ⟨_, Lib.hid rfl⟩
  obtain ⟨hz4, hb4, hs4, he4, hn4⟩ := three_blocks HW.out
  go_enter Tryd.func24, Tryd.ntmps24
  go_wp2_with fail
  rw [← HW.out]
  refine (HM.out _).mono ?_
  rintro e w5 ⟨rfl, hb⟩
  have hs5 := (hb.block w.heap.size (by omega)).trans hs4
  have he5 := (hb.block (w.heap.size + 1) (by omega)).trans he4
  have hn5 := (hb.block (w.heap.size + 1 + 1) (by omega)).trans hn4
  have hb5 : Below w.heap.size w w5 := hb4.trans (hb.mono (by omega))
  have hz5 : w.heap.size + 1 + 1 < w5.heap.size := by have := hb.size; omega
  clear hb
  have a0 : w5.cell? ⟨w.heap.size, 0, none⟩ = some (.int .i64 t) := by rw [Lib.cell_of_heap hs5]; rfl
  have a1 : w5.cell? ⟨w.heap.size, 1, none⟩ = some (.bool c) := by rw [Lib.cell_of_heap hs5]; rfl
  have a2 : w5.cell? ⟨w.heap.size, 2, none⟩ = some (.int .i64 x) := by rw [Lib.cell_of_heap hs5]; rfl
  have a3 : w5.cell? ⟨w.heap.size, 3, none⟩ = some (.int .i64 v) := by rw [Lib.cell_of_heap hs5]; rfl
  have af : ∀ i, w5.frozen? ⟨w.heap.size, i, none⟩ = false := fun i => Lib.frozen_of_heap hs5 i
  have b0 : w5.cell? ⟨w.heap.size + 1, 0, none⟩ = some (.int .i64 4) := by rw [Lib.cell_of_heap he5]; rfl
  have b1 : w5.cell? ⟨w.heap.size + 1, 1, none⟩ = some (.int .i64 a) := by rw [Lib.cell_of_heap he5]; rfl
  have n0 : w5.cell? ⟨w.heap.size + 1 + 1, 0, none⟩ = some (.int .i64 0) := by rw [Lib.cell_of_heap hn5]; rfl
  have n1 : w5.cell? ⟨w.heap.size + 1 + 1, 1, none⟩ = some (.bool false) := by rw [Lib.cell_of_heap hn5]; rfl
  have n2 : w5.cell? ⟨w.heap.size + 1 + 1, 2, none⟩ = some (.int .i64 0) := by rw [Lib.cell_of_heap hn5]; rfl
  have n3 : w5.cell? ⟨w.heap.size + 1 + 1, 3, none⟩ = some (.int .i64 0) := by rw [Lib.cell_of_heap hn5]; rfl
  have nf : ∀ i, w5.frozen? ⟨w.heap.size + 1 + 1, i, none⟩ = false := fun i => Lib.frozen_of_heap hn5 i
  go_wp2_with fail
  refine (HC.out _).mono ?_
  rintro e w6 ⟨rfl, hb⟩
  have hs6 := (hb.block w.heap.size (by omega)).trans hs5
  have he6 := (hb.block (w.heap.size + 1) (by omega)).trans he5
  have hn6 := (hb.block (w.heap.size + 1 + 1) (by omega)).trans hn5
  have hb6 : Below w.heap.size w w6 := hb5.trans (hb.mono (by omega))
  have hz6 : w.heap.size + 1 + 1 < w6.heap.size := by have := hb.size; omega
  clear hb
  clear a0 a1 a2 a3 af b0 b1 n0 n1 n2 n3 nf
  have a0 : w6.cell? ⟨w.heap.size, 0, none⟩ = some (.int .i64 t) := by rw [Lib.cell_of_heap hs6]; rfl
  have a1 : w6.cell? ⟨w.heap.size, 1, none⟩ = some (.bool c) := by rw [Lib.cell_of_heap hs6]; rfl
  have a2 : w6.cell? ⟨w.heap.size, 2, none⟩ = some (.int .i64 x) := by rw [Lib.cell_of_heap hs6]; rfl
  have a3 : w6.cell? ⟨w.heap.size, 3, none⟩ = some (.int .i64 v) := by rw [Lib.cell_of_heap hs6]; rfl
  have af : ∀ i, w6.frozen? ⟨w.heap.size, i, none⟩ = false := fun i => Lib.frozen_of_heap hs6 i
  have b0 : w6.cell? ⟨w.heap.size + 1, 0, none⟩ = some (.int .i64 4) := by rw [Lib.cell_of_heap he6]; rfl
  have b1 : w6.cell? ⟨w.heap.size + 1, 1, none⟩ = some (.int .i64 a) := by rw [Lib.cell_of_heap he6]; rfl
  have n0 : w6.cell? ⟨w.heap.size + 1 + 1, 0, none⟩ = some (.int .i64 0) := by rw [Lib.cell_of_heap hn6]; rfl
  have n1 : w6.cell? ⟨w.heap.size + 1 + 1, 1, none⟩ = some (.bool false) := by rw [Lib.cell_of_heap hn6]; rfl
  have n2 : w6.cell? ⟨w.heap.size + 1 + 1, 2, none⟩ = some (.int .i64 0) := by rw [Lib.cell_of_heap hn6]; rfl
  have n3 : w6.cell? ⟨w.heap.size + 1 + 1, 3, none⟩ = some (.int .i64 0) := by rw [Lib.cell_of_heap hn6]; rfl
  have nf : ∀ i, w6.frozen? ⟨w.heap.size + 1 + 1, i, none⟩ = false := fun i => Lib.frozen_of_heap hn6 i
  go_wp2_with fail
  (try simp only [Exit.inBlock, Exit.then]); refine bodyPost_ret (results_cell_row rfl _ _ (w.heap.size + 1 + 1) 25 #[.int .i64 t, .bool true, .int .i64 x, .int .i64 (v + 1)] (0, 0) _ rfl (heap_setCell_same _ _ 3 _ _ _ (heap_setCell_same _ _ 2 _ _ _ (heap_setCell_same _ _ 1 _ _ _ (heap_setCell_same _ _ 0 _ _ _ ((Below.heap_setCell _ _ _ _ (by show w.heap.size + 1 + 1 ≠ w.heap.size; omega)).trans ((Below.heap_setCell _ _ _ _ (by show w.heap.size + 1 + 1 ≠ w.heap.size; omega)).trans hn6)))))) Tryd.underlying25 rfl (by kernel_rfl)) rfl ?_
  exact ⟨rfl, by repeat' (first | (with_reducible assumption) | (with_reducible exact Below.refl _ _) | (with_reducible refine below_drewN ?_ _) | (with_reducible refine Below.drew ?_) | (with_reducible refine Below.alloc ?_ ?_ _) | (with_reducible refine Below.setCell ?_ ?_ _) | go_size)⟩
end Go.Proofs.YtafhjlfnhgkcoaaDoor
