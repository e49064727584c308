/-
  Decide of package deeds.
-/
import Derived.Test.YtafhjlfnhgkcoaaDoorAeApp
namespace Go.Proofs.YtafhjlfnhgkcoaaDoor
open Go.RowKit Go.Sort
/-- The events that an outcome has: none, or one in a row of its own behind base. -/
def EvS (w : World) (base : Nat) (V : Value) (l : List Ev) : Prop :=
  (l = [] ∧ V = .slice none 0 0) ∨ ∃ e g, l = [e] ∧ V = .slice (some ⟨g, 0, none⟩) 1 1 ∧ base ≤ g ∧ w.heap[g]? = some (.cells #[.int .i64 e.k, .int .i64 e.a] 35 (0, 0))
/-- What a call that decides leaves. -/
def DecPost (r : Oc) (w : World) (e : Ending) (w' : World) : Prop := ∃ V, e = .returned (.agg #[.int .i64 r.code, .int .i64 r.ver, V]) ∧ EvS w' w.heap.size V r.evs ∧ Below w.heap.size w w'
set_option maxRecDepth 100000 in
set_option maxHeartbeats 2000000 in
theorem dec_bad (t : Int) (c : Bool) (x v i s ex k a : Int) (w : World) (HM : Hid (∀ X : World, Calls Tryd.prog 27 #[.agg #[.int .i64 t, .bool c, .int .i64 x, .int .i64 v]] X (NumPost (.bool false) X))) :
    Calls Tryd.prog 20 #[.agg #[.int .i64 t, .bool c, .int .i64 x, .int .i64 v], .agg #[.int .i64 i, .int .i64 s, .int .i64 ex, .int .i64 k, .int .i64 a]] w (DecPost ⟨7, 0, []⟩ w) := by
  obtain ⟨w4, HW⟩ : ∃ w4, Hid (w4 = ((w.alloc (.cells #[.int .i64 t, .bool c, .int .i64 x, .int .i64 v] 25)).alloc (.cells #[.int .i64 i, .int .i64 s, .int .i64 ex, .int .i64 k, .int .i64 a] 43)).alloc (.cells #[.int .i64 0, .int .i64 0, .slice none 0 0] 33)) := ⟨_, Lib.hid rfl⟩
  obtain ⟨hz4, hb4, hs4, ho4, hn4⟩ := three_blocks HW.out
  go_enter Tryd.func20, Tryd.ntmps20
  go_wp2_with fail
  rw [← HW.out]
  refine (HM.out _).mono ?_
  rintro e w5 ⟨rfl, hb⟩
  have hs5 := (hb.block (w.heap.size) (by omega)).trans hs4
  have ho5 := (hb.block (w.heap.size + 1) (by omega)).trans ho4
  have hn5 := (hb.block (w.heap.size + 1 + 1) (by omega)).trans hn4
  have hb5 : Below w.heap.size w w5 := hb4.trans (hb.mono (by omega))
  have hz5 : w4.heap.size ≤ w5.heap.size := hb.size
  clear hb
  have n0 : w5.cell? ⟨w.heap.size + 1 + 1, 0, none⟩ = some (.int .i64 0) := by rw [Lib.cell_of_heap hn5]; rfl
  have n1 : w5.cell? ⟨w.heap.size + 1 + 1, 1, none⟩ = some (.int .i64 0) := by rw [Lib.cell_of_heap hn5]; rfl
  have n2 : w5.cell? ⟨w.heap.size + 1 + 1, 2, none⟩ = some (.slice none 0 0) := by rw [Lib.cell_of_heap hn5]; rfl
  have nf : ∀ i, w5.frozen? ⟨w.heap.size + 1 + 1, i, none⟩ = false := fun i => Lib.frozen_of_heap hn5 i
  go_wp2_with fail
  (try simp only [Exit.inBlock, Exit.then]); refine bodyPost_ret (results_cell_row rfl _ _ (w.heap.size + 1 + 1) 33 #[.int .i64 7, .int .i64 0, .slice none 0 0] (0, 0) _ rfl (heap_setCell_same _ _ 2 _ _ _ (heap_setCell_same _ _ 1 _ _ _ (heap_setCell_same _ _ 0 _ _ _ hn5))) Tryd.underlying33 rfl (by kernel_rfl)) rfl ?_
  exact ⟨_, rfl, .inl ⟨rfl, rfl⟩, by repeat' (first | (with_reducible assumption) | (with_reducible exact Below.refl _ _) | (with_reducible refine below_drewN ?_ _) | (with_reducible refine Below.drew ?_) | (with_reducible refine Below.alloc ?_ ?_ _) | (with_reducible refine Below.setCell ?_ ?_ _) | go_size)⟩
set_option maxRecDepth 100000 in
set_option maxHeartbeats 2000000 in
theorem dec_ord (t : Int) (c : Bool) (x v i s ex k a : Int) (w : World) (HM : Hid (∀ X : World, Calls Tryd.prog 27 #[.agg #[.int .i64 t, .bool c, .int .i64 x, .int .i64 v]] X (NumPost (.bool true) X))) (HC : Hid (∀ X : World, Below w.heap.size w X → Calls Tryd.prog 28 #[.agg #[.int .i64 i, .int .i64 s, .int .i64 ex, .int .i64 k, .int .i64 a]] X (NumPost (.int .i64 2) X))) :
    Calls Tryd.prog 20 #[.agg #[.int .i64 t, .bool c, .int .i64 x, .int .i64 v], .agg #[.int .i64 i, .int .i64 s, .int .i64 ex, .int .i64 k, .int .i64 a]] w (DecPost ⟨7, v, []⟩ w) := by
  obtain ⟨w4, HW⟩ : ∃ w4, Hid (w4 = ((w.alloc (.cells #[.int .i64 t, .bool c, .int .i64 x, .int .i64 v] 25)).alloc (.cells #[.int .i64 i, .int .i64 s, .int .i64 ex, .int .i64 k, .int .i64 a] 43)).alloc (.cells #[.int .i64 0, .int .i64 0, .slice none 0 0] 33)) := ⟨_, Lib.hid rfl⟩
  obtain ⟨hz4, hb4, hs4, ho4, hn4⟩ := three_blocks HW.out
  go_enter Tryd.func20, Tryd.ntmps20
  go_wp2_with fail
  rw [← HW.out]
  refine (HM.out _).mono ?_
  rintro e w5 ⟨rfl, hb⟩
  have hs5 := (hb.block (w.heap.size) (by omega)).trans hs4
  have ho5 := (hb.block (w.heap.size + 1) (by omega)).trans ho4
  have hn5 := (hb.block (w.heap.size + 1 + 1) (by omega)).trans hn4
  have hb5 : Below w.heap.size w w5 := hb4.trans (hb.mono (by omega))
  have hz5 : w4.heap.size ≤ w5.heap.size := hb.size
  clear hb
  have o0 : w5.cell? ⟨w.heap.size + 1, 0, none⟩ = some (.int .i64 i) := by rw [Lib.cell_of_heap ho5]; rfl
  have o1 : w5.cell? ⟨w.heap.size + 1, 1, none⟩ = some (.int .i64 s) := by rw [Lib.cell_of_heap ho5]; rfl
  have o2 : w5.cell? ⟨w.heap.size + 1, 2, none⟩ = some (.int .i64 ex) := by rw [Lib.cell_of_heap ho5]; rfl
  have o3 : w5.cell? ⟨w.heap.size + 1, 3, none⟩ = some (.int .i64 k) := by rw [Lib.cell_of_heap ho5]; rfl
  have o4 : w5.cell? ⟨w.heap.size + 1, 4, none⟩ = some (.int .i64 a) := by rw [Lib.cell_of_heap ho5]; rfl
  go_wp2_with fail
  refine (HC.out _ hb5).mono ?_
  rintro e w6 ⟨rfl, hb⟩
  have hs6 := (hb.block (w.heap.size) (by omega)).trans hs5
  have ho6 := (hb.block (w.heap.size + 1) (by omega)).trans ho5
  have hn6 := (hb.block (w.heap.size + 1 + 1) (by omega)).trans hn5
  have hb6 : Below w.heap.size w w6 := hb5.trans (hb.mono (by omega))
  have hz6 : w5.heap.size ≤ w6.heap.size := hb.size
  clear hb
  clear o0 o1 o2 o3 o4
  have n0 : w6.cell? ⟨w.heap.size + 1 + 1, 0, none⟩ = some (.int .i64 0) := by rw [Lib.cell_of_heap hn6]; rfl
  have n1 : w6.cell? ⟨w.heap.size + 1 + 1, 1, none⟩ = some (.int .i64 0) := by rw [Lib.cell_of_heap hn6]; rfl
  have n2 : w6.cell? ⟨w.heap.size + 1 + 1, 2, none⟩ = some (.slice none 0 0) := by rw [Lib.cell_of_heap hn6]; rfl
  have nf : ∀ i, w6.frozen? ⟨w.heap.size + 1 + 1, i, none⟩ = false := fun i => Lib.frozen_of_heap hn6 i
  have a3 : w6.cell? ⟨w.heap.size, 3, none⟩ = some (.int .i64 v) := by rw [Lib.cell_of_heap hs6]; rfl
  go_wp2_with fail
  (try simp only [Exit.inBlock, Exit.then]); refine bodyPost_ret (results_cell_row rfl _ _ (w.heap.size + 1 + 1) 33 #[.int .i64 7, .int .i64 v, .slice none 0 0] (0, 0) _ rfl (heap_setCell_same _ _ 2 _ _ _ (heap_setCell_same _ _ 1 _ _ _ (heap_setCell_same _ _ 0 _ _ _ hn6))) Tryd.underlying33 rfl (by kernel_rfl)) rfl ?_
  exact ⟨_, rfl, .inl ⟨rfl, rfl⟩, by repeat' (first | (with_reducible assumption) | (with_reducible exact Below.refl _ _) | (with_reducible refine below_drewN ?_ _) | (with_reducible refine Below.drew ?_) | (with_reducible refine Below.alloc ?_ ?_ _) | (with_reducible refine Below.setCell ?_ ?_ _) | go_size)⟩
set_option maxRecDepth 100000 in
set_option maxHeartbeats 2000000 in
theorem dec_conf (t : Int) (c : Bool) (x v i s ex k a : Int) (w : World) (HM : Hid (∀ X : World, Calls Tryd.prog 27 #[.agg #[.int .i64 t, .bool c, .int .i64 x, .int .i64 v]] X (NumPost (.bool true) X))) (HC : Hid (∀ X : World, Below w.heap.size w X → Calls Tryd.prog 28 #[.agg #[.int .i64 i, .int .i64 s, .int .i64 ex, .int .i64 k, .int .i64 a]] X (NumPost (.int .i64 0) X))) (h0 : decide (0 ≤ ex) = true) (h1 : (ex == v) = false) :
    Calls Tryd.prog 20 #[.agg #[.int .i64 t, .bool c, .int .i64 x, .int .i64 v], .agg #[.int .i64 i, .int .i64 s, .int .i64 ex, .int .i64 k, .int .i64 a]] w (DecPost ⟨2, v, []⟩ w) := by
  obtain ⟨w4, HW⟩ : ∃ w4, Hid (w4 = ((w.alloc (.cells #[.int .i64 t, .bool c, .int .i64 x, .int .i64 v] 25)).alloc (.cells #[.int .i64 i, .int .i64 s, .int .i64 ex, .int .i64 k, .int .i64 a] 43)).alloc (.cells #[.int .i64 0, .int .i64 0, .slice none 0 0] 33)) := ⟨_, Lib.hid rfl⟩
  obtain ⟨hz4, hb4, hs4, ho4, hn4⟩ := three_blocks HW.out
  go_enter Tryd.func20, Tryd.ntmps20
  go_wp2_with fail
  rw [← HW.out]
  refine (HM.out _).mono ?_
  rintro e w5 ⟨rfl, hb⟩
  have hs5 := (hb.block (w.heap.size) (by omega)).trans hs4
  have ho5 := (hb.block (w.heap.size + 1) (by omega)).trans ho4
  have hn5 := (hb.block (w.heap.size + 1 + 1) (by omega)).trans hn4
  have hb5 : Below w.heap.size w w5 := hb4.trans (hb.mono (by omega))
  have hz5 : w4.heap.size ≤ w5.heap.size := hb.size
  clear hb
  have o0 : w5.cell? ⟨w.heap.size + 1, 0, none⟩ = some (.int .i64 i) := by rw [Lib.cell_of_heap ho5]; rfl
  have o1 : w5.cell? ⟨w.heap.size + 1, 1, none⟩ = some (.int .i64 s) := by rw [Lib.cell_of_heap ho5]; rfl
  have o2 : w5.cell? ⟨w.heap.size + 1, 2, none⟩ = some (.int .i64 ex) := by rw [Lib.cell_of_heap ho5]; rfl
  have o3 : w5.cell? ⟨w.heap.size + 1, 3, none⟩ = some (.int .i64 k) := by rw [Lib.cell_of_heap ho5]; rfl
  have o4 : w5.cell? ⟨w.heap.size + 1, 4, none⟩ = some (.int .i64 a) := by rw [Lib.cell_of_heap ho5]; rfl
  go_wp2_with fail
  refine (HC.out _ hb5).mono ?_
  rintro e w6 ⟨rfl, hb⟩
  have hs6 := (hb.block (w.heap.size) (by omega)).trans hs5
  have ho6 := (hb.block (w.heap.size + 1) (by omega)).trans ho5
  have hn6 := (hb.block (w.heap.size + 1 + 1) (by omega)).trans hn5
  have hb6 : Below w.heap.size w w6 := hb5.trans (hb.mono (by omega))
  have hz6 : w5.heap.size ≤ w6.heap.size := hb.size
  clear hb
  clear o0 o1 o2 o3 o4
  have a0 : w6.cell? ⟨w.heap.size, 0, none⟩ = some (.int .i64 t) := by rw [Lib.cell_of_heap hs6]; rfl
  have a1 : w6.cell? ⟨w.heap.size, 1, none⟩ = some (.bool c) := by rw [Lib.cell_of_heap hs6]; rfl
  have a2 : w6.cell? ⟨w.heap.size, 2, none⟩ = some (.int .i64 x) := by rw [Lib.cell_of_heap hs6]; rfl
  have a3 : w6.cell? ⟨w.heap.size, 3, none⟩ = some (.int .i64 v) := by rw [Lib.cell_of_heap hs6]; rfl
  have o0 : w6.cell? ⟨w.heap.size + 1, 0, none⟩ = some (.int .i64 i) := by rw [Lib.cell_of_heap ho6]; rfl
  have o1 : w6.cell? ⟨w.heap.size + 1, 1, none⟩ = some (.int .i64 s) := by rw [Lib.cell_of_heap ho6]; rfl
  have o2 : w6.cell? ⟨w.heap.size + 1, 2, none⟩ = some (.int .i64 ex) := by rw [Lib.cell_of_heap ho6]; rfl
  have o3 : w6.cell? ⟨w.heap.size + 1, 3, none⟩ = some (.int .i64 k) := by rw [Lib.cell_of_heap ho6]; rfl
  have o4 : w6.cell? ⟨w.heap.size + 1, 4, none⟩ = some (.int .i64 a) := by rw [Lib.cell_of_heap ho6]; rfl
  have n0 : w6.cell? ⟨w.heap.size + 1 + 1, 0, none⟩ = some (.int .i64 0) := by rw [Lib.cell_of_heap hn6]; rfl
  have n1 : w6.cell? ⟨w.heap.size + 1 + 1, 1, none⟩ = some (.int .i64 0) := by rw [Lib.cell_of_heap hn6]; rfl
  have n2 : w6.cell? ⟨w.heap.size + 1 + 1, 2, none⟩ = some (.slice none 0 0) := by rw [Lib.cell_of_heap hn6]; rfl
  have nf : ∀ i, w6.frozen? ⟨w.heap.size + 1 + 1, i, none⟩ = false := fun i => Lib.frozen_of_heap hn6 i
  go_wp2_with fail
  (try simp only [Exit.inBlock, Exit.then]); refine bodyPost_ret (results_cell_row rfl _ _ (w.heap.size + 1 + 1) 33 #[.int .i64 2, .int .i64 v, .slice none 0 0] (0, 0) _ rfl (heap_setCell_same _ _ 2 _ _ _ (heap_setCell_same _ _ 1 _ _ _ (heap_setCell_same _ _ 0 _ _ _ hn6))) Tryd.underlying33 rfl (by kernel_rfl)) rfl ?_
  exact ⟨_, rfl, .inl ⟨rfl, rfl⟩, by repeat' (first | (with_reducible assumption) | (with_reducible exact Below.refl _ _) | (with_reducible refine below_drewN ?_ _) | (with_reducible refine Below.drew ?_) | (with_reducible refine Below.alloc ?_ ?_ _) | (with_reducible refine Below.setCell ?_ ?_ _) | go_size)⟩
set_option maxRecDepth 100000 in
set_option maxHeartbeats 2000000 in
theorem dec_rej0 (t : Int) (c : Bool) (x v i s ex k a : Int) (k' a' : Int) (w : World) (HM : Hid (∀ X : World, Calls Tryd.prog 27 #[.agg #[.int .i64 t, .bool c, .int .i64 x, .int .i64 v]] X (NumPost (.bool true) X))) (HC : Hid (∀ X : World, Below w.heap.size w X → Calls Tryd.prog 28 #[.agg #[.int .i64 i, .int .i64 s, .int .i64 ex, .int .i64 k, .int .i64 a]] X (NumPost (.int .i64 0) X))) (HE : Hid (∀ X : World, Calls Tryd.prog 29 #[.agg #[.int .i64 i, .int .i64 s, .int .i64 ex, .int .i64 k, .int .i64 a]] X (NumPost (.agg #[.int .i64 k', .int .i64 a']) X))) (HB : Hid (∀ X : World, Calls Tryd.prog 26 #[.agg #[.int .i64 t, .bool c, .int .i64 x, .int .i64 v], .agg #[.int .i64 k', .int .i64 a']] X (fun e w' => ∃ n : St, e = .returned (.tuple #[n.v, .bool false]) ∧  Below X.heap.size X w'))) (h0 : decide (0 ≤ ex) = false) :
    Calls Tryd.prog 20 #[.agg #[.int .i64 t, .bool c, .int .i64 x, .int .i64 v], .agg #[.int .i64 i, .int .i64 s, .int .i64 ex, .int .i64 k, .int .i64 a]] w (DecPost ⟨3, v, []⟩ w) := by
  obtain ⟨w4, HW⟩ : ∃ w4, Hid (w4 = ((w.alloc (.cells #[.int .i64 t, .bool c, .int .i64 x, .int .i64 v] 25)).alloc (.cells #[.int .i64 i, .int .i64 s, .int .i64 ex, .int .i64 k, .int .i64 a] 43)).alloc (.cells #[.int .i64 0, .int .i64 0, .slice none 0 0] 33)) := ⟨_, Lib.hid rfl⟩
  obtain ⟨hz4, hb4, hs4, ho4, hn4⟩ := three_blocks HW.out
  go_enter Tryd.func20, Tryd.ntmps20
  go_wp2_with fail
  rw [← HW.out]
  refine (HM.out _).mono ?_
  rintro e w5 ⟨rfl, hb⟩
  have hs5 := (hb.block (w.heap.size) (by omega)).trans hs4
  have ho5 := (hb.block (w.heap.size + 1) (by omega)).trans ho4
  have hn5 := (hb.block (w.heap.size + 1 + 1) (by omega)).trans hn4
  have hb5 : Below w.heap.size w w5 := hb4.trans (hb.mono (by omega))
  have hz5 : w4.heap.size ≤ w5.heap.size := hb.size
  clear hb
  have o0 : w5.cell? ⟨w.heap.size + 1, 0, none⟩ = some (.int .i64 i) := by rw [Lib.cell_of_heap ho5]; rfl
  have o1 : w5.cell? ⟨w.heap.size + 1, 1, none⟩ = some (.int .i64 s) := by rw [Lib.cell_of_heap ho5]; rfl
  have o2 : w5.cell? ⟨w.heap.size + 1, 2, none⟩ = some (.int .i64 ex) := by rw [Lib.cell_of_heap ho5]; rfl
  have o3 : w5.cell? ⟨w.heap.size + 1, 3, none⟩ = some (.int .i64 k) := by rw [Lib.cell_of_heap ho5]; rfl
  have o4 : w5.cell? ⟨w.heap.size + 1, 4, none⟩ = some (.int .i64 a) := by rw [Lib.cell_of_heap ho5]; rfl
  go_wp2_with fail
  refine (HC.out _ hb5).mono ?_
  rintro e w6 ⟨rfl, hb⟩
  have hs6 := (hb.block (w.heap.size) (by omega)).trans hs5
  have ho6 := (hb.block (w.heap.size + 1) (by omega)).trans ho5
  have hn6 := (hb.block (w.heap.size + 1 + 1) (by omega)).trans hn5
  have hb6 : Below w.heap.size w w6 := hb5.trans (hb.mono (by omega))
  have hz6 : w5.heap.size ≤ w6.heap.size := hb.size
  clear hb
  clear o0 o1 o2 o3 o4
  have a0 : w6.cell? ⟨w.heap.size, 0, none⟩ = some (.int .i64 t) := by rw [Lib.cell_of_heap hs6]; rfl
  have a1 : w6.cell? ⟨w.heap.size, 1, none⟩ = some (.bool c) := by rw [Lib.cell_of_heap hs6]; rfl
  have a2 : w6.cell? ⟨w.heap.size, 2, none⟩ = some (.int .i64 x) := by rw [Lib.cell_of_heap hs6]; rfl
  have a3 : w6.cell? ⟨w.heap.size, 3, none⟩ = some (.int .i64 v) := by rw [Lib.cell_of_heap hs6]; rfl
  have o0 : w6.cell? ⟨w.heap.size + 1, 0, none⟩ = some (.int .i64 i) := by rw [Lib.cell_of_heap ho6]; rfl
  have o1 : w6.cell? ⟨w.heap.size + 1, 1, none⟩ = some (.int .i64 s) := by rw [Lib.cell_of_heap ho6]; rfl
  have o2 : w6.cell? ⟨w.heap.size + 1, 2, none⟩ = some (.int .i64 ex) := by rw [Lib.cell_of_heap ho6]; rfl
  have o3 : w6.cell? ⟨w.heap.size + 1, 3, none⟩ = some (.int .i64 k) := by rw [Lib.cell_of_heap ho6]; rfl
  have o4 : w6.cell? ⟨w.heap.size + 1, 4, none⟩ = some (.int .i64 a) := by rw [Lib.cell_of_heap ho6]; rfl
  go_wp2_with fail
  refine (HE.out _).mono ?_
  rintro e w7 ⟨rfl, hb⟩
  have hs7 := (hb.block (w.heap.size) (by omega)).trans hs6
  have ho7 := (hb.block (w.heap.size + 1) (by omega)).trans ho6
  have hn7 := (hb.block (w.heap.size + 1 + 1) (by omega)).trans hn6
  have hb7 : Below w.heap.size w w7 := hb6.trans (hb.mono (by omega))
  have hz7 : w6.heap.size ≤ w7.heap.size := hb.size
  clear hb
  clear o0 o1 o2 o3 o4 a0 a1 a2 a3
  obtain ⟨w8, HX8⟩ : ∃ W, Hid (W = w7.alloc (.cells #[.int .i64 k', .int .i64 a'] 35)) := ⟨_, Lib.hid rfl⟩
  have hb : Below w7.heap.size w7 w8 := by rw [HX8.out]; exact (Below.refl _ _).alloc (Nat.le_refl _) _
  have he8 : w8.heap[w7.heap.size]? = some (.cells #[.int .i64 k', .int .i64 a'] 35 (0, 0)) := by rw [HX8.out]; exact heap_alloc_new _ _
  have hy8 : w8.heap.size = w7.heap.size + 1 := by rw [HX8.out]; simp
  have hs8 := (hb.block (w.heap.size) (by omega)).trans hs7
  have ho8 := (hb.block (w.heap.size + 1) (by omega)).trans ho7
  have hn8 := (hb.block (w.heap.size + 1 + 1) (by omega)).trans hn7
  have hb8 : Below w.heap.size w w8 := hb7.trans (hb.mono (by omega))
  have hz8 : w7.heap.size ≤ w8.heap.size := hb.size
  clear hb
  have a0 : w8.cell? ⟨w.heap.size, 0, none⟩ = some (.int .i64 t) := by rw [Lib.cell_of_heap hs8]; rfl
  have a1 : w8.cell? ⟨w.heap.size, 1, none⟩ = some (.bool c) := by rw [Lib.cell_of_heap hs8]; rfl
  have a2 : w8.cell? ⟨w.heap.size, 2, none⟩ = some (.int .i64 x) := by rw [Lib.cell_of_heap hs8]; rfl
  have a3 : w8.cell? ⟨w.heap.size, 3, none⟩ = some (.int .i64 v) := by rw [Lib.cell_of_heap hs8]; rfl
  have b0 : w8.cell? ⟨w7.heap.size, 0, none⟩ = some (.int .i64 k') := by rw [Lib.cell_of_heap he8]; rfl
  have b1 : w8.cell? ⟨w7.heap.size, 1, none⟩ = some (.int .i64 a') := by rw [Lib.cell_of_heap he8]; rfl
  go_wp2_with (rw [← HX8.out])
  refine (HB.out _).mono ?_
  rintro e w9 ⟨⟨t1, c1, x1, v1⟩, rfl, hb⟩
  simp only [St.v]
  have hs9 := (hb.block (w.heap.size) (by omega)).trans hs8
  have ho9 := (hb.block (w.heap.size + 1) (by omega)).trans ho8
  have hn9 := (hb.block (w.heap.size + 1 + 1) (by omega)).trans hn8
  have he9 := (hb.block (w7.heap.size) (by omega)).trans he8
  have hb9 : Below w.heap.size w w9 := hb8.trans (hb.mono (by omega))
  have hz9 : w8.heap.size ≤ w9.heap.size := hb.size
  clear hb
  clear a0 a1 a2 a3 b0 b1
  obtain ⟨w10, HX10⟩ : ∃ W, Hid (W = w9.alloc (.cells #[.int .i64 t1, .bool c1, .int .i64 x1, .int .i64 v1] 25)) := ⟨_, Lib.hid rfl⟩
  have hb : Below w9.heap.size w9 w10 := by rw [HX10.out]; exact (Below.refl _ _).alloc (Nat.le_refl _) _
  have ht10 : w10.heap[w9.heap.size]? = some (.cells #[.int .i64 t1, .bool c1, .int .i64 x1, .int .i64 v1] 25 (0, 0)) := by rw [HX10.out]; exact heap_alloc_new _ _
  have hy10 : w10.heap.size = w9.heap.size + 1 := by rw [HX10.out]; simp
  have hs10 := (hb.block (w.heap.size) (by omega)).trans hs9
  have ho10 := (hb.block (w.heap.size + 1) (by omega)).trans ho9
  have hn10 := (hb.block (w.heap.size + 1 + 1) (by omega)).trans hn9
  have he10 := (hb.block (w7.heap.size) (by omega)).trans he9
  have hb10 : Below w.heap.size w w10 := hb9.trans (hb.mono (by omega))
  have hz10 : w9.heap.size ≤ w10.heap.size := hb.size
  clear hb
  have n0 : w10.cell? ⟨w.heap.size + 1 + 1, 0, none⟩ = some (.int .i64 0) := by rw [Lib.cell_of_heap hn10]; rfl
  have n1 : w10.cell? ⟨w.heap.size + 1 + 1, 1, none⟩ = some (.int .i64 0) := by rw [Lib.cell_of_heap hn10]; rfl
  have n2 : w10.cell? ⟨w.heap.size + 1 + 1, 2, none⟩ = some (.slice none 0 0) := by rw [Lib.cell_of_heap hn10]; rfl
  have nf : ∀ i, w10.frozen? ⟨w.heap.size + 1 + 1, i, none⟩ = false := fun i => Lib.frozen_of_heap hn10 i
  have a3 : w10.cell? ⟨w.heap.size, 3, none⟩ = some (.int .i64 v) := by rw [Lib.cell_of_heap hs10]; rfl
  go_wp2_with (rw [← HX10.out])
  (try simp only [Exit.inBlock, Exit.then]); refine bodyPost_ret (results_cell_row rfl _ _ (w.heap.size + 1 + 1) 33 #[.int .i64 3, .int .i64 v, .slice none 0 0] (0, 0) _ rfl (heap_setCell_same _ _ 2 _ _ _ (heap_setCell_same _ _ 1 _ _ _ (heap_setCell_same _ _ 0 _ _ _ hn10))) Tryd.underlying33 rfl (by kernel_rfl)) rfl ?_
  exact ⟨_, rfl, .inl ⟨rfl, rfl⟩, by repeat' (first | (with_reducible assumption) | (with_reducible exact Below.refl _ _) | (with_reducible refine below_drewN ?_ _) | (with_reducible refine Below.drew ?_) | (with_reducible refine Below.alloc ?_ ?_ _) | (with_reducible refine Below.setCell ?_ ?_ _) | go_size)⟩
set_option maxRecDepth 100000 in
set_option maxHeartbeats 2000000 in
theorem dec_rej1 (t : Int) (c : Bool) (x v i s k a : Int) (k' a' : Int) (w : World) (HM : Hid (∀ X : World, Calls Tryd.prog 27 #[.agg #[.int .i64 t, .bool c, .int .i64 x, .int .i64 v]] X (NumPost (.bool true) X))) (HC : Hid (∀ X : World, Below w.heap.size w X → Calls Tryd.prog 28 #[.agg #[.int .i64 i, .int .i64 s, .int .i64 v, .int .i64 k, .int .i64 a]] X (NumPost (.int .i64 0) X))) (HE : Hid (∀ X : World, Calls Tryd.prog 29 #[.agg #[.int .i64 i, .int .i64 s, .int .i64 v, .int .i64 k, .int .i64 a]] X (NumPost (.agg #[.int .i64 k', .int .i64 a']) X))) (HB : Hid (∀ X : World, Calls Tryd.prog 26 #[.agg #[.int .i64 t, .bool c, .int .i64 x, .int .i64 v], .agg #[.int .i64 k', .int .i64 a']] X (fun e w' => ∃ n : St, e = .returned (.tuple #[n.v, .bool false]) ∧  Below X.heap.size X w'))) (h0 : decide (0 ≤ v) = true) :
    Calls Tryd.prog 20 #[.agg #[.int .i64 t, .bool c, .int .i64 x, .int .i64 v], .agg #[.int .i64 i, .int .i64 s, .int .i64 v, .int .i64 k, .int .i64 a]] w (DecPost ⟨3, v, []⟩ w) := by
  obtain ⟨w4, HW⟩ : ∃ w4, Hid (w4 = ((w.alloc (.cells #[.int .i64 t, .bool c, .int .i64 x, .int .i64 v] 25)).alloc (.cells #[.int .i64 i, .int .i64 s, .int .i64 v, .int .i64 k, .int .i64 a] 43)).alloc (.cells #[.int .i64 0, .int .i64 0, .slice none 0 0] 33)) := ⟨_, Lib.hid rfl⟩
  obtain ⟨hz4, hb4, hs4, ho4, hn4⟩ := three_blocks HW.out
  go_enter Tryd.func20, Tryd.ntmps20
  go_wp2_with fail
  rw [← HW.out]
  refine (HM.out _).mono ?_
  rintro e w5 ⟨rfl, hb⟩
  have hs5 := (hb.block (w.heap.size) (by omega)).trans hs4
  have ho5 := (hb.block (w.heap.size + 1) (by omega)).trans ho4
  have hn5 := (hb.block (w.heap.size + 1 + 1) (by omega)).trans hn4
  have hb5 : Below w.heap.size w w5 := hb4.trans (hb.mono (by omega))
  have hz5 : w4.heap.size ≤ w5.heap.size := hb.size
  clear hb
  have o0 : w5.cell? ⟨w.heap.size + 1, 0, none⟩ = some (.int .i64 i) := by rw [Lib.cell_of_heap ho5]; rfl
  have o1 : w5.cell? ⟨w.heap.size + 1, 1, none⟩ = some (.int .i64 s) := by rw [Lib.cell_of_heap ho5]; rfl
  have o2 : w5.cell? ⟨w.heap.size + 1, 2, none⟩ = some (.int .i64 v) := by rw [Lib.cell_of_heap ho5]; rfl
  have o3 : w5.cell? ⟨w.heap.size + 1, 3, none⟩ = some (.int .i64 k) := by rw [Lib.cell_of_heap ho5]; rfl
  have o4 : w5.cell? ⟨w.heap.size + 1, 4, none⟩ = some (.int .i64 a) := by rw [Lib.cell_of_heap ho5]; rfl
  go_wp2_with fail
  refine (HC.out _ hb5).mono ?_
  rintro e w6 ⟨rfl, hb⟩
  have hs6 := (hb.block (w.heap.size) (by omega)).trans hs5
  have ho6 := (hb.block (w.heap.size + 1) (by omega)).trans ho5
  have hn6 := (hb.block (w.heap.size + 1 + 1) (by omega)).trans hn5
  have hb6 : Below w.heap.size w w6 := hb5.trans (hb.mono (by omega))
  have hz6 : w5.heap.size ≤ w6.heap.size := hb.size
  clear hb
  clear o0 o1 o2 o3 o4
  have a0 : w6.cell? ⟨w.heap.size, 0, none⟩ = some (.int .i64 t) := by rw [Lib.cell_of_heap hs6]; rfl
  have a1 : w6.cell? ⟨w.heap.size, 1, none⟩ = some (.bool c) := by rw [Lib.cell_of_heap hs6]; rfl
  have a2 : w6.cell? ⟨w.heap.size, 2, none⟩ = some (.int .i64 x) := by rw [Lib.cell_of_heap hs6]; rfl
  have a3 : w6.cell? ⟨w.heap.size, 3, none⟩ = some (.int .i64 v) := by rw [Lib.cell_of_heap hs6]; rfl
  have o0 : w6.cell? ⟨w.heap.size + 1, 0, none⟩ = some (.int .i64 i) := by rw [Lib.cell_of_heap ho6]; rfl
  have o1 : w6.cell? ⟨w.heap.size + 1, 1, none⟩ = some (.int .i64 s) := by rw [Lib.cell_of_heap ho6]; rfl
  have o2 : w6.cell? ⟨w.heap.size + 1, 2, none⟩ = some (.int .i64 v) := by rw [Lib.cell_of_heap ho6]; rfl
  have o3 : w6.cell? ⟨w.heap.size + 1, 3, none⟩ = some (.int .i64 k) := by rw [Lib.cell_of_heap ho6]; rfl
  have o4 : w6.cell? ⟨w.heap.size + 1, 4, none⟩ = some (.int .i64 a) := by rw [Lib.cell_of_heap ho6]; rfl
  go_wp2_with fail
  refine (HE.out _).mono ?_
  rintro e w7 ⟨rfl, hb⟩
  have hs7 := (hb.block (w.heap.size) (by omega)).trans hs6
  have ho7 := (hb.block (w.heap.size + 1) (by omega)).trans ho6
  have hn7 := (hb.block (w.heap.size + 1 + 1) (by omega)).trans hn6
  have hb7 : Below w.heap.size w w7 := hb6.trans (hb.mono (by omega))
  have hz7 : w6.heap.size ≤ w7.heap.size := hb.size
  clear hb
  clear o0 o1 o2 o3 o4 a0 a1 a2 a3
  obtain ⟨w8, HX8⟩ : ∃ W, Hid (W = w7.alloc (.cells #[.int .i64 k', .int .i64 a'] 35)) := ⟨_, Lib.hid rfl⟩
  have hb : Below w7.heap.size w7 w8 := by rw [HX8.out]; exact (Below.refl _ _).alloc (Nat.le_refl _) _
  have he8 : w8.heap[w7.heap.size]? = some (.cells #[.int .i64 k', .int .i64 a'] 35 (0, 0)) := by rw [HX8.out]; exact heap_alloc_new _ _
  have hy8 : w8.heap.size = w7.heap.size + 1 := by rw [HX8.out]; simp
  have hs8 := (hb.block (w.heap.size) (by omega)).trans hs7
  have ho8 := (hb.block (w.heap.size + 1) (by omega)).trans ho7
  have hn8 := (hb.block (w.heap.size + 1 + 1) (by omega)).trans hn7
  have hb8 : Below w.heap.size w w8 := hb7.trans (hb.mono (by omega))
  have hz8 : w7.heap.size ≤ w8.heap.size := hb.size
  clear hb
  have a0 : w8.cell? ⟨w.heap.size, 0, none⟩ = some (.int .i64 t) := by rw [Lib.cell_of_heap hs8]; rfl
  have a1 : w8.cell? ⟨w.heap.size, 1, none⟩ = some (.bool c) := by rw [Lib.cell_of_heap hs8]; rfl
  have a2 : w8.cell? ⟨w.heap.size, 2, none⟩ = some (.int .i64 x) := by rw [Lib.cell_of_heap hs8]; rfl
  have a3 : w8.cell? ⟨w.heap.size, 3, none⟩ = some (.int .i64 v) := by rw [Lib.cell_of_heap hs8]; rfl
  have b0 : w8.cell? ⟨w7.heap.size, 0, none⟩ = some (.int .i64 k') := by rw [Lib.cell_of_heap he8]; rfl
  have b1 : w8.cell? ⟨w7.heap.size, 1, none⟩ = some (.int .i64 a') := by rw [Lib.cell_of_heap he8]; rfl
  go_wp2_with (rw [← HX8.out])
  refine (HB.out _).mono ?_
  rintro e w9 ⟨⟨t1, c1, x1, v1⟩, rfl, hb⟩
  simp only [St.v]
  have hs9 := (hb.block (w.heap.size) (by omega)).trans hs8
  have ho9 := (hb.block (w.heap.size + 1) (by omega)).trans ho8
  have hn9 := (hb.block (w.heap.size + 1 + 1) (by omega)).trans hn8
  have he9 := (hb.block (w7.heap.size) (by omega)).trans he8
  have hb9 : Below w.heap.size w w9 := hb8.trans (hb.mono (by omega))
  have hz9 : w8.heap.size ≤ w9.heap.size := hb.size
  clear hb
  clear a0 a1 a2 a3 b0 b1
  obtain ⟨w10, HX10⟩ : ∃ W, Hid (W = w9.alloc (.cells #[.int .i64 t1, .bool c1, .int .i64 x1, .int .i64 v1] 25)) := ⟨_, Lib.hid rfl⟩
  have hb : Below w9.heap.size w9 w10 := by rw [HX10.out]; exact (Below.refl _ _).alloc (Nat.le_refl _) _
  have ht10 : w10.heap[w9.heap.size]? = some (.cells #[.int .i64 t1, .bool c1, .int .i64 x1, .int .i64 v1] 25 (0, 0)) := by rw [HX10.out]; exact heap_alloc_new _ _
  have hy10 : w10.heap.size = w9.heap.size + 1 := by rw [HX10.out]; simp
  have hs10 := (hb.block (w.heap.size) (by omega)).trans hs9
  have ho10 := (hb.block (w.heap.size + 1) (by omega)).trans ho9
  have hn10 := (hb.block (w.heap.size + 1 + 1) (by omega)).trans hn9
  have he10 := (hb.block (w7.heap.size) (by omega)).trans he9
  have hb10 : Below w.heap.size w w10 := hb9.trans (hb.mono (by omega))
  have hz10 : w9.heap.size ≤ w10.heap.size := hb.size
  clear hb
  have n0 : w10.cell? ⟨w.heap.size + 1 + 1, 0, none⟩ = some (.int .i64 0) := by rw [Lib.cell_of_heap hn10]; rfl
  have n1 : w10.cell? ⟨w.heap.size + 1 + 1, 1, none⟩ = some (.int .i64 0) := by rw [Lib.cell_of_heap hn10]; rfl
  have n2 : w10.cell? ⟨w.heap.size + 1 + 1, 2, none⟩ = some (.slice none 0 0) := by rw [Lib.cell_of_heap hn10]; rfl
  have nf : ∀ i, w10.frozen? ⟨w.heap.size + 1 + 1, i, none⟩ = false := fun i => Lib.frozen_of_heap hn10 i
  have a3 : w10.cell? ⟨w.heap.size, 3, none⟩ = some (.int .i64 v) := by rw [Lib.cell_of_heap hs10]; rfl
  go_wp2_with (rw [← HX10.out])
  (try simp only [Exit.inBlock, Exit.then]); refine bodyPost_ret (results_cell_row rfl _ _ (w.heap.size + 1 + 1) 33 #[.int .i64 3, .int .i64 v, .slice none 0 0] (0, 0) _ rfl (heap_setCell_same _ _ 2 _ _ _ (heap_setCell_same _ _ 1 _ _ _ (heap_setCell_same _ _ 0 _ _ _ hn10))) Tryd.underlying33 rfl (by kernel_rfl)) rfl ?_
  exact ⟨_, rfl, .inl ⟨rfl, rfl⟩, by repeat' (first | (with_reducible assumption) | (with_reducible exact Below.refl _ _) | (with_reducible refine below_drewN ?_ _) | (with_reducible refine Below.drew ?_) | (with_reducible refine Below.alloc ?_ ?_ _) | (with_reducible refine Below.setCell ?_ ?_ _) | go_size)⟩
set_option maxRecDepth 100000 in
set_option maxHeartbeats 2000000 in
theorem dec_acc0 (t : Int) (c : Bool) (x v i s ex k a : Int) (k' a' u : Int) (w : World) (HM : Hid (∀ X : World, Calls Tryd.prog 27 #[.agg #[.int .i64 t, .bool c, .int .i64 x, .int .i64 v]] X (NumPost (.bool true) X))) (HC : Hid (∀ X : World, Below w.heap.size w X → Calls Tryd.prog 28 #[.agg #[.int .i64 i, .int .i64 s, .int .i64 ex, .int .i64 k, .int .i64 a]] X (NumPost (.int .i64 0) X))) (HE : Hid (∀ X : World, Calls Tryd.prog 29 #[.agg #[.int .i64 i, .int .i64 s, .int .i64 ex, .int .i64 k, .int .i64 a]] X (NumPost (.agg #[.int .i64 k', .int .i64 a']) X))) (HB : Hid (∀ X : World, Calls Tryd.prog 26 #[.agg #[.int .i64 t, .bool c, .int .i64 x, .int .i64 v], .agg #[.int .i64 k', .int .i64 a']] X (fun e w' => ∃ n : St, e = .returned (.tuple #[n.v, .bool true]) ∧ n.ver = u ∧ Below X.heap.size X w'))) (h0 : decide (0 ≤ ex) = false) :
    Calls Tryd.prog 20 #[.agg #[.int .i64 t, .bool c, .int .i64 x, .int .i64 v], .agg #[.int .i64 i, .int .i64 s, .int .i64 ex, .int .i64 k, .int .i64 a]] w (DecPost ⟨1, u, [⟨k', a'⟩]⟩ w) := by
  obtain ⟨w4, HW⟩ : ∃ w4, Hid (w4 = ((w.alloc (.cells #[.int .i64 t, .bool c, .int .i64 x, .int .i64 v] 25)).alloc (.cells #[.int .i64 i, .int .i64 s, .int .i64 ex, .int .i64 k, .int .i64 a] 43)).alloc (.cells #[.int .i64 0, .int .i64 0, .slice none 0 0] 33)) := ⟨_, Lib.hid rfl⟩
  obtain ⟨hz4, hb4, hs4, ho4, hn4⟩ := three_blocks HW.out
  go_enter Tryd.func20, Tryd.ntmps20
  go_wp2_with fail
  rw [← HW.out]
  refine (HM.out _).mono ?_
  rintro e w5 ⟨rfl, hb⟩
  have hs5 := (hb.block (w.heap.size) (by omega)).trans hs4
  have ho5 := (hb.block (w.heap.size + 1) (by omega)).trans ho4
  have hn5 := (hb.block (w.heap.size + 1 + 1) (by omega)).trans hn4
  have hb5 : Below w.heap.size w w5 := hb4.trans (hb.mono (by omega))
  have hz5 : w4.heap.size ≤ w5.heap.size := hb.size
  clear hb
  have o0 : w5.cell? ⟨w.heap.size + 1, 0, none⟩ = some (.int .i64 i) := by rw [Lib.cell_of_heap ho5]; rfl
  have o1 : w5.cell? ⟨w.heap.size + 1, 1, none⟩ = some (.int .i64 s) := by rw [Lib.cell_of_heap ho5]; rfl
  have o2 : w5.cell? ⟨w.heap.size + 1, 2, none⟩ = some (.int .i64 ex) := by rw [Lib.cell_of_heap ho5]; rfl
  have o3 : w5.cell? ⟨w.heap.size + 1, 3, none⟩ = some (.int .i64 k) := by rw [Lib.cell_of_heap ho5]; rfl
  have o4 : w5.cell? ⟨w.heap.size + 1, 4, none⟩ = some (.int .i64 a) := by rw [Lib.cell_of_heap ho5]; rfl
  go_wp2_with fail
  refine (HC.out _ hb5).mono ?_
  rintro e w6 ⟨rfl, hb⟩
  have hs6 := (hb.block (w.heap.size) (by omega)).trans hs5
  have ho6 := (hb.block (w.heap.size + 1) (by omega)).trans ho5
  have hn6 := (hb.block (w.heap.size + 1 + 1) (by omega)).trans hn5
  have hb6 : Below w.heap.size w w6 := hb5.trans (hb.mono (by omega))
  have hz6 : w5.heap.size ≤ w6.heap.size := hb.size
  clear hb
  clear o0 o1 o2 o3 o4
  have a0 : w6.cell? ⟨w.heap.size, 0, none⟩ = some (.int .i64 t) := by rw [Lib.cell_of_heap hs6]; rfl
  have a1 : w6.cell? ⟨w.heap.size, 1, none⟩ = some (.bool c) := by rw [Lib.cell_of_heap hs6]; rfl
  have a2 : w6.cell? ⟨w.heap.size, 2, none⟩ = some (.int .i64 x) := by rw [Lib.cell_of_heap hs6]; rfl
  have a3 : w6.cell? ⟨w.heap.size, 3, none⟩ = some (.int .i64 v) := by rw [Lib.cell_of_heap hs6]; rfl
  have o0 : w6.cell? ⟨w.heap.size + 1, 0, none⟩ = some (.int .i64 i) := by rw [Lib.cell_of_heap ho6]; rfl
  have o1 : w6.cell? ⟨w.heap.size + 1, 1, none⟩ = some (.int .i64 s) := by rw [Lib.cell_of_heap ho6]; rfl
  have o2 : w6.cell? ⟨w.heap.size + 1, 2, none⟩ = some (.int .i64 ex) := by rw [Lib.cell_of_heap ho6]; rfl
  have o3 : w6.cell? ⟨w.heap.size + 1, 3, none⟩ = some (.int .i64 k) := by rw [Lib.cell_of_heap ho6]; rfl
  have o4 : w6.cell? ⟨w.heap.size + 1, 4, none⟩ = some (.int .i64 a) := by rw [Lib.cell_of_heap ho6]; rfl
  go_wp2_with fail
  refine (HE.out _).mono ?_
  rintro e w7 ⟨rfl, hb⟩
  have hs7 := (hb.block (w.heap.size) (by omega)).trans hs6
  have ho7 := (hb.block (w.heap.size + 1) (by omega)).trans ho6
  have hn7 := (hb.block (w.heap.size + 1 + 1) (by omega)).trans hn6
  have hb7 : Below w.heap.size w w7 := hb6.trans (hb.mono (by omega))
  have hz7 : w6.heap.size ≤ w7.heap.size := hb.size
  clear hb
  clear o0 o1 o2 o3 o4 a0 a1 a2 a3
  obtain ⟨w8, HX8⟩ : ∃ W, Hid (W = w7.alloc (.cells #[.int .i64 k', .int .i64 a'] 35)) := ⟨_, Lib.hid rfl⟩
  have hb : Below w7.heap.size w7 w8 := by rw [HX8.out]; exact (Below.refl _ _).alloc (Nat.le_refl _) _
  have he8 : w8.heap[w7.heap.size]? = some (.cells #[.int .i64 k', .int .i64 a'] 35 (0, 0)) := by rw [HX8.out]; exact heap_alloc_new _ _
  have hy8 : w8.heap.size = w7.heap.size + 1 := by rw [HX8.out]; simp
  have hs8 := (hb.block (w.heap.size) (by omega)).trans hs7
  have ho8 := (hb.block (w.heap.size + 1) (by omega)).trans ho7
  have hn8 := (hb.block (w.heap.size + 1 + 1) (by omega)).trans hn7
  have hb8 : Below w.heap.size w w8 := hb7.trans (hb.mono (by omega))
  have hz8 : w7.heap.size ≤ w8.heap.size := hb.size
  clear hb
  have a0 : w8.cell? ⟨w.heap.size, 0, none⟩ = some (.int .i64 t) := by rw [Lib.cell_of_heap hs8]; rfl
  have a1 : w8.cell? ⟨w.heap.size, 1, none⟩ = some (.bool c) := by rw [Lib.cell_of_heap hs8]; rfl
  have a2 : w8.cell? ⟨w.heap.size, 2, none⟩ = some (.int .i64 x) := by rw [Lib.cell_of_heap hs8]; rfl
  have a3 : w8.cell? ⟨w.heap.size, 3, none⟩ = some (.int .i64 v) := by rw [Lib.cell_of_heap hs8]; rfl
  have b0 : w8.cell? ⟨w7.heap.size, 0, none⟩ = some (.int .i64 k') := by rw [Lib.cell_of_heap he8]; rfl
  have b1 : w8.cell? ⟨w7.heap.size, 1, none⟩ = some (.int .i64 a') := by rw [Lib.cell_of_heap he8]; rfl
  go_wp2_with (rw [← HX8.out])
  refine (HB.out _).mono ?_
  rintro e w9 ⟨⟨t1, c1, x1, v1⟩, rfl, hv, hb⟩
  simp only [St.v] at *
  have hs9 := (hb.block (w.heap.size) (by omega)).trans hs8
  have ho9 := (hb.block (w.heap.size + 1) (by omega)).trans ho8
  have hn9 := (hb.block (w.heap.size + 1 + 1) (by omega)).trans hn8
  have he9 := (hb.block (w7.heap.size) (by omega)).trans he8
  have hb9 : Below w.heap.size w w9 := hb8.trans (hb.mono (by omega))
  have hz9 : w8.heap.size ≤ w9.heap.size := hb.size
  clear hb
  clear a0 a1 a2 a3 b0 b1
  obtain ⟨w10, HX10⟩ : ∃ W, Hid (W = w9.alloc (.cells #[.int .i64 t1, .bool c1, .int .i64 x1, .int .i64 v1] 25)) := ⟨_, Lib.hid rfl⟩
  have hb : Below w9.heap.size w9 w10 := by rw [HX10.out]; exact (Below.refl _ _).alloc (Nat.le_refl _) _
  have ht10 : w10.heap[w9.heap.size]? = some (.cells #[.int .i64 t1, .bool c1, .int .i64 x1, .int .i64 v1] 25 (0, 0)) := by rw [HX10.out]; exact heap_alloc_new _ _
  have hy10 : w10.heap.size = w9.heap.size + 1 := by rw [HX10.out]; simp
  have hs10 := (hb.block (w.heap.size) (by omega)).trans hs9
  have ho10 := (hb.block (w.heap.size + 1) (by omega)).trans ho9
  have hn10 := (hb.block (w.heap.size + 1 + 1) (by omega)).trans hn9
  have he10 := (hb.block (w7.heap.size) (by omega)).trans he9
  have hb10 : Below w.heap.size w w10 := hb9.trans (hb.mono (by omega))
  have hz10 : w9.heap.size ≤ w10.heap.size := hb.size
  clear hb
  subst hv
  have a3 : w10.cell? ⟨w9.heap.size, 3, none⟩ = some (.int .i64 v1) := by rw [Lib.cell_of_heap ht10]; rfl
  have b0 : w10.cell? ⟨w7.heap.size, 0, none⟩ = some (.int .i64 k') := by rw [Lib.cell_of_heap he10]; rfl
  have b1 : w10.cell? ⟨w7.heap.size, 1, none⟩ = some (.int .i64 a') := by rw [Lib.cell_of_heap he10]; rfl
  obtain ⟨w11, HX11⟩ : ∃ W, Hid (W = w10.alloc (.cells #[.int .i64 k', .int .i64 a'] 35)) := ⟨_, Lib.hid rfl⟩
  have hb : Below w10.heap.size w10 w11 := by rw [HX11.out]; exact (Below.refl _ _).alloc (Nat.le_refl _) _
  have hg11 : w11.heap[w10.heap.size]? = some (.cells #[.int .i64 k', .int .i64 a'] 35 (0, 0)) := by rw [HX11.out]; exact heap_alloc_new _ _
  have hy11 : w11.heap.size = w10.heap.size + 1 := by rw [HX11.out]; simp
  have hs11 := (hb.block (w.heap.size) (by omega)).trans hs10
  have ho11 := (hb.block (w.heap.size + 1) (by omega)).trans ho10
  have hn11 := (hb.block (w.heap.size + 1 + 1) (by omega)).trans hn10
  have he11 := (hb.block (w7.heap.size) (by omega)).trans he10
  have hb11 : Below w.heap.size w w11 := hb10.trans (hb.mono (by omega))
  have hz11 : w10.heap.size ≤ w11.heap.size := hb.size
  clear hb
  have n0 : w11.cell? ⟨w.heap.size + 1 + 1, 0, none⟩ = some (.int .i64 0) := by rw [Lib.cell_of_heap hn11]; rfl
  have n1 : w11.cell? ⟨w.heap.size + 1 + 1, 1, none⟩ = some (.int .i64 0) := by rw [Lib.cell_of_heap hn11]; rfl
  have n2 : w11.cell? ⟨w.heap.size + 1 + 1, 2, none⟩ = some (.slice none 0 0) := by rw [Lib.cell_of_heap hn11]; rfl
  have nf : ∀ i, w11.frozen? ⟨w.heap.size + 1 + 1, i, none⟩ = false := fun i => Lib.frozen_of_heap hn11 i
  go_wp2_with (first | rw [← HX10.out] | rw [← HX11.out])
  (try simp only [Exit.inBlock, Exit.then]); refine bodyPost_ret (results_cell_row rfl _ _ (w.heap.size + 1 + 1) 33 #[.int .i64 1, .int .i64 v1, .slice (some ⟨w9.heap.size + 1, 0, none⟩) 1 1] (0, 0) _ rfl (heap_setCell_same _ _ 2 _ _ _ (heap_setCell_same _ _ 1 _ _ _ (heap_setCell_same _ _ 0 _ _ _ hn11))) Tryd.underlying33 rfl (by kernel_rfl)) rfl ?_
  have hg : w11.heap[w9.heap.size + 1]? = some (.cells #[.int .i64 k', .int .i64 a'] 35 (0, 0)) := by rw [← hy10]; exact hg11
  refine ⟨_, rfl, .inr ⟨⟨k', a'⟩, w9.heap.size + 1, rfl, rfl, by omega, ?_⟩, by repeat' (first | (with_reducible assumption) | (with_reducible exact Below.refl _ _) | (with_reducible refine below_drewN ?_ _) | (with_reducible refine Below.drew ?_) | (with_reducible refine Below.alloc ?_ ?_ _) | (with_reducible refine Below.setCell ?_ ?_ _) | go_size)⟩
  exact (Below.heap_setCell _ _ _ _ (by show w9.heap.size + 1 ≠ w.heap.size + 1 + 1; omega)).trans ((Below.heap_setCell _ _ _ _ (by show w9.heap.size + 1 ≠ w.heap.size + 1 + 1; omega)).trans ((Below.heap_setCell _ _ _ _ (by show w9.heap.size + 1 ≠ w.heap.size + 1 + 1; omega)).trans hg))
set_option maxRecDepth 100000 in
set_option maxHeartbeats 2000000 in
theorem dec_acc1 (t : Int) (c : Bool) (x v i s k a : Int) (k' a' u : Int) (w : World) (HM : Hid (∀ X : World, Calls Tryd.prog 27 #[.agg #[.int .i64 t, .bool c, .int .i64 x, .int .i64 v]] X (NumPost (.bool true) X))) (HC : Hid (∀ X : World, Below w.heap.size w X → Calls Tryd.prog 28 #[.agg #[.int .i64 i, .int .i64 s, .int .i64 v, .int .i64 k, .int .i64 a]] X (NumPost (.int .i64 0) X))) (HE : Hid (∀ X : World, Calls Tryd.prog 29 #[.agg #[.int .i64 i, .int .i64 s, .int .i64 v, .int .i64 k, .int .i64 a]] X (NumPost (.agg #[.int .i64 k', .int .i64 a']) X))) (HB : Hid (∀ X : World, Calls Tryd.prog 26 #[.agg #[.int .i64 t, .bool c, .int .i64 x, .int .i64 v], .agg #[.int .i64 k', .int .i64 a']] X (fun e w' => ∃ n : St, e = .returned (.tuple #[n.v, .bool true]) ∧ n.ver = u ∧ Below X.heap.size X w'))) (h0 : decide (0 ≤ v) = true) :
    Calls Tryd.prog 20 #[.agg #[.int .i64 t, .bool c, .int .i64 x, .int .i64 v], .agg #[.int .i64 i, .int .i64 s, .int .i64 v, .int .i64 k, .int .i64 a]] w (DecPost ⟨1, u, [⟨k', a'⟩]⟩ w) := by
  obtain ⟨w4, HW⟩ : ∃ w4, Hid (w4 = ((w.alloc (.cells #[.int .i64 t, .bool c, .int .i64 x, .int .i64 v] 25)).alloc (.cells #[.int .i64 i, .int .i64 s, .int .i64 v, .int .i64 k, .int .i64 a] 43)).alloc (.cells #[.int .i64 0, .int .i64 0, .slice none 0 0] 33)) := ⟨_, Lib.hid rfl⟩
  obtain ⟨hz4, hb4, hs4, ho4, hn4⟩ := three_blocks HW.out
  go_enter Tryd.func20, Tryd.ntmps20
  go_wp2_with fail
  rw [← HW.out]
  refine (HM.out _).mono ?_
  rintro e w5 ⟨rfl, hb⟩
  have hs5 := (hb.block (w.heap.size) (by omega)).trans hs4
  have ho5 := (hb.block (w.heap.size + 1) (by omega)).trans ho4
  have hn5 := (hb.block (w.heap.size + 1 + 1) (by omega)).trans hn4
  have hb5 : Below w.heap.size w w5 := hb4.trans (hb.mono (by omega))
  have hz5 : w4.heap.size ≤ w5.heap.size := hb.size
  clear hb
  have o0 : w5.cell? ⟨w.heap.size + 1, 0, none⟩ = some (.int .i64 i) := by rw [Lib.cell_of_heap ho5]; rfl
  have o1 : w5.cell? ⟨w.heap.size + 1, 1, none⟩ = some (.int .i64 s) := by rw [Lib.cell_of_heap ho5]; rfl
  have o2 : w5.cell? ⟨w.heap.size + 1, 2, none⟩ = some (.int .i64 v) := by rw [Lib.cell_of_heap ho5]; rfl
  have o3 : w5.cell? ⟨w.heap.size + 1, 3, none⟩ = some (.int .i64 k) := by rw [Lib.cell_of_heap ho5]; rfl
  have o4 : w5.cell? ⟨w.heap.size + 1, 4, none⟩ = some (.int .i64 a) := by rw [Lib.cell_of_heap ho5]; rfl
  go_wp2_with fail
  refine (HC.out _ hb5).mono ?_
  rintro e w6 ⟨rfl, hb⟩
  have hs6 := (hb.block (w.heap.size) (by omega)).trans hs5
  have ho6 := (hb.block (w.heap.size + 1) (by omega)).trans ho5
  have hn6 := (hb.block (w.heap.size + 1 + 1) (by omega)).trans hn5
  have hb6 : Below w.heap.size w w6 := hb5.trans (hb.mono (by omega))
  have hz6 : w5.heap.size ≤ w6.heap.size := hb.size
  clear hb
  clear o0 o1 o2 o3 o4
  have a0 : w6.cell? ⟨w.heap.size, 0, none⟩ = some (.int .i64 t) := by rw [Lib.cell_of_heap hs6]; rfl
  have a1 : w6.cell? ⟨w.heap.size, 1, none⟩ = some (.bool c) := by rw [Lib.cell_of_heap hs6]; rfl
  have a2 : w6.cell? ⟨w.heap.size, 2, none⟩ = some (.int .i64 x) := by rw [Lib.cell_of_heap hs6]; rfl
  have a3 : w6.cell? ⟨w.heap.size, 3, none⟩ = some (.int .i64 v) := by rw [Lib.cell_of_heap hs6]; rfl
  have o0 : w6.cell? ⟨w.heap.size + 1, 0, none⟩ = some (.int .i64 i) := by rw [Lib.cell_of_heap ho6]; rfl
  have o1 : w6.cell? ⟨w.heap.size + 1, 1, none⟩ = some (.int .i64 s) := by rw [Lib.cell_of_heap ho6]; rfl
  have o2 : w6.cell? ⟨w.heap.size + 1, 2, none⟩ = some (.int .i64 v) := by rw [Lib.cell_of_heap ho6]; rfl
  have o3 : w6.cell? ⟨w.heap.size + 1, 3, none⟩ = some (.int .i64 k) := by rw [Lib.cell_of_heap ho6]; rfl
  have o4 : w6.cell? ⟨w.heap.size + 1, 4, none⟩ = some (.int .i64 a) := by rw [Lib.cell_of_heap ho6]; rfl
  go_wp2_with fail
  refine (HE.out _).mono ?_
  rintro e w7 ⟨rfl, hb⟩
  have hs7 := (hb.block (w.heap.size) (by omega)).trans hs6
  have ho7 := (hb.block (w.heap.size + 1) (by omega)).trans ho6
  have hn7 := (hb.block (w.heap.size + 1 + 1) (by omega)).trans hn6
  have hb7 : Below w.heap.size w w7 := hb6.trans (hb.mono (by omega))
  have hz7 : w6.heap.size ≤ w7.heap.size := hb.size
  clear hb
  clear o0 o1 o2 o3 o4 a0 a1 a2 a3
  obtain ⟨w8, HX8⟩ : ∃ W, Hid (W = w7.alloc (.cells #[.int .i64 k', .int .i64 a'] 35)) := ⟨_, Lib.hid rfl⟩
  have hb : Below w7.heap.size w7 w8 := by rw [HX8.out]; exact (Below.refl _ _).alloc (Nat.le_refl _) _
  have he8 : w8.heap[w7.heap.size]? = some (.cells #[.int .i64 k', .int .i64 a'] 35 (0, 0)) := by rw [HX8.out]; exact heap_alloc_new _ _
  have hy8 : w8.heap.size = w7.heap.size + 1 := by rw [HX8.out]; simp
  have hs8 := (hb.block (w.heap.size) (by omega)).trans hs7
  have ho8 := (hb.block (w.heap.size + 1) (by omega)).trans ho7
  have hn8 := (hb.block (w.heap.size + 1 + 1) (by omega)).trans hn7
  have hb8 : Below w.heap.size w w8 := hb7.trans (hb.mono (by omega))
  have hz8 : w7.heap.size ≤ w8.heap.size := hb.size
  clear hb
  have a0 : w8.cell? ⟨w.heap.size, 0, none⟩ = some (.int .i64 t) := by rw [Lib.cell_of_heap hs8]; rfl
  have a1 : w8.cell? ⟨w.heap.size, 1, none⟩ = some (.bool c) := by rw [Lib.cell_of_heap hs8]; rfl
  have a2 : w8.cell? ⟨w.heap.size, 2, none⟩ = some (.int .i64 x) := by rw [Lib.cell_of_heap hs8]; rfl
  have a3 : w8.cell? ⟨w.heap.size, 3, none⟩ = some (.int .i64 v) := by rw [Lib.cell_of_heap hs8]; rfl
  have b0 : w8.cell? ⟨w7.heap.size, 0, none⟩ = some (.int .i64 k') := by rw [Lib.cell_of_heap he8]; rfl
  have b1 : w8.cell? ⟨w7.heap.size, 1, none⟩ = some (.int .i64 a') := by rw [Lib.cell_of_heap he8]; rfl
  go_wp2_with (rw [← HX8.out])
  refine (HB.out _).mono ?_
  rintro e w9 ⟨⟨t1, c1, x1, v1⟩, rfl, hv, hb⟩
  simp only [St.v] at *
  have hs9 := (hb.block (w.heap.size) (by omega)).trans hs8
  have ho9 := (hb.block (w.heap.size + 1) (by omega)).trans ho8
  have hn9 := (hb.block (w.heap.size + 1 + 1) (by omega)).trans hn8
  have he9 := (hb.block (w7.heap.size) (by omega)).trans he8
  have hb9 : Below w.heap.size w w9 := hb8.trans (hb.mono (by omega))
  have hz9 : w8.heap.size ≤ w9.heap.size := hb.size
  clear hb
  clear a0 a1 a2 a3 b0 b1
  obtain ⟨w10, HX10⟩ : ∃ W, Hid (W = w9.alloc (.cells #[.int .i64 t1, .bool c1, .int .i64 x1, .int .i64 v1] 25)) := ⟨_, Lib.hid rfl⟩
  have hb : Below w9.heap.size w9 w10 := by rw [HX10.out]; exact (Below.refl _ _).alloc (Nat.le_refl _) _
  have ht10 : w10.heap[w9.heap.size]? = some (.cells #[.int .i64 t1, .bool c1, .int .i64 x1, .int .i64 v1] 25 (0, 0)) := by rw [HX10.out]; exact heap_alloc_new _ _
  have hy10 : w10.heap.size = w9.heap.size + 1 := by rw [HX10.out]; simp
  have hs10 := (hb.block (w.heap.size) (by omega)).trans hs9
  have ho10 := (hb.block (w.heap.size + 1) (by omega)).trans ho9
  have hn10 := (hb.block (w.heap.size + 1 + 1) (by omega)).trans hn9
  have he10 := (hb.block (w7.heap.size) (by omega)).trans he9
  have hb10 : Below w.heap.size w w10 := hb9.trans (hb.mono (by omega))
  have hz10 : w9.heap.size ≤ w10.heap.size := hb.size
  clear hb
  subst hv
  have a3 : w10.cell? ⟨w9.heap.size, 3, none⟩ = some (.int .i64 v1) := by rw [Lib.cell_of_heap ht10]; rfl
  have b0 : w10.cell? ⟨w7.heap.size, 0, none⟩ = some (.int .i64 k') := by rw [Lib.cell_of_heap he10]; rfl
  have b1 : w10.cell? ⟨w7.heap.size, 1, none⟩ = some (.int .i64 a') := by rw [Lib.cell_of_heap he10]; rfl
  obtain ⟨w11, HX11⟩ : ∃ W, Hid (W = w10.alloc (.cells #[.int .i64 k', .int .i64 a'] 35)) := ⟨_, Lib.hid rfl⟩
  have hb : Below w10.heap.size w10 w11 := by rw [HX11.out]; exact (Below.refl _ _).alloc (Nat.le_refl _) _
  have hg11 : w11.heap[w10.heap.size]? = some (.cells #[.int .i64 k', .int .i64 a'] 35 (0, 0)) := by rw [HX11.out]; exact heap_alloc_new _ _
  have hy11 : w11.heap.size = w10.heap.size + 1 := by rw [HX11.out]; simp
  have hs11 := (hb.block (w.heap.size) (by omega)).trans hs10
  have ho11 := (hb.block (w.heap.size + 1) (by omega)).trans ho10
  have hn11 := (hb.block (w.heap.size + 1 + 1) (by omega)).trans hn10
  have he11 := (hb.block (w7.heap.size) (by omega)).trans he10
  have hb11 : Below w.heap.size w w11 := hb10.trans (hb.mono (by omega))
  have hz11 : w10.heap.size ≤ w11.heap.size := hb.size
  clear hb
  have n0 : w11.cell? ⟨w.heap.size + 1 + 1, 0, none⟩ = some (.int .i64 0) := by rw [Lib.cell_of_heap hn11]; rfl
  have n1 : w11.cell? ⟨w.heap.size + 1 + 1, 1, none⟩ = some (.int .i64 0) := by rw [Lib.cell_of_heap hn11]; rfl
  have n2 : w11.cell? ⟨w.heap.size + 1 + 1, 2, none⟩ = some (.slice none 0 0) := by rw [Lib.cell_of_heap hn11]; rfl
  have nf : ∀ i, w11.frozen? ⟨w.heap.size + 1 + 1, i, none⟩ = false := fun i => Lib.frozen_of_heap hn11 i
  go_wp2_with (first | rw [← HX10.out] | rw [← HX11.out])
  (try simp only [Exit.inBlock, Exit.then]); refine bodyPost_ret (results_cell_row rfl _ _ (w.heap.size + 1 + 1) 33 #[.int .i64 1, .int .i64 v1, .slice (some ⟨w9.heap.size + 1, 0, none⟩) 1 1] (0, 0) _ rfl (heap_setCell_same _ _ 2 _ _ _ (heap_setCell_same _ _ 1 _ _ _ (heap_setCell_same _ _ 0 _ _ _ hn11))) Tryd.underlying33 rfl (by kernel_rfl)) rfl ?_
  have hg : w11.heap[w9.heap.size + 1]? = some (.cells #[.int .i64 k', .int .i64 a'] 35 (0, 0)) := by rw [← hy10]; exact hg11
  refine ⟨_, rfl, .inr ⟨⟨k', a'⟩, w9.heap.size + 1, rfl, rfl, by omega, ?_⟩, by repeat' (first | (with_reducible assumption) | (with_reducible exact Below.refl _ _) | (with_reducible refine below_drewN ?_ _) | (with_reducible refine Below.drew ?_) | (with_reducible refine Below.alloc ?_ ?_ _) | (with_reducible refine Below.setCell ?_ ?_ _) | go_size)⟩
  exact (Below.heap_setCell _ _ _ _ (by show w9.heap.size + 1 ≠ w.heap.size + 1 + 1; omega)).trans ((Below.heap_setCell _ _ _ _ (by show w9.heap.size + 1 ≠ w.heap.size + 1 + 1; omega)).trans ((Below.heap_setCell _ _ _ _ (by show w9.heap.size + 1 ≠ w.heap.size + 1 + 1; omega)).trans hg))
end Go.Proofs.YtafhjlfnhgkcoaaDoor
