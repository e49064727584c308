/-
  again and behind of package folds.
-/
import Derived.Test.YtafhjlfnhgkcoaaDoorFoMem
import Derived.Test.YtafhjlfnhgkcoaaDoorAeRDec
namespace Go.Proofs.YtafhjlfnhgkcoaaDoor
open Go.RowKit Go.Sort
set_option maxRecDepth 100000 in
set_option maxHeartbeats 1000000 in
theorem again_nil (c v : Int) (w : World) : Calls Tryd.prog 21 #[.agg #[.int .i64 c, .int .i64 v, .slice none 0 0]] w (NumPost (.agg #[.int .i64 c, .int .i64 v, .slice none 0 0]) w) := by
  go_enter Tryd.func21, Tryd.ntmps21
  go_wp2_with fail
  (try simp only [Exit.inBlock, Exit.then]); refine bodyPost_ret (v := .agg #[.int .i64 c, .int .i64 v, .slice none 0 0]) (by rw [results_cell1 rfl]; go_simp) rfl ?_
  exact ⟨rfl, by repeat' (first | (with_reducible assumption) | (with_reducible exact Below.refl _ _) | (with_reducible refine below_drewN ?_ _) | (with_reducible refine Below.drew ?_) | (with_reducible refine Below.alloc ?_ ?_ _) | (with_reducible refine Below.setCell ?_ ?_ _) | go_size)⟩
set_option maxRecDepth 100000 in
set_option maxHeartbeats 1000000 in
theorem again_one (c v : Int) (g : Nat) (w : World) : Calls Tryd.prog 21 #[.agg #[.int .i64 c, .int .i64 v, .slice (some ⟨g, 0, none⟩) 1 1]] w (NumPost (.agg #[.int .i64 c, .int .i64 v, .slice none 0 0]) w) := by
  go_enter Tryd.func21, Tryd.ntmps21
  go_wp2_with fail
  (try simp only [Exit.inBlock, Exit.then]); refine bodyPost_ret (v := .agg #[.int .i64 c, .int .i64 v, .slice none 0 0]) (by rw [results_cell1 rfl]; go_simp) rfl ?_
  exact ⟨rfl, by repeat' (first | (with_reducible assumption) | (with_reducible exact Below.refl _ _) | (with_reducible refine below_drewN ?_ _) | (with_reducible refine Below.drew ?_) | (with_reducible refine Below.alloc ?_ ?_ _) | (with_reducible refine Below.setCell ?_ ?_ _) | go_size)⟩
theorem again_any {lo hi : Nat} {W : World} (c v : Int) {V : Value} {l : List Ev} (h : EvH lo hi W V l) (w : World) : Calls Tryd.prog 21 #[.agg #[.int .i64 c, .int .i64 v, V]] w (NumPost (.agg #[.int .i64 c, .int .i64 v, .slice none 0 0]) w) := by
  rcases h with ⟨_, rfl⟩ | ⟨e, g, _, rfl, _⟩
  · exact again_nil c v w
  · exact again_one c v g w
set_option maxRecDepth 100000 in
set_option maxHeartbeats 2000000 in
theorem fb_nil (t : Int) (c : Bool) (x v : Int) (w : World) : Calls Tryd.prog 22 #[.agg #[.int .i64 t, .bool c, .int .i64 x, .int .i64 v], .slice none 0 0] w (NumPost (.agg #[.int .i64 t, .bool c, .int .i64 x, .int .i64 v]) w) := by
  go_enter Tryd.func22, Tryd.ntmps22
  go_wp2_with fail
  refine wp_loop_rounds 1 ?_
  rw [rounds_succ]
  go_wp2_with fail
  (try simp only [Exit.inBlock, Exit.then]); refine bodyPost_ret (v := .agg #[.int .i64 t, .bool c, .int .i64 x, .int .i64 v]) (by rw [results_cell1 rfl]; go_simp) rfl ?_
  exact ⟨rfl, by repeat' (first | (with_reducible assumption) | (with_reducible exact Below.refl _ _) | (with_reducible refine below_drewN ?_ _) | (with_reducible refine Below.drew ?_) | (with_reducible refine Below.alloc ?_ ?_ _) | (with_reducible refine Below.setCell ?_ ?_ _) | go_size)⟩
set_option maxRecDepth 100000 in
set_option maxHeartbeats 4000000 in
theorem fb_one (t : Int) (c : Bool) (x v k a : Int) (g : Nat) (t' : Int) (c' : Bool) (x' v' : Int) (w : World) (hg : w.heap[g]? = some (.cells #[.int .i64 k, .int .i64 a] 35 (0, 0)))
    (HP : Hid (∀ X : World, Calls Tryd.prog 18 #[.agg #[.int .i64 t, .bool c, .int .i64 x, .int .i64 v], .agg #[.int .i64 k, .int .i64 a]] X (NumPost (.agg #[.int .i64 t', .bool c', .int .i64 x', .int .i64 v']) X))) :
    Calls Tryd.prog 22 #[.agg #[.int .i64 t, .bool c, .int .i64 x, .int .i64 v], .slice (some ⟨g, 0, none⟩) 1 1] w (NumPost (.agg #[.int .i64 t', .bool c', .int .i64 x', .int .i64 v']) w) := by
  have hgl : g < w.heap.size := lt_of_block hg
  have c0 : w.cell? ⟨g, 0, none⟩ = some (.int .i64 k) := by rw [Lib.cell_of_heap hg]; rfl
  have c1 : w.cell? ⟨g, 1, none⟩ = some (.int .i64 a) := by rw [Lib.cell_of_heap hg]; rfl
  clear hg
  obtain ⟨w1, HX1⟩ : ∃ W : World, Hid (W = ((w.alloc (.cells #[.int .i64 t, .bool c, .int .i64 x, .int .i64 v] 25)).alloc (.cells #[.int .i64 0, .bool false, .int .i64 0, .int .i64 0] 25)).alloc (.cells #[.int .i64 k, .int .i64 a] 35)) := ⟨_, Lib.hid rfl⟩
  obtain ⟨hz1, hb1, h_s1, h_r1, h_e1⟩ := three_blocks HX1.out
  replace hz1 : w.heap.size + 3 ≤ w1.heap.size := by omega
  go_enter Tryd.func22, Tryd.ntmps22
  go_wp2_with fail
  refine wp_loop_rounds 2 ?_
  rw [rounds_succ]
  have a0 : w1.cell? ⟨w.heap.size, 0, none⟩ = some (.int .i64 t) := by rw [Lib.cell_of_heap h_s1]; rfl
  have a1 : w1.cell? ⟨w.heap.size, 1, none⟩ = some (.bool c) := by rw [Lib.cell_of_heap h_s1]; rfl
  have a2 : w1.cell? ⟨w.heap.size, 2, none⟩ = some (.int .i64 x) := by rw [Lib.cell_of_heap h_s1]; rfl
  have a3 : w1.cell? ⟨w.heap.size, 3, none⟩ = some (.int .i64 v) := by rw [Lib.cell_of_heap h_s1]; rfl
  have e0 : w1.cell? ⟨w.heap.size + 1 + 1, 0, none⟩ = some (.int .i64 k) := by rw [Lib.cell_of_heap h_e1]; rfl
  have e1 : w1.cell? ⟨w.heap.size + 1 + 1, 1, none⟩ = some (.int .i64 a) := by rw [Lib.cell_of_heap h_e1]; rfl
  go_wp2_with (rw [← HX1.out])
  refine (HP.out _).mono ?_
  rintro e w2 ⟨rfl, hb⟩
  clear c0 c1 a0 a1 a2 a3 e0 e1
  have h_s2 := (hb.block w.heap.size (by omega)).trans h_s1
  have h_r2 := (hb.block (w.heap.size + 1) (by omega)).trans h_r1
  have hb2 : Below w.heap.size w w2 := hb1.trans (hb.mono (by omega))
  have hz2 : w1.heap.size ≤ w2.heap.size := hb.size
  clear hb
  obtain ⟨w3, HST, h_s3, hbl, hz3, hoth⟩ := st_store (n := w.heap.size) t' c' x' v' h_s2 rfl (Nat.le_refl _)
  replace HST := Lib.hid HST
  have h_r3 := (hoth (w.heap.size + 1) (by omega)).trans h_r2
  have hb3 := hb2.trans hbl
  clear hoth hbl h_s2 h_r2
  go_wp2_with (refine wpList_store_known rfl 25 _ _ rfl ⟨w.heap.size, 0, none⟩ _ rfl rfl HST.out ?_)
  rw [rounds_succ]
  have a0 : w3.cell? ⟨w.heap.size, 0, none⟩ = some (.int .i64 t') := by rw [Lib.cell_of_heap h_s3]; rfl
  have a1 : w3.cell? ⟨w.heap.size, 1, none⟩ = some (.bool c') := by rw [Lib.cell_of_heap h_s3]; rfl
  have a2 : w3.cell? ⟨w.heap.size, 2, none⟩ = some (.int .i64 x') := by rw [Lib.cell_of_heap h_s3]; rfl
  have a3 : w3.cell? ⟨w.heap.size, 3, none⟩ = some (.int .i64 v') := by rw [Lib.cell_of_heap h_s3]; rfl
  have r0 : w3.cell? ⟨w.heap.size + 1, 0, none⟩ = some (.int .i64 0) := by rw [Lib.cell_of_heap h_r3]; rfl
  have r1 : w3.cell? ⟨w.heap.size + 1, 1, none⟩ = some (.bool false) := by rw [Lib.cell_of_heap h_r3]; rfl
  have r2 : w3.cell? ⟨w.heap.size + 1, 2, none⟩ = some (.int .i64 0) := by rw [Lib.cell_of_heap h_r3]; rfl
  have r3 : w3.cell? ⟨w.heap.size + 1, 3, none⟩ = some (.int .i64 0) := by rw [Lib.cell_of_heap h_r3]; rfl
  have f_r : ∀ i, w3.frozen? ⟨w.heap.size + 1, i, none⟩ = false := fun i => Lib.frozen_of_heap h_r3 i
  go_wp2_with fail
  (try simp only [Exit.inBlock, Exit.then]); refine bodyPost_ret (results_cell_row rfl _ _ (w.heap.size + 1) 25 #[.int .i64 t', .bool c', .int .i64 x', .int .i64 v'] (0, 0) _ rfl (heap_setCell_same _ _ 3 _ _ _ (heap_setCell_same _ _ 2 _ _ _ (heap_setCell_same _ _ 1 _ _ _ (heap_setCell_same _ _ 0 _ _ _ h_r3)))) Tryd.underlying25 rfl (by kernel_rfl)) rfl ?_
  exact ⟨rfl, by repeat' (first | (with_reducible assumption) | (with_reducible exact Below.refl _ _) | (with_reducible refine below_drewN ?_ _) | (with_reducible refine Below.drew ?_) | (with_reducible refine Below.alloc ?_ ?_ _) | (with_reducible refine Below.setCell ?_ ?_ _) | go_size)⟩
theorem fbehind_any {lo hi : Nat} (s : St) {V : Value} {l : List Ev} {w : World} (h : EvH lo hi w V l) : Calls Tryd.prog 22 #[s.v, V] w (NumPost (apps s l).v w) := by
  rcases h with ⟨rfl, rfl⟩ | ⟨e, g, rfl, rfl, _, _, hg⟩
  · exact fb_nil s.tag s.cl s.sum s.ver w
  · exact fb_one s.tag s.cl s.sum s.ver e.k e.a g _ _ _ _ w hg (Lib.hid fun X => apply_any s e X)
end Go.Proofs.YtafhjlfnhgkcoaaDoor
