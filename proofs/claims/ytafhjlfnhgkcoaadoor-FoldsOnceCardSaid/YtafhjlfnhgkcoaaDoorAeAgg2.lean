/-
  behind of purse and tally, by counter's.
-/
import Derived.Test.YtafhjlfnhgkcoaaDoorAeAgg
namespace Go.Proofs.YtafhjlfnhgkcoaaDoor
open Go.RowKit
/-- Where the one field of a struct of no cells lies: where the struct does. -/
theorem part_nil {W : World} {b : Nat} {T : TypeId} (h : W.heap[b]? = some (.cells #[] T (0, 0))) (hT : Tryd.prog.cellsOf T = 0) : (partAt ⟨b, 0, none⟩ 0 0).run Tryd.prog W = .ok ⟨b, 0, none⟩ W := by
  have hsh : W.shape? b = some (T, 0) := by unfold World.shape?; rw [h]; rfl
  unfold partAt byteOf noView viewAt
  simp [Sem.run_bind, hsh, hT, Result.andThen]
theorem recv_block {w w4 : World} {s e n : Array Value} {tr ts te tn : TypeId} (h : w4 = (((w.alloc (.cells #[] tr)).alloc (.cells s ts)).alloc (.cells e te)).alloc (.cells n tn)) : w4.heap[w.heap.size]? = some (.cells #[] tr (0, 0)) := by
  subst h
  exact ((((Below.refl _ _).alloc (Nat.le_refl _) _).alloc (by simp) _).alloc (by simp) _ : Below (w.alloc (.cells #[] tr)).heap.size (w.alloc (.cells #[] tr)) _).block _ (by simp) |>.trans (heap_alloc_new _ _)
set_option maxRecDepth 100000 in
set_option maxHeartbeats 1000000 in
theorem tal_take (t : Int) (c : Bool) (x v a : Int) (w : World) :
    Calls Tryd.prog 56 #[.agg #[], .agg #[.int .i64 t, .bool c, .int .i64 x, .int .i64 v], .agg #[.int .i64 3, .int .i64 a]] w (NumPost (.tuple #[.agg #[.int .i64 t, .bool c, .int .i64 x, .int .i64 v], .bool false]) w) := by
  go_enter Tryd.func56, Tryd.ntmps56
  go_wp2_with fail
  (try simp only [Exit.inBlock, Exit.then]); refine bodyPost_ret (v := .tuple #[.agg #[.int .i64 t, .bool c, .int .i64 x, .int .i64 v], .bool false]) (by rw [results_cell_tmp rfl]; go_simp) rfl ?_
  exact ⟨rfl, by repeat' (first | (with_reducible assumption) | (with_reducible exact Below.refl _ _) | (with_reducible refine below_drewN ?_ _) | (with_reducible refine Below.drew ?_) | (with_reducible refine Below.alloc ?_ ?_ _) | (with_reducible refine Below.setCell ?_ ?_ _) | go_size)⟩
set_option maxRecDepth 100000 in
set_option maxHeartbeats 1000000 in
theorem tal_rest (t : Int) (c : Bool) (x v k a : Int) (t' : Int) (c' : Bool) (x' v' : Int) (w : World)
    (h3 : (k == 3) = false) (ok : Bool) (HG : Hid (∀ X : World, Calls Tryd.prog 52 #[.agg #[], .agg #[.int .i64 t, .bool c, .int .i64 x, .int .i64 v], .agg #[.int .i64 k, .int .i64 a]] X (NumPost (.tuple #[.agg #[.int .i64 t', .bool c', .int .i64 x', .int .i64 v'], .bool ok]) X))) :
    Calls Tryd.prog 56 #[.agg #[], .agg #[.int .i64 t, .bool c, .int .i64 x, .int .i64 v], .agg #[.int .i64 k, .int .i64 a]] w (NumPost (.tuple #[.agg #[.int .i64 t', .bool c', .int .i64 x', .int .i64 v'], .bool ok]) w) := by
  obtain ⟨w4, HW⟩ : ∃ w4, Hid (w4 = (((w.alloc (.cells #[] 80)).alloc (.cells #[.int .i64 t, .bool c, .int .i64 x, .int .i64 v] 25)).alloc (.cells #[.int .i64 k, .int .i64 a] 35)).alloc (.cells #[.int .i64 0, .bool false, .int .i64 0, .int .i64 0] 25)) := ⟨_, Lib.hid rfl⟩
  obtain ⟨hz4, hb4, hs4, he4, hn4⟩ := four_blocks HW.out
  have HP := part_nil (recv_block HW.out) (by kernel_rfl)
  rw [HW.out] at HP
  go_enter Tryd.func56, Tryd.ntmps56
  go_wp2_with fail
  rw [← HW.out]
  clear HP
  refine (HG.out _).mono ?_
  rintro e w5 ⟨rfl, hb⟩
  have HN : w5.heap[w.heap.size + 1 + 1 + 1]? = some (.cells #[.int .i64 0, .bool false, .int .i64 0, .int .i64 0] 25 (0, 0)) := (hb.block _ (by omega)).trans hn4
  have hb5 : Below w.heap.size w w5 := hb4.trans (hb.mono (by omega))
  have hz5 : w.heap.size + 1 + 1 + 1 < w5.heap.size := by have := hb.size; omega
  clear hb
  have r0 : w5.cell? ⟨w.heap.size + 1 + 1 + 1, 0, none⟩ = some (.int .i64 0) := by rw [Lib.cell_of_heap HN]; rfl
  have r1 : w5.cell? ⟨w.heap.size + 1 + 1 + 1, 1, none⟩ = some (.bool false) := by rw [Lib.cell_of_heap HN]; rfl
  have r2 : w5.cell? ⟨w.heap.size + 1 + 1 + 1, 2, none⟩ = some (.int .i64 0) := by rw [Lib.cell_of_heap HN]; rfl
  have r3 : w5.cell? ⟨w.heap.size + 1 + 1 + 1, 3, none⟩ = some (.int .i64 0) := by rw [Lib.cell_of_heap HN]; rfl
  have f0 : ∀ i, w5.frozen? ⟨w.heap.size + 1 + 1 + 1, i, none⟩ = false := fun i => Lib.frozen_of_heap HN i
  go_wp2_with fail
  (try simp only [Exit.inBlock, Exit.then]); refine bodyPost_ret (results_row_tmp rfl _ _ (w.heap.size + 1 + 1 + 1) 25 #[.int .i64 t', .bool c', .int .i64 x', .int .i64 v'] (0, 0) _ rfl (heap_setCell_same _ _ 3 _ _ _ (heap_setCell_same _ _ 2 _ _ _ (heap_setCell_same _ _ 1 _ _ _ (heap_setCell_same _ _ 0 _ _ _ HN)))) Tryd.underlying25 rfl (by kernel_rfl)) rfl ?_
  exact ⟨rfl, by repeat' (first | (with_reducible assumption) | (with_reducible exact Below.refl _ _) | (with_reducible refine below_drewN ?_ _) | (with_reducible refine Below.drew ?_) | (with_reducible refine Below.alloc ?_ ?_ _) | (with_reducible refine Below.setCell ?_ ?_ _) | go_size)⟩
set_option maxRecDepth 100000 in
set_option maxHeartbeats 1000000 in
theorem pur_no (t : Int) (c : Bool) (x v k a : Int) (t' : Int) (c' : Bool) (x' v' : Int) (w : World)
    (HG : Hid (∀ X : World, Calls Tryd.prog 52 #[.agg #[], .agg #[.int .i64 t, .bool c, .int .i64 x, .int .i64 v], .agg #[.int .i64 k, .int .i64 a]] X (NumPost (.tuple #[.agg #[.int .i64 t', .bool c', .int .i64 x', .int .i64 v'], .bool false]) X))) :
    Calls Tryd.prog 54 #[.agg #[], .agg #[.int .i64 t, .bool c, .int .i64 x, .int .i64 v], .agg #[.int .i64 k, .int .i64 a]] w (NumPost (.tuple #[.agg #[.int .i64 t', .bool c', .int .i64 x', .int .i64 v'], .bool false]) w) := by
  obtain ⟨w4, HW⟩ : ∃ w4, Hid (w4 = (((w.alloc (.cells #[] 79)).alloc (.cells #[.int .i64 t, .bool c, .int .i64 x, .int .i64 v] 25)).alloc (.cells #[.int .i64 k, .int .i64 a] 35)).alloc (.cells #[.int .i64 0, .bool false, .int .i64 0, .int .i64 0] 25)) := ⟨_, Lib.hid rfl⟩
  obtain ⟨hz4, hb4, hs4, he4, hn4⟩ := four_blocks HW.out
  have HP := part_nil (recv_block HW.out) (by kernel_rfl)
  rw [HW.out] at HP
  go_enter Tryd.func54, Tryd.ntmps54
  go_wp2_with fail
  rw [← HW.out]
  clear HP
  refine (HG.out _).mono ?_
  rintro e w5 ⟨rfl, hb⟩
  have HN : w5.heap[w.heap.size + 1 + 1 + 1]? = some (.cells #[.int .i64 0, .bool false, .int .i64 0, .int .i64 0] 25 (0, 0)) := (hb.block _ (by omega)).trans hn4
  have hb5 : Below w.heap.size w w5 := hb4.trans (hb.mono (by omega))
  have hz5 : w.heap.size + 1 + 1 + 1 < w5.heap.size := by have := hb.size; omega
  clear hb
  obtain ⟨w6, HX⟩ : ∃ w6, Hid (w6 = w5.alloc (.cells #[.int .i64 t', .bool c', .int .i64 x', .int .i64 v'] 25)) := ⟨_, Lib.hid rfl⟩
  have hz6 : w6.heap.size = w5.heap.size + 1 := by rw [HX.out]; simp
  have hm6 : w6.heap[w5.heap.size]? = some (.cells #[.int .i64 t', .bool c', .int .i64 x', .int .i64 v'] 25 (0, 0)) := by rw [HX.out]; exact heap_alloc_new _ _
  have hb6 : Below w5.heap.size w5 w6 := by rw [HX.out]; exact (Below.refl _ _).alloc (Nat.le_refl _) _
  have HN6 := (hb6.block _ hz5).trans HN
  have hbw6 : Below w.heap.size w w6 := hb5.trans (hb6.mono hb5.size)
  go_wp2_with fail
  rw [← HX.out]
  have m0 : w6.cell? ⟨w5.heap.size, 0, none⟩ = some (.int .i64 t') := by rw [Lib.cell_of_heap hm6]; rfl
  have m1 : w6.cell? ⟨w5.heap.size, 1, none⟩ = some (.bool c') := by rw [Lib.cell_of_heap hm6]; rfl
  have m2 : w6.cell? ⟨w5.heap.size, 2, none⟩ = some (.int .i64 x') := by rw [Lib.cell_of_heap hm6]; rfl
  have m3 : w6.cell? ⟨w5.heap.size, 3, none⟩ = some (.int .i64 v') := by rw [Lib.cell_of_heap hm6]; rfl
  have r0 : w6.cell? ⟨w.heap.size + 1 + 1 + 1, 0, none⟩ = some (.int .i64 0) := by rw [Lib.cell_of_heap HN6]; rfl
  have r1 : w6.cell? ⟨w.heap.size + 1 + 1 + 1, 1, none⟩ = some (.bool false) := by rw [Lib.cell_of_heap HN6]; rfl
  have r2 : w6.cell? ⟨w.heap.size + 1 + 1 + 1, 2, none⟩ = some (.int .i64 0) := by rw [Lib.cell_of_heap HN6]; rfl
  have r3 : w6.cell? ⟨w.heap.size + 1 + 1 + 1, 3, none⟩ = some (.int .i64 0) := by rw [Lib.cell_of_heap HN6]; rfl
  have f0 : ∀ i, w6.frozen? ⟨w.heap.size + 1 + 1 + 1, i, none⟩ = false := fun i => Lib.frozen_of_heap HN6 i
  go_region
  go_wp2_with fail
  (try simp only [Exit.inBlock, Exit.then]); refine bodyPost_ret (results_row_tmp rfl _ _ (w.heap.size + 1 + 1 + 1) 25 #[.int .i64 t', .bool c', .int .i64 x', .int .i64 v'] (0, 0) _ rfl (heap_setCell_same _ _ 3 _ _ _ (heap_setCell_same _ _ 2 _ _ _ (heap_setCell_same _ _ 1 _ _ _ (heap_setCell_same _ _ 0 _ _ _ HN6)))) Tryd.underlying25 rfl (by kernel_rfl)) rfl ?_
  exact ⟨rfl, by repeat' (first | (with_reducible assumption) | (with_reducible exact Below.refl _ _) | (with_reducible refine below_drewN ?_ _) | (with_reducible refine Below.drew ?_) | (with_reducible refine Below.alloc ?_ ?_ _) | (with_reducible refine Below.setCell ?_ ?_ _) | go_size)⟩
set_option maxRecDepth 100000 in
set_option maxHeartbeats 1000000 in
theorem pur_yes (t : Int) (c : Bool) (x v k a : Int) (t' : Int) (c' : Bool) (x' v' : Int) (w : World)
    (ok : Bool) (h : decide (0 ≤ x') = ok) (HG : Hid (∀ X : World, Calls Tryd.prog 52 #[.agg #[], .agg #[.int .i64 t, .bool c, .int .i64 x, .int .i64 v], .agg #[.int .i64 k, .int .i64 a]] X (NumPost (.tuple #[.agg #[.int .i64 t', .bool c', .int .i64 x', .int .i64 v'], .bool true]) X))) :
    Calls Tryd.prog 54 #[.agg #[], .agg #[.int .i64 t, .bool c, .int .i64 x, .int .i64 v], .agg #[.int .i64 k, .int .i64 a]] w (NumPost (.tuple #[.agg #[.int .i64 t', .bool c', .int .i64 x', .int .i64 v'], .bool ok]) w) := by
  obtain ⟨w4, HW⟩ : ∃ w4, Hid (w4 = (((w.alloc (.cells #[] 79)).alloc (.cells #[.int .i64 t, .bool c, .int .i64 x, .int .i64 v] 25)).alloc (.cells #[.int .i64 k, .int .i64 a] 35)).alloc (.cells #[.int .i64 0, .bool false, .int .i64 0, .int .i64 0] 25)) := ⟨_, Lib.hid rfl⟩
  obtain ⟨hz4, hb4, hs4, he4, hn4⟩ := four_blocks HW.out
  have HP := part_nil (recv_block HW.out) (by kernel_rfl)
  rw [HW.out] at HP
  go_enter Tryd.func54, Tryd.ntmps54
  go_wp2_with fail
  rw [← HW.out]
  clear HP
  refine (HG.out _).mono ?_
  rintro e w5 ⟨rfl, hb⟩
  have HN : w5.heap[w.heap.size + 1 + 1 + 1]? = some (.cells #[.int .i64 0, .bool false, .int .i64 0, .int .i64 0] 25 (0, 0)) := (hb.block _ (by omega)).trans hn4
  have hb5 : Below w.heap.size w w5 := hb4.trans (hb.mono (by omega))
  have hz5 : w.heap.size + 1 + 1 + 1 < w5.heap.size := by have := hb.size; omega
  clear hb
  obtain ⟨w6, HX⟩ : ∃ w6, Hid (w6 = w5.alloc (.cells #[.int .i64 t', .bool c', .int .i64 x', .int .i64 v'] 25)) := ⟨_, Lib.hid rfl⟩
  have hz6 : w6.heap.size = w5.heap.size + 1 := by rw [HX.out]; simp
  have hm6 : w6.heap[w5.heap.size]? = some (.cells #[.int .i64 t', .bool c', .int .i64 x', .int .i64 v'] 25 (0, 0)) := by rw [HX.out]; exact heap_alloc_new _ _
  have hb6 : Below w5.heap.size w5 w6 := by rw [HX.out]; exact (Below.refl _ _).alloc (Nat.le_refl _) _
  have HN6 := (hb6.block _ hz5).trans HN
  have hbw6 : Below w.heap.size w w6 := hb5.trans (hb6.mono hb5.size)
  go_wp2_with fail
  rw [← HX.out]
  have m0 : w6.cell? ⟨w5.heap.size, 0, none⟩ = some (.int .i64 t') := by rw [Lib.cell_of_heap hm6]; rfl
  have m1 : w6.cell? ⟨w5.heap.size, 1, none⟩ = some (.bool c') := by rw [Lib.cell_of_heap hm6]; rfl
  have m2 : w6.cell? ⟨w5.heap.size, 2, none⟩ = some (.int .i64 x') := by rw [Lib.cell_of_heap hm6]; rfl
  have m3 : w6.cell? ⟨w5.heap.size, 3, none⟩ = some (.int .i64 v') := by rw [Lib.cell_of_heap hm6]; rfl
  have r0 : w6.cell? ⟨w.heap.size + 1 + 1 + 1, 0, none⟩ = some (.int .i64 0) := by rw [Lib.cell_of_heap HN6]; rfl
  have r1 : w6.cell? ⟨w.heap.size + 1 + 1 + 1, 1, none⟩ = some (.bool false) := by rw [Lib.cell_of_heap HN6]; rfl
  have r2 : w6.cell? ⟨w.heap.size + 1 + 1 + 1, 2, none⟩ = some (.int .i64 0) := by rw [Lib.cell_of_heap HN6]; rfl
  have r3 : w6.cell? ⟨w.heap.size + 1 + 1 + 1, 3, none⟩ = some (.int .i64 0) := by rw [Lib.cell_of_heap HN6]; rfl
  have f0 : ∀ i, w6.frozen? ⟨w.heap.size + 1 + 1 + 1, i, none⟩ = false := fun i => Lib.frozen_of_heap HN6 i
  have hne : ¬ w5.heap.size = w.heap.size + 1 + 1 + 1 := by omega
  have hne' : ¬ w.heap.size + 1 + 1 + 1 = w5.heap.size := by omega
  go_region_held3 (fun X => X.cell? ⟨w5.heap.size, 0, none⟩ = some (.int .i64 t') ∧ X.cell? ⟨w5.heap.size, 1, none⟩ = some (.bool c') ∧ X.cell? ⟨w5.heap.size, 2, none⟩ = some (.int .i64 x') ∧ X.cell? ⟨w5.heap.size, 3, none⟩ = some (.int .i64 v')) (go_keep) ((go_at_call 55; (refine (least_p _).mono ?_); rintro e w7 ⟨rfl, hb⟩; obtain ⟨hc, hf⟩ := bcell hb; have HN7 : w7.heap[w.heap.size + 1 + 1 + 1]? = some (.cells #[.int .i64 0, .bool false, .int .i64 0, .int .i64 0] 25 (0, 0)) := (hb.block _ (Nat.lt_of_lt_of_le hz5 hb6.size)).trans HN6; have hb7 : Below w.heap.size w w7 := hbw6.drew.trans (hb.mono hbw6.size); have r0 : w7.cell? ⟨w.heap.size + 1 + 1 + 1, 0, none⟩ = some (.int .i64 0) := (by rw [Lib.cell_of_heap HN7]; rfl); have r1 : w7.cell? ⟨w.heap.size + 1 + 1 + 1, 1, none⟩ = some (.bool false) := (by rw [Lib.cell_of_heap HN7]; rfl); have r2 : w7.cell? ⟨w.heap.size + 1 + 1 + 1, 2, none⟩ = some (.int .i64 0) := (by rw [Lib.cell_of_heap HN7]; rfl); have r3 : w7.cell? ⟨w.heap.size + 1 + 1 + 1, 3, none⟩ = some (.int .i64 0) := (by rw [Lib.cell_of_heap HN7]; rfl); have f0 : ∀ i, w7.frozen? ⟨w.heap.size + 1 + 1 + 1, i, none⟩ = false := fun i => Lib.frozen_of_heap HN7 i))
  clear hc hf hb
  go_wp2_with fail
  (try simp only [Exit.inBlock, Exit.then]); refine bodyPost_ret (results_row_tmp rfl _ _ (w.heap.size + 1 + 1 + 1) 25 #[.int .i64 t', .bool c', .int .i64 x', .int .i64 v'] (0, 0) _ rfl (heap_setCell_same _ _ 3 _ _ _ (heap_setCell_same _ _ 2 _ _ _ (heap_setCell_same _ _ 1 _ _ _ (heap_setCell_same _ _ 0 _ _ _ HN7)))) Tryd.underlying25 rfl (by kernel_rfl)) rfl ?_
  exact ⟨rfl, by repeat' (first | (with_reducible assumption) | (with_reducible exact Below.refl _ _) | (with_reducible refine below_drewN ?_ _) | (with_reducible refine Below.drew ?_) | (with_reducible refine Below.alloc ?_ ?_ _) | (with_reducible refine Below.setCell ?_ ?_ _) | go_size)⟩
end Go.Proofs.YtafhjlfnhgkcoaaDoor
