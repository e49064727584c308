/-
  behind of the statements of deeds: the state behind an outcome's events.
-/
import Derived.Test.YtpboleiifmepeaaDoorAeWorks
namespace Go.Proofs.YtpboleiifmepeaaDoor
open Go.RowKit Go.Sort
/-- Two cells of a block stored. -/
theorem set_two {W w3 : World} {g n : Nat} {a b a' b' : Value} {T : TypeId} (hg : W.heap[g]? = some (.cells #[a, b] T (0, 0))) (hn : n ≤ g)
    (h : w3 = (W.setCell ⟨g, 0, none⟩ a').setCell ⟨g, 1, none⟩ b') :
    w3.heap[g]? = some (.cells #[a', b'] T (0, 0)) ∧ Below n W w3 ∧ w3.heap.size = W.heap.size ∧ ∀ k, k ≠ g → w3.heap[k]? = W.heap[k]? := by
  subst h
  refine ⟨heap_setCell_same _ _ 1 _ _ _ (heap_setCell_same _ _ 0 _ _ _ hg), ((Below.refl _ _).setCell hn _).setCell hn _, by simp [World.setCell], fun k hk => ?_⟩
  exact (Below.heap_setCell _ _ _ _ hk).trans (Below.heap_setCell _ _ _ _ hk)
/-- A state stored cell by cell. -/
theorem set_four {W w3 : World} {g n : Nat} {a b c d a' b' c' d' : Value} {T : TypeId} (hg : W.heap[g]? = some (.cells #[a, b, c, d] T (0, 0))) (hn : n ≤ g)
    (h : w3 = (((W.setCell ⟨g, 0, none⟩ a').setCell ⟨g, 1, none⟩ b').setCell ⟨g, 2, none⟩ c').setCell ⟨g, 3, none⟩ d') :
    w3.heap[g]? = some (.cells #[a', b', c', d'] T (0, 0)) ∧ Below n W w3 ∧ w3.heap.size = W.heap.size ∧ ∀ k, k ≠ g → w3.heap[k]? = W.heap[k]? := by
  subst h
  refine ⟨heap_setCell_same _ _ 3 _ _ _ (heap_setCell_same _ _ 2 _ _ _ (heap_setCell_same _ _ 1 _ _ _ (heap_setCell_same _ _ 0 _ _ _ hg))), ((((Below.refl _ _).setCell hn _).setCell hn _).setCell hn _).setCell hn _, by simp [World.setCell], fun k hk => ?_⟩
  exact (Below.heap_setCell _ _ _ _ hk).trans ((Below.heap_setCell _ _ _ _ hk).trans ((Below.heap_setCell _ _ _ _ hk).trans (Below.heap_setCell _ _ _ _ hk)))
set_option maxRecDepth 100000 in
set_option maxHeartbeats 2000000 in
theorem tail_nil (t : Int) (c : Bool) (x v cd ve : Int) (w : World) : Calls Tryd.prog 16 #[.agg #[.int .i64 t, .bool c, .int .i64 x, .int .i64 v], .agg #[.int .i64 cd, .int .i64 ve, .slice none 0 0]] w (NumPost (.agg #[.int .i64 t, .bool c, .int .i64 x, .int .i64 v]) w) := by
  go_enter Tryd.func16, Tryd.ntmps16
  go_wp2_with fail
  refine wp_loop_rounds 1 ?_
  rw [rounds_succ]
  go_wp2_with fail
  (try simp only [Exit.inBlock, Exit.then]); refine bodyPost_ret (v := .agg #[.int .i64 t, .bool c, .int .i64 x, .int .i64 v]) (by rw [results_cell1 rfl]; go_simp) rfl ?_
  exact ⟨rfl, by repeat' (first | (with_reducible assumption) | (with_reducible exact Below.refl _ _) | (with_reducible refine below_drewN ?_ _) | (with_reducible refine Below.drew ?_) | (with_reducible refine Below.alloc ?_ ?_ _) | (with_reducible refine Below.setCell ?_ ?_ _) | go_size)⟩
set_option maxRecDepth 100000 in
set_option maxHeartbeats 4000000 in
theorem tail_one (t : Int) (c : Bool) (x v cd ve k a : Int) (g : Nat) (t' : Int) (c' : Bool) (x' v' : Int) (w : World) (hg : w.heap[g]? = some (.cells #[.int .i64 k, .int .i64 a] 32 (0, 0)))
    (HP : Hid (∀ X : World, Calls Tryd.prog 13 #[.agg #[.int .i64 t, .bool c, .int .i64 x, .int .i64 v], .agg #[.int .i64 k, .int .i64 a]] X (NumPost (.agg #[.int .i64 t', .bool c', .int .i64 x', .int .i64 v']) X))) :
    Calls Tryd.prog 16 #[.agg #[.int .i64 t, .bool c, .int .i64 x, .int .i64 v], .agg #[.int .i64 cd, .int .i64 ve, .slice (some ⟨g, 0, none⟩) 1 1]] w (NumPost (.agg #[.int .i64 t', .bool c', .int .i64 x', .int .i64 v']) w) := by
  have hgl : g < w.heap.size := lt_of_block hg
  obtain ⟨w1, HX1⟩ : ∃ W : World, Hid (W = (((w.alloc (.cells #[.int .i64 t, .bool c, .int .i64 x, .int .i64 v] 23)).alloc (.cells #[.int .i64 cd, .int .i64 ve, .slice (some ⟨g, 0, none⟩) 1 1] 28)).alloc (.cells #[.int .i64 0, .bool false, .int .i64 0, .int .i64 0] 23))) := ⟨_, Lib.hid rfl⟩
  obtain ⟨hz1, hb1, h_s1, h_o1, h_r1⟩ := three_blocks HX1.out
  replace hz1 : w.heap.size + 3 ≤ w1.heap.size := by omega
  have h_g1 := (hb1.block g hgl).trans hg
  clear hg
  have c_o2 : w1.cell? ⟨w.heap.size + 1, 2, none⟩ = some (.slice (some ⟨g, 0, none⟩) 1 1) := by rw [Lib.cell_of_heap h_o1]; rfl
  go_enter Tryd.func16, Tryd.ntmps16
  go_wp2_with (rw [← HX1.out])
  refine wp_loop_rounds 2 ?_
  rw [rounds_succ]
  have c_s0 : w1.cell? ⟨w.heap.size, 0, none⟩ = some (.int .i64 t) := by rw [Lib.cell_of_heap h_s1]; rfl
  have c_s1 : w1.cell? ⟨w.heap.size, 1, none⟩ = some (.bool c) := by rw [Lib.cell_of_heap h_s1]; rfl
  have c_s2 : w1.cell? ⟨w.heap.size, 2, none⟩ = some (.int .i64 x) := by rw [Lib.cell_of_heap h_s1]; rfl
  have c_s3 : w1.cell? ⟨w.heap.size, 3, none⟩ = some (.int .i64 v) := by rw [Lib.cell_of_heap h_s1]; rfl
  have c_g0 : w1.cell? ⟨g, 0, none⟩ = some (.int .i64 k) := by rw [Lib.cell_of_heap h_g1]; rfl
  have c_g1 : w1.cell? ⟨g, 1, none⟩ = some (.int .i64 a) := by rw [Lib.cell_of_heap h_g1]; rfl
  have f_s : ∀ i, w1.frozen? ⟨w.heap.size, i, none⟩ = false := fun i => Lib.frozen_of_heap h_s1 i
  go_wp2_with (rw [← HX1.out])
  go_region_with ((go_at_call 13; (refine (HP.out _).mono ?_); rintro e w2 ⟨rfl, hb⟩; have h_s2 := (hb.block (w.heap.size) (by show w.heap.size < w1.heap.size; omega)).trans h_s1; have d0 : w2.cell? ⟨w.heap.size, 0, none⟩ = some (.int .i64 t) := (by rw [Lib.cell_of_heap h_s2]; rfl); have d1 : w2.cell? ⟨w.heap.size, 1, none⟩ = some (.bool c) := (by rw [Lib.cell_of_heap h_s2]; rfl); have d2 : w2.cell? ⟨w.heap.size, 2, none⟩ = some (.int .i64 x) := (by rw [Lib.cell_of_heap h_s2]; rfl); have d3 : w2.cell? ⟨w.heap.size, 3, none⟩ = some (.int .i64 v) := (by rw [Lib.cell_of_heap h_s2]; rfl); have df : ∀ i, w2.frozen? ⟨w.heap.size, i, none⟩ = false := (fun i => Lib.frozen_of_heap h_s2 i)))
  all_goals
    have hl : w1.drew.heap.size = w1.heap.size := rfl
    have h_o2 := (hb.block (w.heap.size + 1) (by omega)).trans h_o1
    have h_r2 := (hb.block (w.heap.size + 1 + 1) (by omega)).trans h_r1
    have hb2 : Below w.heap.size w w2 := hb1.drew.trans (hb.mono (by omega))
    have hz2 : w1.heap.size ≤ w2.heap.size := hb.size
    clear hb hl
    obtain ⟨w3, HW3⟩ : ∃ W : World, Hid (W = (((w2.setCell ⟨w.heap.size, 0, none⟩ (.int .i64 t')).setCell ⟨w.heap.size, 1, none⟩ (.bool c')).setCell ⟨w.heap.size, 2, none⟩ (.int .i64 x')).setCell ⟨w.heap.size, 3, none⟩ (.int .i64 v')) := ⟨_, Lib.hid rfl⟩
    obtain ⟨h_s3, hbl, hz3, hoth⟩ := set_four (n := w.heap.size) h_s2 (Nat.le_refl _) HW3.out
    have h_o3 := (hoth (w.heap.size + 1) (by omega)).trans h_o2
    have h_r3 := (hoth (w.heap.size + 1 + 1) (by omega)).trans h_r2
    have hb3 := hb2.trans hbl
    rw [← HW3.out]
    clear hoth hbl hz3 d0 d1 d2 d3 df
    clear c_o2 c_s0 c_s1 c_s2 c_s3 c_g0 c_g1 f_s
    have c_s0 : w3.cell? ⟨w.heap.size, 0, none⟩ = some (.int .i64 t') := by rw [Lib.cell_of_heap h_s3]; rfl
    have c_s1 : w3.cell? ⟨w.heap.size, 1, none⟩ = some (.bool c') := by rw [Lib.cell_of_heap h_s3]; rfl
    have c_s2 : w3.cell? ⟨w.heap.size, 2, none⟩ = some (.int .i64 x') := by rw [Lib.cell_of_heap h_s3]; rfl
    have c_s3 : w3.cell? ⟨w.heap.size, 3, none⟩ = some (.int .i64 v') := by rw [Lib.cell_of_heap h_s3]; rfl
    have c_o2 : w3.cell? ⟨w.heap.size + 1, 2, none⟩ = some (.slice (some ⟨g, 0, none⟩) 1 1) := by rw [Lib.cell_of_heap h_o3]; rfl
    have c_r0 : w3.cell? ⟨w.heap.size + 1 + 1, 0, none⟩ = some (.int .i64 0) := by rw [Lib.cell_of_heap h_r3]; rfl
    have c_r1 : w3.cell? ⟨w.heap.size + 1 + 1, 1, none⟩ = some (.bool false) := by rw [Lib.cell_of_heap h_r3]; rfl
    have c_r2 : w3.cell? ⟨w.heap.size + 1 + 1, 2, none⟩ = some (.int .i64 0) := by rw [Lib.cell_of_heap h_r3]; rfl
    have c_r3 : w3.cell? ⟨w.heap.size + 1 + 1, 3, none⟩ = some (.int .i64 0) := by rw [Lib.cell_of_heap h_r3]; rfl
    have f_r : ∀ i, w3.frozen? ⟨w.heap.size + 1 + 1, i, none⟩ = false := fun i => Lib.frozen_of_heap h_r3 i
    go_wp2_with fail
    rw [rounds_succ]
    go_wp2_with fail
    (try simp only [Exit.inBlock, Exit.then]); refine bodyPost_ret (results_cell_row rfl _ _ (w.heap.size + 1 + 1) 23 #[.int .i64 t', .bool c', .int .i64 x', .int .i64 v'] (0, 0) _ rfl (heap_setCell_same _ _ 3 _ _ _ (heap_setCell_same _ _ 2 _ _ _ (heap_setCell_same _ _ 1 _ _ _ (heap_setCell_same _ _ 0 _ _ _ h_r3)))) Tryd.underlying23 rfl (by kernel_rfl)) rfl ?_
    exact ⟨rfl, by repeat' (first | (with_reducible assumption) | (with_reducible exact Below.refl _ _) | (with_reducible refine below_drewN ?_ _) | (with_reducible refine Below.drew ?_) | (with_reducible refine Below.alloc ?_ ?_ _) | (with_reducible refine Below.setCell ?_ ?_ _) | go_size)⟩
theorem tail_any (s : St) (cd ve : Int) (l : List Ev) (V : Value) (b : Nat) (w : World) (h : EvS w b V l) : Calls Tryd.prog 16 #[s.v, .agg #[.int .i64 cd, .int .i64 ve, V]] w (NumPost (apps s l).v w) := by
  rcases h with ⟨rfl, rfl⟩ | ⟨e, g, rfl, rfl, -, hg⟩
  · exact tail_nil s.tag s.cl s.sum s.ver cd ve w
  · exact tail_one s.tag s.cl s.sum s.ver cd ve e.k e.a g _ _ _ _ w hg (Lib.hid fun X => apply_any s e X)
end Go.Proofs.YtpboleiifmepeaaDoor
