/-
  open, behind and Apply of package deeds.
-/
import Derived.Test.YtafhjlfnhgkcoaaDoorAeMay
namespace Go.Proofs.YtafhjlfnhgkcoaaDoor
open Go.RowKit Go.Sort
theorem maybe_any (s : St) (w : World) : Calls Tryd.prog 27 #[s.v] w (NumPost (.bool s.may) w) := by
  have hm := may_iff s
  generalize hl : s.may = l at *
  obtain ⟨t, c, x, v⟩ := s
  simp only [St.v] at *
  by_cases t0 : t = 0
  · subst t0
    cases c
    · by_cases hx : x = 0
      · subst hx
        by_cases hv : v = 0
        · subst hv
          obtain rfl : l = true := hm.2 (.inl ⟨rfl, rfl, rfl, rfl⟩)
          exact mb_04 w
        · obtain rfl : l = false := by cases l <;> simp at hm ⊢ <;> omega
          exact mb_03 v w (by simp [hv])
      · obtain rfl : l = false := by cases l <;> simp at hm ⊢ <;> omega
        exact mb_02 x v w (by simp [hx])
    · obtain rfl : l = false := by cases l <;> simp at hm ⊢ <;> omega
      exact mb_01 x v w
  by_cases t1 : t = 1
  · subst t1
    by_cases h0 : x < -1099511627776
    · obtain rfl : l = false := by cases l <;> simp at hm ⊢ <;> omega
      exact mb_c0 c x v w h0
    by_cases h1 : 1099511627776 < x
    · obtain rfl : l = false := by cases l <;> simp at hm ⊢ <;> omega
      exact mb_c1 c x v w h1
    by_cases h2 : v < 1
    · obtain rfl : l = false := by cases l <;> simp at hm ⊢ <;> omega
      exact mb_c2 c x v w (by omega) (by omega) h2
    by_cases h3 : 1099511627776 < v
    · obtain rfl : l = false := by cases l <;> simp at hm ⊢ <;> omega
      exact mb_c3 c x v w (by omega) (by omega) h3
    cases c
    · obtain rfl : l = true := hm.2 (.inr ⟨by decide, by decide, by show -1099511627776 ≤ x; omega, by show x ≤ 1099511627776; omega, by show 1 ≤ v; omega, by show v ≤ 1099511627776; omega, by show _ ∨ 0 ≤ x; first | exact .inl rfl | (right; omega), .inl rfl⟩)
      exact mb_c4 x v w (by omega) (by omega) (by omega) (by omega)
    · by_cases hx : x = 0
      · subst hx
        obtain rfl : l = true := hm.2 (.inr ⟨by decide, by decide, by decide, by decide, by show 1 ≤ v; omega, by show v ≤ 1099511627776; omega, .inr (by decide), .inr rfl⟩)
        exact mb_c5 v w (by omega) (by omega)
      · obtain rfl : l = false := by cases l <;> simp at hm ⊢ <;> omega
        exact mb_c6 x v w (by omega) (by omega) (by omega) (by omega) (by simp [hx])
  by_cases t2 : t = 2
  · subst t2
    by_cases h0 : x < 0
    · obtain rfl : l = false := by cases l <;> simp at hm ⊢ <;> omega
      exact mb_p0 c x v w h0
    by_cases h1 : 1099511627776 < x
    · obtain rfl : l = false := by cases l <;> simp at hm ⊢ <;> omega
      exact mb_p1 c x v w h1
    by_cases h2 : v < 1
    · obtain rfl : l = false := by cases l <;> simp at hm ⊢ <;> omega
      exact mb_p2 c x v w (by omega) (by omega) h2
    by_cases h3 : 1099511627776 < v
    · obtain rfl : l = false := by cases l <;> simp at hm ⊢ <;> omega
      exact mb_p3 c x v w (by omega) (by omega) h3
    cases c
    · obtain rfl : l = true := hm.2 (.inr ⟨by decide, by decide, by show -1099511627776 ≤ x; omega, by show x ≤ 1099511627776; omega, by show 1 ≤ v; omega, by show v ≤ 1099511627776; omega, by show _ ∨ 0 ≤ x; first | exact .inl rfl | (right; omega), .inl rfl⟩)
      exact mb_p4 x v w (by omega) (by omega) (by omega) (by omega)
    · by_cases hx : x = 0
      · subst hx
        obtain rfl : l = true := hm.2 (.inr ⟨by decide, by decide, by decide, by decide, by show 1 ≤ v; omega, by show v ≤ 1099511627776; omega, .inr (by decide), .inr rfl⟩)
        exact mb_p5 v w (by omega) (by omega)
      · obtain rfl : l = false := by cases l <;> simp at hm ⊢ <;> omega
        exact mb_p6 x v w (by omega) (by omega) (by omega) (by omega) (by simp [hx])
  by_cases t3 : t = 3
  · subst t3
    by_cases h0 : x < 0
    · obtain rfl : l = false := by cases l <;> simp at hm ⊢ <;> omega
      exact mb_t0 c x v w h0
    by_cases h1 : 1099511627776 < x
    · obtain rfl : l = false := by cases l <;> simp at hm ⊢ <;> omega
      exact mb_t1 c x v w h1
    by_cases h2 : v < 1
    · obtain rfl : l = false := by cases l <;> simp at hm ⊢ <;> omega
      exact mb_t2 c x v w (by omega) (by omega) h2
    by_cases h3 : 1099511627776 < v
    · obtain rfl : l = false := by cases l <;> simp at hm ⊢ <;> omega
      exact mb_t3 c x v w (by omega) (by omega) h3
    cases c
    · obtain rfl : l = true := hm.2 (.inr ⟨by decide, by decide, by show -1099511627776 ≤ x; omega, by show x ≤ 1099511627776; omega, by show 1 ≤ v; omega, by show v ≤ 1099511627776; omega, by show _ ∨ 0 ≤ x; first | exact .inl rfl | (right; omega), .inl rfl⟩)
      exact mb_t4 x v w (by omega) (by omega) (by omega) (by omega)
    · by_cases hx : x = 0
      · subst hx
        obtain rfl : l = true := hm.2 (.inr ⟨by decide, by decide, by decide, by decide, by show 1 ≤ v; omega, by show v ≤ 1099511627776; omega, .inr (by decide), .inr rfl⟩)
        exact mb_t5 v w (by omega) (by omega)
      · obtain rfl : l = false := by cases l <;> simp at hm ⊢ <;> omega
        exact mb_t6 x v w (by omega) (by omega) (by omega) (by omega) (by simp [hx])
  obtain rfl : l = false := by cases l <;> simp at hm ⊢ <;> omega
  exact mb_no t c x v w (by simp [t0]) (by unfold aggV; rw [if_neg t1, if_neg t2, if_neg t3])
set_option maxRecDepth 100000 in
set_option maxHeartbeats 1000000 in
theorem open_no (t : Int) (c : Bool) (x v k a : Int) (V : Value) (w : World) (hv : aggV a = .tuple #[V, .bool false]) :
    Calls Tryd.prog 34 #[.agg #[.int .i64 t, .bool c, .int .i64 x, .int .i64 v], .agg #[.int .i64 k, .int .i64 a]] w (NumPost (.tuple #[.agg #[.int .i64 a, .bool c, .int .i64 x, .int .i64 v], .bool false]) w) := by
  have G := agg_any a
  rw [hv] at G
  have HG := Lib.hid G
  clear G hv
  go_enter Tryd.func34, Tryd.ntmps34
  go_wp2_with fail
  refine (HG.out _).mono ?_
  rintro e w' ⟨rfl, rfl⟩
  go_wp2_with fail
  go_region
  go_wp2_with fail
  (try simp only [Exit.inBlock, Exit.then]); refine bodyPost_ret (v := .tuple #[.agg #[.int .i64 a, .bool c, .int .i64 x, .int .i64 v], .bool false]) (by rw [results_cell_tmp rfl]; go_simp) rfl ?_
  exact ⟨rfl, by repeat' (first | (with_reducible assumption) | (with_reducible exact Below.refl _ _) | (with_reducible refine below_drewN ?_ _) | (with_reducible refine Below.drew ?_) | (with_reducible refine Below.alloc ?_ ?_ _) | (with_reducible refine Below.setCell ?_ ?_ _) | go_size)⟩
set_option maxRecDepth 100000 in
set_option maxHeartbeats 1000000 in
theorem open_k (t : Int) (c : Bool) (x v k a : Int) (V : Value) (w : World) (hv : aggV a = .tuple #[V, .bool true]) (hk : (k == 1) = false) :
    Calls Tryd.prog 34 #[.agg #[.int .i64 t, .bool c, .int .i64 x, .int .i64 v], .agg #[.int .i64 k, .int .i64 a]] w (NumPost (.tuple #[.agg #[.int .i64 a, .bool c, .int .i64 x, .int .i64 v], .bool false]) w) := by
  have G := agg_any a
  rw [hv] at G
  have HG := Lib.hid G
  clear G hv
  go_enter Tryd.func34, Tryd.ntmps34
  go_wp2_with fail
  refine (HG.out _).mono ?_
  rintro e w' ⟨rfl, rfl⟩
  go_wp2_with fail
  go_region
  go_wp2_with fail
  (try simp only [Exit.inBlock, Exit.then]); refine bodyPost_ret (v := .tuple #[.agg #[.int .i64 a, .bool c, .int .i64 x, .int .i64 v], .bool false]) (by rw [results_cell_tmp rfl]; go_simp) rfl ?_
  exact ⟨rfl, by repeat' (first | (with_reducible assumption) | (with_reducible exact Below.refl _ _) | (with_reducible refine below_drewN ?_ _) | (with_reducible refine Below.drew ?_) | (with_reducible refine Below.alloc ?_ ?_ _) | (with_reducible refine Below.setCell ?_ ?_ _) | go_size)⟩
set_option maxRecDepth 100000 in
set_option maxHeartbeats 1000000 in
theorem open_yes (t : Int) (c : Bool) (x v a : Int) (V : Value) (w : World) (hv : aggV a = .tuple #[V, .bool true]) :
    Calls Tryd.prog 34 #[.agg #[.int .i64 t, .bool c, .int .i64 x, .int .i64 v], .agg #[.int .i64 1, .int .i64 a]] w (NumPost (.tuple #[.agg #[.int .i64 a, .bool c, .int .i64 x, .int .i64 v], .bool true]) w) := by
  have G := agg_any a
  rw [hv] at G
  have HG := Lib.hid G
  clear G hv
  go_enter Tryd.func34, Tryd.ntmps34
  go_wp2_with fail
  refine (HG.out _).mono ?_
  rintro e w' ⟨rfl, rfl⟩
  go_wp2_with fail
  go_region
  go_wp2_with fail
  (try simp only [Exit.inBlock, Exit.then]); refine bodyPost_ret (v := .tuple #[.agg #[.int .i64 a, .bool c, .int .i64 x, .int .i64 v], .bool true]) (by rw [results_cell_tmp rfl]; go_simp) rfl ?_
  exact ⟨rfl, by repeat' (first | (with_reducible assumption) | (with_reducible exact Below.refl _ _) | (with_reducible refine below_drewN ?_ _) | (with_reducible refine Below.drew ?_) | (with_reducible refine Below.alloc ?_ ?_ _) | (with_reducible refine Below.setCell ?_ ?_ _) | go_size)⟩
theorem three_blocks {w w4 : World} {s e n : Array Value} {ts te tn : TypeId} (h : w4 = ((w.alloc (.cells s ts)).alloc (.cells e te)).alloc (.cells n tn)) :
    w4.heap.size = w.heap.size + 1 + 1 + 1 ∧ Below w.heap.size w w4 ∧ w4.heap[w.heap.size]? = some (.cells s ts (0, 0)) ∧ w4.heap[w.heap.size + 1]? = some (.cells e te (0, 0)) ∧ w4.heap[w.heap.size + 1 + 1]? = some (.cells n tn (0, 0)) := by
  subst h
  refine ⟨by simp, (((Below.refl _ _).alloc (Nat.le_refl _) _).alloc (by simp) _).alloc (by simp; omega) _, ?_, ?_, ?_⟩
  · exact (((Below.refl _ _).alloc (Nat.le_refl _) _).alloc (by simp) _ : Below (w.alloc (.cells s ts)).heap.size (w.alloc (.cells s ts)) _).block _ (by simp) |>.trans (heap_alloc_new _ _)
  all_goals
    show (((w.heap.push _).push _).push _)[_]? = _
    simp [Array.getElem_push]
set_option maxRecDepth 100000 in
set_option maxHeartbeats 1000000 in
theorem beh_bad (t : Int) (c : Bool) (x : Int) (v : Int) (k a : Int)  (w : World) (HG : Hid (∀ X : World, Calls Tryd.prog 27 #[.agg #[.int .i64 t, .bool c, .int .i64 x, .int .i64 v]] X (NumPost (.bool false) X))) :
    Calls Tryd.prog 26 #[.agg #[.int .i64 t, .bool c, .int .i64 x, .int .i64 v], .agg #[.int .i64 k, .int .i64 a]] w (NumPost (.tuple #[.agg #[.int .i64 0, .bool false, .int .i64 0, .int .i64 0], .bool false]) w) := by
  obtain ⟨w4, HW⟩ : ∃ w4, Hid (w4 = ((w.alloc (.cells #[.int .i64 t, .bool c, .int .i64 x, .int .i64 v] 25)).alloc (.cells #[.int .i64 k, .int .i64 a] 35)).alloc (.cells #[.int .i64 0, .bool false, .int .i64 0, .int .i64 0] 25)) := ⟨_, Lib.hid rfl⟩
  obtain ⟨hz4, hb4, hs4, he4, hn4⟩ := three_blocks HW.out
  go_enter Tryd.func26, Tryd.ntmps26
  go_wp2_with fail
  rw [← HW.out]
  refine (HG.out _).mono ?_
  rintro e w5 ⟨rfl, hb⟩
  have hs5 : w5.heap[w.heap.size]? = _ := (hb.block _ (by omega)).trans hs4
  have he5 := (hb.block (w.heap.size + 1) (by omega)).trans he4
  have hn5 := (hb.block (w.heap.size + 1 + 1) (by omega)).trans hn4
  have hb5 : Below w.heap.size w w5 := hb4.trans (hb.mono (by omega))
  have hz5 : w.heap.size + 1 + 1 < w5.heap.size := by have := hb.size; omega
  clear hb
  have a0 : w5.cell? ⟨w.heap.size, 0, none⟩ = some (.int .i64 t) := by rw [Lib.cell_of_heap hs5]; rfl
  have a1 : w5.cell? ⟨w.heap.size, 1, none⟩ = some (.bool c) := by rw [Lib.cell_of_heap hs5]; rfl
  have a2 : w5.cell? ⟨w.heap.size, 2, none⟩ = some (.int .i64 x) := by rw [Lib.cell_of_heap hs5]; rfl
  have a3 : w5.cell? ⟨w.heap.size, 3, none⟩ = some (.int .i64 v) := by rw [Lib.cell_of_heap hs5]; rfl
  have n0 : w5.cell? ⟨w.heap.size + 1 + 1, 0, none⟩ = some (.int .i64 0) := by rw [Lib.cell_of_heap hn5]; rfl
  have n1 : w5.cell? ⟨w.heap.size + 1 + 1, 1, none⟩ = some (.bool false) := by rw [Lib.cell_of_heap hn5]; rfl
  have n2 : w5.cell? ⟨w.heap.size + 1 + 1, 2, none⟩ = some (.int .i64 0) := by rw [Lib.cell_of_heap hn5]; rfl
  have n3 : w5.cell? ⟨w.heap.size + 1 + 1, 3, none⟩ = some (.int .i64 0) := by rw [Lib.cell_of_heap hn5]; rfl
  have nf : ∀ i, w5.frozen? ⟨w.heap.size + 1 + 1, i, none⟩ = false := fun i => Lib.frozen_of_heap hn5 i
  go_wp2_with fail
  (try simp only [Exit.inBlock, Exit.then]); refine bodyPost_ret (results_row_tmp rfl _ _ (w.heap.size + 1 + 1) 25 #[.int .i64 0, .bool false, .int .i64 0, .int .i64 0] (0, 0) _ rfl (heap_setCell_same _ _ 3 _ _ _ (heap_setCell_same _ _ 2 _ _ _ (heap_setCell_same _ _ 1 _ _ _ (heap_setCell_same _ _ 0 _ _ _ hn5)))) Tryd.underlying25 rfl (by kernel_rfl)) rfl ?_
  exact ⟨rfl, by repeat' (first | (with_reducible assumption) | (with_reducible exact Below.refl _ _) | (with_reducible refine below_drewN ?_ _) | (with_reducible refine Below.drew ?_) | (with_reducible refine Below.alloc ?_ ?_ _) | (with_reducible refine Below.setCell ?_ ?_ _) | go_size)⟩
set_option maxRecDepth 100000 in
set_option maxHeartbeats 1000000 in
theorem beh_closed (t : Int) (x : Int) (v : Int) (k a : Int)  (w : World) (HG : Hid (∀ X : World, Calls Tryd.prog 27 #[.agg #[.int .i64 t, .bool true, .int .i64 x, .int .i64 v]] X (NumPost (.bool true) X))) :
    Calls Tryd.prog 26 #[.agg #[.int .i64 t, .bool true, .int .i64 x, .int .i64 v], .agg #[.int .i64 k, .int .i64 a]] w (NumPost (.tuple #[.agg #[.int .i64 0, .bool false, .int .i64 0, .int .i64 0], .bool false]) w) := by
  obtain ⟨w4, HW⟩ : ∃ w4, Hid (w4 = ((w.alloc (.cells #[.int .i64 t, .bool true, .int .i64 x, .int .i64 v] 25)).alloc (.cells #[.int .i64 k, .int .i64 a] 35)).alloc (.cells #[.int .i64 0, .bool false, .int .i64 0, .int .i64 0] 25)) := ⟨_, Lib.hid rfl⟩
  obtain ⟨hz4, hb4, hs4, he4, hn4⟩ := three_blocks HW.out
  go_enter Tryd.func26, Tryd.ntmps26
  go_wp2_with fail
  rw [← HW.out]
  refine (HG.out _).mono ?_
  rintro e w5 ⟨rfl, hb⟩
  have hs5 : w5.heap[w.heap.size]? = _ := (hb.block _ (by omega)).trans hs4
  have he5 := (hb.block (w.heap.size + 1) (by omega)).trans he4
  have hn5 := (hb.block (w.heap.size + 1 + 1) (by omega)).trans hn4
  have hb5 : Below w.heap.size w w5 := hb4.trans (hb.mono (by omega))
  have hz5 : w.heap.size + 1 + 1 < w5.heap.size := by have := hb.size; omega
  clear hb
  have a0 : w5.cell? ⟨w.heap.size, 0, none⟩ = some (.int .i64 t) := by rw [Lib.cell_of_heap hs5]; rfl
  have a1 : w5.cell? ⟨w.heap.size, 1, none⟩ = some (.bool true) := by rw [Lib.cell_of_heap hs5]; rfl
  have a2 : w5.cell? ⟨w.heap.size, 2, none⟩ = some (.int .i64 x) := by rw [Lib.cell_of_heap hs5]; rfl
  have a3 : w5.cell? ⟨w.heap.size, 3, none⟩ = some (.int .i64 v) := by rw [Lib.cell_of_heap hs5]; rfl
  have n0 : w5.cell? ⟨w.heap.size + 1 + 1, 0, none⟩ = some (.int .i64 0) := by rw [Lib.cell_of_heap hn5]; rfl
  have n1 : w5.cell? ⟨w.heap.size + 1 + 1, 1, none⟩ = some (.bool false) := by rw [Lib.cell_of_heap hn5]; rfl
  have n2 : w5.cell? ⟨w.heap.size + 1 + 1, 2, none⟩ = some (.int .i64 0) := by rw [Lib.cell_of_heap hn5]; rfl
  have n3 : w5.cell? ⟨w.heap.size + 1 + 1, 3, none⟩ = some (.int .i64 0) := by rw [Lib.cell_of_heap hn5]; rfl
  have nf : ∀ i, w5.frozen? ⟨w.heap.size + 1 + 1, i, none⟩ = false := fun i => Lib.frozen_of_heap hn5 i
  go_wp2_with fail
  (try simp only [Exit.inBlock, Exit.then]); refine bodyPost_ret (results_row_tmp rfl _ _ (w.heap.size + 1 + 1) 25 #[.int .i64 0, .bool false, .int .i64 0, .int .i64 0] (0, 0) _ rfl (heap_setCell_same _ _ 3 _ _ _ (heap_setCell_same _ _ 2 _ _ _ (heap_setCell_same _ _ 1 _ _ _ (heap_setCell_same _ _ 0 _ _ _ hn5)))) Tryd.underlying25 rfl (by kernel_rfl)) rfl ?_
  exact ⟨rfl, by repeat' (first | (with_reducible assumption) | (with_reducible exact Below.refl _ _) | (with_reducible refine below_drewN ?_ _) | (with_reducible refine Below.drew ?_) | (with_reducible refine Below.alloc ?_ ?_ _) | (with_reducible refine Below.setCell ?_ ?_ _) | go_size)⟩
set_option maxRecDepth 100000 in
set_option maxHeartbeats 1000000 in
theorem beh_top (t : Int) (x : Int) (k a : Int)  (w : World) (HG : Hid (∀ X : World, Calls Tryd.prog 27 #[.agg #[.int .i64 t, .bool false, .int .i64 x, .int .i64 1099511627776]] X (NumPost (.bool true) X))) :
    Calls Tryd.prog 26 #[.agg #[.int .i64 t, .bool false, .int .i64 x, .int .i64 1099511627776], .agg #[.int .i64 k, .int .i64 a]] w (NumPost (.tuple #[.agg #[.int .i64 0, .bool false, .int .i64 0, .int .i64 0], .bool false]) w) := by
  obtain ⟨w4, HW⟩ : ∃ w4, Hid (w4 = ((w.alloc (.cells #[.int .i64 t, .bool false, .int .i64 x, .int .i64 1099511627776] 25)).alloc (.cells #[.int .i64 k, .int .i64 a] 35)).alloc (.cells #[.int .i64 0, .bool false, .int .i64 0, .int .i64 0] 25)) := ⟨_, Lib.hid rfl⟩
  obtain ⟨hz4, hb4, hs4, he4, hn4⟩ := three_blocks HW.out
  go_enter Tryd.func26, Tryd.ntmps26
  go_wp2_with fail
  rw [← HW.out]
  refine (HG.out _).mono ?_
  rintro e w5 ⟨rfl, hb⟩
  have hs5 : w5.heap[w.heap.size]? = _ := (hb.block _ (by omega)).trans hs4
  have he5 := (hb.block (w.heap.size + 1) (by omega)).trans he4
  have hn5 := (hb.block (w.heap.size + 1 + 1) (by omega)).trans hn4
  have hb5 : Below w.heap.size w w5 := hb4.trans (hb.mono (by omega))
  have hz5 : w.heap.size + 1 + 1 < w5.heap.size := by have := hb.size; omega
  clear hb
  have a0 : w5.cell? ⟨w.heap.size, 0, none⟩ = some (.int .i64 t) := by rw [Lib.cell_of_heap hs5]; rfl
  have a1 : w5.cell? ⟨w.heap.size, 1, none⟩ = some (.bool false) := by rw [Lib.cell_of_heap hs5]; rfl
  have a2 : w5.cell? ⟨w.heap.size, 2, none⟩ = some (.int .i64 x) := by rw [Lib.cell_of_heap hs5]; rfl
  have a3 : w5.cell? ⟨w.heap.size, 3, none⟩ = some (.int .i64 1099511627776) := by rw [Lib.cell_of_heap hs5]; rfl
  have n0 : w5.cell? ⟨w.heap.size + 1 + 1, 0, none⟩ = some (.int .i64 0) := by rw [Lib.cell_of_heap hn5]; rfl
  have n1 : w5.cell? ⟨w.heap.size + 1 + 1, 1, none⟩ = some (.bool false) := by rw [Lib.cell_of_heap hn5]; rfl
  have n2 : w5.cell? ⟨w.heap.size + 1 + 1, 2, none⟩ = some (.int .i64 0) := by rw [Lib.cell_of_heap hn5]; rfl
  have n3 : w5.cell? ⟨w.heap.size + 1 + 1, 3, none⟩ = some (.int .i64 0) := by rw [Lib.cell_of_heap hn5]; rfl
  have nf : ∀ i, w5.frozen? ⟨w.heap.size + 1 + 1, i, none⟩ = false := fun i => Lib.frozen_of_heap hn5 i
  go_wp2_with fail
  (try simp only [Exit.inBlock, Exit.then]); refine bodyPost_ret (results_row_tmp rfl _ _ (w.heap.size + 1 + 1) 25 #[.int .i64 0, .bool false, .int .i64 0, .int .i64 0] (0, 0) _ rfl (heap_setCell_same _ _ 3 _ _ _ (heap_setCell_same _ _ 2 _ _ _ (heap_setCell_same _ _ 1 _ _ _ (heap_setCell_same _ _ 0 _ _ _ hn5)))) Tryd.underlying25 rfl (by kernel_rfl)) rfl ?_
  exact ⟨rfl, by repeat' (first | (with_reducible assumption) | (with_reducible exact Below.refl _ _) | (with_reducible refine below_drewN ?_ _) | (with_reducible refine Below.drew ?_) | (with_reducible refine Below.alloc ?_ ?_ _) | (with_reducible refine Below.setCell ?_ ?_ _) | go_size)⟩
end Go.Proofs.YtafhjlfnhgkcoaaDoor
