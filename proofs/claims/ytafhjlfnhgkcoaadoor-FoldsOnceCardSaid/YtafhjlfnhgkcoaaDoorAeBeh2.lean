/-
  behind of package deeds, by an aggregate's behind or open; Apply.
-/
import Derived.Test.YtafhjlfnhgkcoaaDoorAeBeh
namespace Go.Proofs.YtafhjlfnhgkcoaaDoor
open Go.RowKit Go.Sort
section
variable {P : Program}
/-- A store whose run is known, in the walk. -/
theorem wpList_store_known {ops : Array Oper} {rest : List Oper} {o : Oper} {a : Act} {w w' : World} {Q : Exit → Act → World → Prop} (hgd : o.guard = none) (ty : TypeId) (x y : Operand) (ho : o.op = .store ty x y)
    (ad : Addr) (v : Value) (hx : a.eval x = .pointer (some ad)) (hy : a.eval y = v) (hr : (storeVar ty ad v).run P w = .ok () w') (h : wpList P ops Q rest (a.put o.dst undef) w') : wpList P ops Q (o :: rest) a w :=
  wpList_plain hgd fun K hK => by
    unfold Oper.wp execOp
    simp only [ho, hx, hy, Instr.storeAt, Instr.sureAddr, Sem.run_bind, Sem.run_pure, Result.andThen_ok, hr]
    exact hK _ _ h
end
/-- A state stored whole. -/
theorem st_store {W : World} {g n : Nat} {old : Array Value} {t : TypeId} (t' : Int) (c' : Bool) (x' v' : Int) (hg : W.heap[g]? = some (.cells old t (0, 0))) (ho : old.size = 4) (hn : n ≤ g) :
    ∃ w7 : World, (storeVar 25 ⟨g, 0, none⟩ (.agg #[.int .i64 t', .bool c', .int .i64 x', .int .i64 v'])).run Tryd.prog W = .ok () w7 ∧
      w7.heap[g]? = some (.cells #[.int .i64 t', .bool c', .int .i64 x', .int .i64 v'] t (0, 0)) ∧ Below n W w7 ∧ w7.heap.size = W.heap.size ∧ ∀ k, k ≠ g → w7.heap[k]? = W.heap[k]? :=
  ⟨_, run_storeVar_row (P := Tryd.prog) W g t 25 old #[.int .i64 t', .bool c', .int .i64 x', .int .i64 v'] hg (by kernel_rfl) ho (by simp [Value.oneCell']),
    setRow_heap _ _ _ _ _ _ hg, ⟨rfl, rfl, rfl, by simp, fun k hk => setRow_other _ _ _ _ (by omega)⟩, by simp, fun k hk => setRow_other _ _ _ _ hk⟩
set_option maxRecDepth 100000 in
set_option maxHeartbeats 1000000 in
theorem beh_c (x : Int) (v : Int) (k a : Int) (t' : Int) (c' : Bool) (x' : Int) (ok : Bool) (w : World) (HG : Hid (∀ X : World, Calls Tryd.prog 27 #[.agg #[.int .i64 1, .bool false, .int .i64 x, .int .i64 v]] X (NumPost (.bool true) X))) (HB : Hid (∀ X : World, Calls Tryd.prog 52 #[.agg #[], .agg #[.int .i64 1, .bool false, .int .i64 x, .int .i64 v], .agg #[.int .i64 k, .int .i64 a]] X (NumPost (.tuple #[.agg #[.int .i64 t', .bool c', .int .i64 x', .int .i64 v], .bool ok]) X))) (hv0 : 0 ≤ v) (hv1 : v < 1099511627776) (hv : (v == 1099511627776) = false) :
    Calls Tryd.prog 26 #[.agg #[.int .i64 1, .bool false, .int .i64 x, .int .i64 v], .agg #[.int .i64 k, .int .i64 a]] w (NumPost (.tuple #[.agg #[.int .i64 t', .bool c', .int .i64 x', .int .i64 (v + 1)], .bool ok]) w) := by
  have hm : ∀ w, (method 197 77 (.agg #[]) "archipelago/deeds.behind").run Tryd.prog w = .ok (52, .agg #[]) w := fun _ => by kernel_rfl
  have G := agg_any 1
  rw [show aggV 1 = .tuple #[.iface 77 (.agg #[]), .bool true] from rfl] at G
  have HA := Lib.hid G
  clear G
  obtain ⟨w4, HW⟩ : ∃ w4, Hid (w4 = ((w.alloc (.cells #[.int .i64 1, .bool false, .int .i64 x, .int .i64 v] 25)).alloc (.cells #[.int .i64 k, .int .i64 a] 35)).alloc (.cells #[.int .i64 0, .bool false, .int .i64 0, .int .i64 0] 25)) := ⟨_, Lib.hid rfl⟩
  obtain ⟨hz4, hb4, hs4, he4, hn4⟩ := three_blocks HW.out
  go_enter Tryd.func26, Tryd.ntmps26
  go_wp2_with fail
  rw [← HW.out]
  refine (HG.out _).mono ?_
  rintro e w5 ⟨rfl, hb⟩
  have hs5 : w5.heap[w.heap.size]? = _ := (hb.block _ (by omega)).trans hs4
  have he5 := (hb.block (w.heap.size + 1) (by omega)).trans he4
  have hn5 := (hb.block (w.heap.size + 1 + 1) (by omega)).trans hn4
  have hb5 : Below w.heap.size w w5 := hb4.trans (hb.mono (by omega))
  have hz5 : w.heap.size + 1 + 1 < w5.heap.size := by have := hb.size; omega
  clear hb
  have a0 : w5.cell? ⟨w.heap.size, 0, none⟩ = some (.int .i64 1) := by rw [Lib.cell_of_heap hs5]; rfl
  have a1 : w5.cell? ⟨w.heap.size, 1, none⟩ = some (.bool false) := by rw [Lib.cell_of_heap hs5]; rfl
  have a2 : w5.cell? ⟨w.heap.size, 2, none⟩ = some (.int .i64 x) := by rw [Lib.cell_of_heap hs5]; rfl
  have a3 : w5.cell? ⟨w.heap.size, 3, none⟩ = some (.int .i64 v) := by rw [Lib.cell_of_heap hs5]; rfl
  have n0 : w5.cell? ⟨w.heap.size + 1 + 1, 0, none⟩ = some (.int .i64 0) := by rw [Lib.cell_of_heap hn5]; rfl
  have n1 : w5.cell? ⟨w.heap.size + 1 + 1, 1, none⟩ = some (.bool false) := by rw [Lib.cell_of_heap hn5]; rfl
  have n2 : w5.cell? ⟨w.heap.size + 1 + 1, 2, none⟩ = some (.int .i64 0) := by rw [Lib.cell_of_heap hn5]; rfl
  have n3 : w5.cell? ⟨w.heap.size + 1 + 1, 3, none⟩ = some (.int .i64 0) := by rw [Lib.cell_of_heap hn5]; rfl
  have nf : ∀ i, w5.frozen? ⟨w.heap.size + 1 + 1, i, none⟩ = false := fun i => Lib.frozen_of_heap hn5 i
  go_wp2_with fail
  refine (HA.out _).mono ?_
  rintro e w' ⟨rfl, rfl⟩
  have b0 : w5.cell? ⟨w.heap.size + 1, 0, none⟩ = some (.int .i64 k) := by rw [Lib.cell_of_heap he5]; rfl
  have b1 : w5.cell? ⟨w.heap.size + 1, 1, none⟩ = some (.int .i64 a) := by rw [Lib.cell_of_heap he5]; rfl
  go_wp2_with fail
  clear hm a0 a1 a2 a3 b0 b1 n0 n1 n2 n3 nf
  refine (HB.out _).mono ?_
  rintro e w6 ⟨rfl, hb⟩
  have hs6 : w6.heap[w.heap.size]? = _ := (hb.block _ (by omega)).trans hs5
  have he6 := (hb.block (w.heap.size + 1) (by omega)).trans he5
  have hn6 := (hb.block (w.heap.size + 1 + 1) (by omega)).trans hn5
  have hb6 : Below w.heap.size w w6 := hb5.trans (hb.mono (by omega))
  have hz6 : w.heap.size + 1 + 1 < w6.heap.size := by have := hb.size; omega
  clear hb
  obtain ⟨w7, hst, hn7, hbl, hz7, -⟩ := st_store (n := w.heap.size) t' c' x' v hn6 rfl (by omega)
  have HST := Lib.hid hst
  have hb7 := hb6.trans hbl
  clear hst hbl
  have n0 : w7.cell? ⟨w.heap.size + 1 + 1, 0, none⟩ = some (.int .i64 t') := by rw [Lib.cell_of_heap hn7]; rfl
  have n1 : w7.cell? ⟨w.heap.size + 1 + 1, 1, none⟩ = some (.bool c') := by rw [Lib.cell_of_heap hn7]; rfl
  have n2 : w7.cell? ⟨w.heap.size + 1 + 1, 2, none⟩ = some (.int .i64 x') := by rw [Lib.cell_of_heap hn7]; rfl
  have n3 : w7.cell? ⟨w.heap.size + 1 + 1, 3, none⟩ = some (.int .i64 v) := by rw [Lib.cell_of_heap hn7]; rfl
  have nf : ∀ i, w7.frozen? ⟨w.heap.size + 1 + 1, i, none⟩ = false := fun i => Lib.frozen_of_heap hn7 i
  obtain ⟨w8, hst, hn8, hbl, hz8, -⟩ := st_store (n := w.heap.size) t' c' x' (v + 1) (heap_setCell_same _ _ 3 _ _ (.int .i64 (v + 1)) hn7) rfl (by omega)
  have HST8 := Lib.hid hst
  have hb8 := (hb7.setCell (by show w.heap.size ≤ w.heap.size + 1 + 1; omega) (.int .i64 (v + 1)) : Below w.heap.size w (w7.setCell ⟨w.heap.size + 1 + 1, 3, none⟩ (.int .i64 (v + 1)))).trans hbl
  clear hst hbl
  go_wp2_with (first | (refine wpList_store_known rfl 25 _ _ rfl ⟨w.heap.size + 1 + 1, 0, none⟩ _ rfl rfl HST.out ?_) | (refine wpList_store_known rfl 25 _ _ rfl ⟨w.heap.size + 1 + 1, 0, none⟩ _ rfl rfl HST8.out ?_))
  (try simp only [Exit.inBlock, Exit.then]); refine bodyPost_ret (results_row_tmp rfl _ _ (w.heap.size + 1 + 1) 25 #[.int .i64 t', .bool c', .int .i64 x', .int .i64 (v + 1)] (0, 0) _ rfl hn8 Tryd.underlying25 rfl (by kernel_rfl)) rfl ?_
  exact ⟨rfl, by repeat' (first | (with_reducible assumption) | (with_reducible exact Below.refl _ _) | (with_reducible refine below_drewN ?_ _) | (with_reducible refine Below.drew ?_) | (with_reducible refine Below.alloc ?_ ?_ _) | (with_reducible refine Below.setCell ?_ ?_ _) | go_size)⟩
set_option maxRecDepth 100000 in
set_option maxHeartbeats 1000000 in
theorem beh_p (x : Int) (v : Int) (k a : Int) (t' : Int) (c' : Bool) (x' : Int) (ok : Bool) (w : World) (HG : Hid (∀ X : World, Calls Tryd.prog 27 #[.agg #[.int .i64 2, .bool false, .int .i64 x, .int .i64 v]] X (NumPost (.bool true) X))) (HB : Hid (∀ X : World, Calls Tryd.prog 54 #[.agg #[], .agg #[.int .i64 2, .bool false, .int .i64 x, .int .i64 v], .agg #[.int .i64 k, .int .i64 a]] X (NumPost (.tuple #[.agg #[.int .i64 t', .bool c', .int .i64 x', .int .i64 v], .bool ok]) X))) (hv0 : 0 ≤ v) (hv1 : v < 1099511627776) (hv : (v == 1099511627776) = false) :
    Calls Tryd.prog 26 #[.agg #[.int .i64 2, .bool false, .int .i64 x, .int .i64 v], .agg #[.int .i64 k, .int .i64 a]] w (NumPost (.tuple #[.agg #[.int .i64 t', .bool c', .int .i64 x', .int .i64 (v + 1)], .bool ok]) w) := by
  have hm : ∀ w, (method 197 79 (.agg #[]) "archipelago/deeds.behind").run Tryd.prog w = .ok (54, .agg #[]) w := fun _ => by kernel_rfl
  have G := agg_any 2
  rw [show aggV 2 = .tuple #[.iface 79 (.agg #[]), .bool true] from rfl] at G
  have HA := Lib.hid G
  clear G
  obtain ⟨w4, HW⟩ : ∃ w4, Hid (w4 = ((w.alloc (.cells #[.int .i64 2, .bool false, .int .i64 x, .int .i64 v] 25)).alloc (.cells #[.int .i64 k, .int .i64 a] 35)).alloc (.cells #[.int .i64 0, .bool false, .int .i64 0, .int .i64 0] 25)) := ⟨_, Lib.hid rfl⟩
  obtain ⟨hz4, hb4, hs4, he4, hn4⟩ := three_blocks HW.out
  go_enter Tryd.func26, Tryd.ntmps26
  go_wp2_with fail
  rw [← HW.out]
  refine (HG.out _).mono ?_
  rintro e w5 ⟨rfl, hb⟩
  have hs5 : w5.heap[w.heap.size]? = _ := (hb.block _ (by omega)).trans hs4
  have he5 := (hb.block (w.heap.size + 1) (by omega)).trans he4
  have hn5 := (hb.block (w.heap.size + 1 + 1) (by omega)).trans hn4
  have hb5 : Below w.heap.size w w5 := hb4.trans (hb.mono (by omega))
  have hz5 : w.heap.size + 1 + 1 < w5.heap.size := by have := hb.size; omega
  clear hb
  have a0 : w5.cell? ⟨w.heap.size, 0, none⟩ = some (.int .i64 2) := by rw [Lib.cell_of_heap hs5]; rfl
  have a1 : w5.cell? ⟨w.heap.size, 1, none⟩ = some (.bool false) := by rw [Lib.cell_of_heap hs5]; rfl
  have a2 : w5.cell? ⟨w.heap.size, 2, none⟩ = some (.int .i64 x) := by rw [Lib.cell_of_heap hs5]; rfl
  have a3 : w5.cell? ⟨w.heap.size, 3, none⟩ = some (.int .i64 v) := by rw [Lib.cell_of_heap hs5]; rfl
  have n0 : w5.cell? ⟨w.heap.size + 1 + 1, 0, none⟩ = some (.int .i64 0) := by rw [Lib.cell_of_heap hn5]; rfl
  have n1 : w5.cell? ⟨w.heap.size + 1 + 1, 1, none⟩ = some (.bool false) := by rw [Lib.cell_of_heap hn5]; rfl
  have n2 : w5.cell? ⟨w.heap.size + 1 + 1, 2, none⟩ = some (.int .i64 0) := by rw [Lib.cell_of_heap hn5]; rfl
  have n3 : w5.cell? ⟨w.heap.size + 1 + 1, 3, none⟩ = some (.int .i64 0) := by rw [Lib.cell_of_heap hn5]; rfl
  have nf : ∀ i, w5.frozen? ⟨w.heap.size + 1 + 1, i, none⟩ = false := fun i => Lib.frozen_of_heap hn5 i
  go_wp2_with fail
  refine (HA.out _).mono ?_
  rintro e w' ⟨rfl, rfl⟩
  have b0 : w5.cell? ⟨w.heap.size + 1, 0, none⟩ = some (.int .i64 k) := by rw [Lib.cell_of_heap he5]; rfl
  have b1 : w5.cell? ⟨w.heap.size + 1, 1, none⟩ = some (.int .i64 a) := by rw [Lib.cell_of_heap he5]; rfl
  go_wp2_with fail
  clear hm a0 a1 a2 a3 b0 b1 n0 n1 n2 n3 nf
  refine (HB.out _).mono ?_
  rintro e w6 ⟨rfl, hb⟩
  have hs6 : w6.heap[w.heap.size]? = _ := (hb.block _ (by omega)).trans hs5
  have he6 := (hb.block (w.heap.size + 1) (by omega)).trans he5
  have hn6 := (hb.block (w.heap.size + 1 + 1) (by omega)).trans hn5
  have hb6 : Below w.heap.size w w6 := hb5.trans (hb.mono (by omega))
  have hz6 : w.heap.size + 1 + 1 < w6.heap.size := by have := hb.size; omega
  clear hb
  obtain ⟨w7, hst, hn7, hbl, hz7, -⟩ := st_store (n := w.heap.size) t' c' x' v hn6 rfl (by omega)
  have HST := Lib.hid hst
  have hb7 := hb6.trans hbl
  clear hst hbl
  have n0 : w7.cell? ⟨w.heap.size + 1 + 1, 0, none⟩ = some (.int .i64 t') := by rw [Lib.cell_of_heap hn7]; rfl
  have n1 : w7.cell? ⟨w.heap.size + 1 + 1, 1, none⟩ = some (.bool c') := by rw [Lib.cell_of_heap hn7]; rfl
  have n2 : w7.cell? ⟨w.heap.size + 1 + 1, 2, none⟩ = some (.int .i64 x') := by rw [Lib.cell_of_heap hn7]; rfl
  have n3 : w7.cell? ⟨w.heap.size + 1 + 1, 3, none⟩ = some (.int .i64 v) := by rw [Lib.cell_of_heap hn7]; rfl
  have nf : ∀ i, w7.frozen? ⟨w.heap.size + 1 + 1, i, none⟩ = false := fun i => Lib.frozen_of_heap hn7 i
  obtain ⟨w8, hst, hn8, hbl, hz8, -⟩ := st_store (n := w.heap.size) t' c' x' (v + 1) (heap_setCell_same _ _ 3 _ _ (.int .i64 (v + 1)) hn7) rfl (by omega)
  have HST8 := Lib.hid hst
  have hb8 := (hb7.setCell (by show w.heap.size ≤ w.heap.size + 1 + 1; omega) (.int .i64 (v + 1)) : Below w.heap.size w (w7.setCell ⟨w.heap.size + 1 + 1, 3, none⟩ (.int .i64 (v + 1)))).trans hbl
  clear hst hbl
  go_wp2_with (first | (refine wpList_store_known rfl 25 _ _ rfl ⟨w.heap.size + 1 + 1, 0, none⟩ _ rfl rfl HST.out ?_) | (refine wpList_store_known rfl 25 _ _ rfl ⟨w.heap.size + 1 + 1, 0, none⟩ _ rfl rfl HST8.out ?_))
  (try simp only [Exit.inBlock, Exit.then]); refine bodyPost_ret (results_row_tmp rfl _ _ (w.heap.size + 1 + 1) 25 #[.int .i64 t', .bool c', .int .i64 x', .int .i64 (v + 1)] (0, 0) _ rfl hn8 Tryd.underlying25 rfl (by kernel_rfl)) rfl ?_
  exact ⟨rfl, by repeat' (first | (with_reducible assumption) | (with_reducible exact Below.refl _ _) | (with_reducible refine below_drewN ?_ _) | (with_reducible refine Below.drew ?_) | (with_reducible refine Below.alloc ?_ ?_ _) | (with_reducible refine Below.setCell ?_ ?_ _) | go_size)⟩
set_option maxRecDepth 100000 in
set_option maxHeartbeats 1000000 in
theorem beh_t (x : Int) (v : Int) (k a : Int) (t' : Int) (c' : Bool) (x' : Int) (ok : Bool) (w : World) (HG : Hid (∀ X : World, Calls Tryd.prog 27 #[.agg #[.int .i64 3, .bool false, .int .i64 x, .int .i64 v]] X (NumPost (.bool true) X))) (HB : Hid (∀ X : World, Calls Tryd.prog 56 #[.agg #[], .agg #[.int .i64 3, .bool false, .int .i64 x, .int .i64 v], .agg #[.int .i64 k, .int .i64 a]] X (NumPost (.tuple #[.agg #[.int .i64 t', .bool c', .int .i64 x', .int .i64 v], .bool ok]) X))) (hv0 : 0 ≤ v) (hv1 : v < 1099511627776) (hv : (v == 1099511627776) = false) :
    Calls Tryd.prog 26 #[.agg #[.int .i64 3, .bool false, .int .i64 x, .int .i64 v], .agg #[.int .i64 k, .int .i64 a]] w (NumPost (.tuple #[.agg #[.int .i64 t', .bool c', .int .i64 x', .int .i64 (v + 1)], .bool ok]) w) := by
  have hm : ∀ w, (method 197 80 (.agg #[]) "archipelago/deeds.behind").run Tryd.prog w = .ok (56, .agg #[]) w := fun _ => by kernel_rfl
  have G := agg_any 3
  rw [show aggV 3 = .tuple #[.iface 80 (.agg #[]), .bool true] from rfl] at G
  have HA := Lib.hid G
  clear G
  obtain ⟨w4, HW⟩ : ∃ w4, Hid (w4 = ((w.alloc (.cells #[.int .i64 3, .bool false, .int .i64 x, .int .i64 v] 25)).alloc (.cells #[.int .i64 k, .int .i64 a] 35)).alloc (.cells #[.int .i64 0, .bool false, .int .i64 0, .int .i64 0] 25)) := ⟨_, Lib.hid rfl⟩
  obtain ⟨hz4, hb4, hs4, he4, hn4⟩ := three_blocks HW.out
  go_enter Tryd.func26, Tryd.ntmps26
  go_wp2_with fail
  rw [← HW.out]
  refine (HG.out _).mono ?_
  rintro e w5 ⟨rfl, hb⟩
  have hs5 : w5.heap[w.heap.size]? = _ := (hb.block _ (by omega)).trans hs4
  have he5 := (hb.block (w.heap.size + 1) (by omega)).trans he4
  have hn5 := (hb.block (w.heap.size + 1 + 1) (by omega)).trans hn4
  have hb5 : Below w.heap.size w w5 := hb4.trans (hb.mono (by omega))
  have hz5 : w.heap.size + 1 + 1 < w5.heap.size := by have := hb.size; omega
  clear hb
  have a0 : w5.cell? ⟨w.heap.size, 0, none⟩ = some (.int .i64 3) := by rw [Lib.cell_of_heap hs5]; rfl
  have a1 : w5.cell? ⟨w.heap.size, 1, none⟩ = some (.bool false) := by rw [Lib.cell_of_heap hs5]; rfl
  have a2 : w5.cell? ⟨w.heap.size, 2, none⟩ = some (.int .i64 x) := by rw [Lib.cell_of_heap hs5]; rfl
  have a3 : w5.cell? ⟨w.heap.size, 3, none⟩ = some (.int .i64 v) := by rw [Lib.cell_of_heap hs5]; rfl
  have n0 : w5.cell? ⟨w.heap.size + 1 + 1, 0, none⟩ = some (.int .i64 0) := by rw [Lib.cell_of_heap hn5]; rfl
  have n1 : w5.cell? ⟨w.heap.size + 1 + 1, 1, none⟩ = some (.bool false) := by rw [Lib.cell_of_heap hn5]; rfl
  have n2 : w5.cell? ⟨w.heap.size + 1 + 1, 2, none⟩ = some (.int .i64 0) := by rw [Lib.cell_of_heap hn5]; rfl
  have n3 : w5.cell? ⟨w.heap.size + 1 + 1, 3, none⟩ = some (.int .i64 0) := by rw [Lib.cell_of_heap hn5]; rfl
  have nf : ∀ i, w5.frozen? ⟨w.heap.size + 1 + 1, i, none⟩ = false := fun i => Lib.frozen_of_heap hn5 i
  go_wp2_with fail
  refine (HA.out _).mono ?_
  rintro e w' ⟨rfl, rfl⟩
  have b0 : w5.cell? ⟨w.heap.size + 1, 0, none⟩ = some (.int .i64 k) := by rw [Lib.cell_of_heap he5]; rfl
  have b1 : w5.cell? ⟨w.heap.size + 1, 1, none⟩ = some (.int .i64 a) := by rw [Lib.cell_of_heap he5]; rfl
  go_wp2_with fail
  clear hm a0 a1 a2 a3 b0 b1 n0 n1 n2 n3 nf
  refine (HB.out _).mono ?_
  rintro e w6 ⟨rfl, hb⟩
  have hs6 : w6.heap[w.heap.size]? = _ := (hb.block _ (by omega)).trans hs5
  have he6 := (hb.block (w.heap.size + 1) (by omega)).trans he5
  have hn6 := (hb.block (w.heap.size + 1 + 1) (by omega)).trans hn5
  have hb6 : Below w.heap.size w w6 := hb5.trans (hb.mono (by omega))
  have hz6 : w.heap.size + 1 + 1 < w6.heap.size := by have := hb.size; omega
  clear hb
  obtain ⟨w7, hst, hn7, hbl, hz7, -⟩ := st_store (n := w.heap.size) t' c' x' v hn6 rfl (by omega)
  have HST := Lib.hid hst
  have hb7 := hb6.trans hbl
  clear hst hbl
  have n0 : w7.cell? ⟨w.heap.size + 1 + 1, 0, none⟩ = some (.int .i64 t') := by rw [Lib.cell_of_heap hn7]; rfl
  have n1 : w7.cell? ⟨w.heap.size + 1 + 1, 1, none⟩ = some (.bool c') := by rw [Lib.cell_of_heap hn7]; rfl
  have n2 : w7.cell? ⟨w.heap.size + 1 + 1, 2, none⟩ = some (.int .i64 x') := by rw [Lib.cell_of_heap hn7]; rfl
  have n3 : w7.cell? ⟨w.heap.size + 1 + 1, 3, none⟩ = some (.int .i64 v) := by rw [Lib.cell_of_heap hn7]; rfl
  have nf : ∀ i, w7.frozen? ⟨w.heap.size + 1 + 1, i, none⟩ = false := fun i => Lib.frozen_of_heap hn7 i
  obtain ⟨w8, hst, hn8, hbl, hz8, -⟩ := st_store (n := w.heap.size) t' c' x' (v + 1) (heap_setCell_same _ _ 3 _ _ (.int .i64 (v + 1)) hn7) rfl (by omega)
  have HST8 := Lib.hid hst
  have hb8 := (hb7.setCell (by show w.heap.size ≤ w.heap.size + 1 + 1; omega) (.int .i64 (v + 1)) : Below w.heap.size w (w7.setCell ⟨w.heap.size + 1 + 1, 3, none⟩ (.int .i64 (v + 1)))).trans hbl
  clear hst hbl
  go_wp2_with (first | (refine wpList_store_known rfl 25 _ _ rfl ⟨w.heap.size + 1 + 1, 0, none⟩ _ rfl rfl HST.out ?_) | (refine wpList_store_known rfl 25 _ _ rfl ⟨w.heap.size + 1 + 1, 0, none⟩ _ rfl rfl HST8.out ?_))
  (try simp only [Exit.inBlock, Exit.then]); refine bodyPost_ret (results_row_tmp rfl _ _ (w.heap.size + 1 + 1) 25 #[.int .i64 t', .bool c', .int .i64 x', .int .i64 (v + 1)] (0, 0) _ rfl hn8 Tryd.underlying25 rfl (by kernel_rfl)) rfl ?_
  exact ⟨rfl, by repeat' (first | (with_reducible assumption) | (with_reducible exact Below.refl _ _) | (with_reducible refine below_drewN ?_ _) | (with_reducible refine Below.drew ?_) | (with_reducible refine Below.alloc ?_ ?_ _) | (with_reducible refine Below.setCell ?_ ?_ _) | go_size)⟩
set_option maxRecDepth 100000 in
set_option maxHeartbeats 1000000 in
theorem beh_o (x : Int) (v : Int) (k a : Int) (t' : Int) (c' : Bool) (x' : Int) (ok : Bool) (w : World) (HG : Hid (∀ X : World, Calls Tryd.prog 27 #[.agg #[.int .i64 0, .bool false, .int .i64 x, .int .i64 v]] X (NumPost (.bool true) X))) (HB : Hid (∀ X : World, Calls Tryd.prog 34 #[.agg #[.int .i64 0, .bool false, .int .i64 x, .int .i64 v], .agg #[.int .i64 k, .int .i64 a]] X (NumPost (.tuple #[.agg #[.int .i64 t', .bool c', .int .i64 x', .int .i64 v], .bool ok]) X))) (hv0 : 0 ≤ v) (hv1 : v < 1099511627776) (hv : (v == 1099511627776) = false) :
    Calls Tryd.prog 26 #[.agg #[.int .i64 0, .bool false, .int .i64 x, .int .i64 v], .agg #[.int .i64 k, .int .i64 a]] w (NumPost (.tuple #[.agg #[.int .i64 t', .bool c', .int .i64 x', .int .i64 (v + 1)], .bool ok]) w) := by
  have G := agg_any 0
  rw [show aggV 0 = .tuple #[.nilIface, .bool false] from rfl] at G
  have HA := Lib.hid G
  clear G
  obtain ⟨w4, HW⟩ : ∃ w4, Hid (w4 = ((w.alloc (.cells #[.int .i64 0, .bool false, .int .i64 x, .int .i64 v] 25)).alloc (.cells #[.int .i64 k, .int .i64 a] 35)).alloc (.cells #[.int .i64 0, .bool false, .int .i64 0, .int .i64 0] 25)) := ⟨_, Lib.hid rfl⟩
  obtain ⟨hz4, hb4, hs4, he4, hn4⟩ := three_blocks HW.out
  go_enter Tryd.func26, Tryd.ntmps26
  go_wp2_with fail
  rw [← HW.out]
  refine (HG.out _).mono ?_
  rintro e w5 ⟨rfl, hb⟩
  have hs5 : w5.heap[w.heap.size]? = _ := (hb.block _ (by omega)).trans hs4
  have he5 := (hb.block (w.heap.size + 1) (by omega)).trans he4
  have hn5 := (hb.block (w.heap.size + 1 + 1) (by omega)).trans hn4
  have hb5 : Below w.heap.size w w5 := hb4.trans (hb.mono (by omega))
  have hz5 : w.heap.size + 1 + 1 < w5.heap.size := by have := hb.size; omega
  clear hb
  have a0 : w5.cell? ⟨w.heap.size, 0, none⟩ = some (.int .i64 0) := by rw [Lib.cell_of_heap hs5]; rfl
  have a1 : w5.cell? ⟨w.heap.size, 1, none⟩ = some (.bool false) := by rw [Lib.cell_of_heap hs5]; rfl
  have a2 : w5.cell? ⟨w.heap.size, 2, none⟩ = some (.int .i64 x) := by rw [Lib.cell_of_heap hs5]; rfl
  have a3 : w5.cell? ⟨w.heap.size, 3, none⟩ = some (.int .i64 v) := by rw [Lib.cell_of_heap hs5]; rfl
  have n0 : w5.cell? ⟨w.heap.size + 1 + 1, 0, none⟩ = some (.int .i64 0) := by rw [Lib.cell_of_heap hn5]; rfl
  have n1 : w5.cell? ⟨w.heap.size + 1 + 1, 1, none⟩ = some (.bool false) := by rw [Lib.cell_of_heap hn5]; rfl
  have n2 : w5.cell? ⟨w.heap.size + 1 + 1, 2, none⟩ = some (.int .i64 0) := by rw [Lib.cell_of_heap hn5]; rfl
  have n3 : w5.cell? ⟨w.heap.size + 1 + 1, 3, none⟩ = some (.int .i64 0) := by rw [Lib.cell_of_heap hn5]; rfl
  have nf : ∀ i, w5.frozen? ⟨w.heap.size + 1 + 1, i, none⟩ = false := fun i => Lib.frozen_of_heap hn5 i
  go_wp2_with fail
  refine (HA.out _).mono ?_
  rintro e w' ⟨rfl, rfl⟩
  have b0 : w5.cell? ⟨w.heap.size + 1, 0, none⟩ = some (.int .i64 k) := by rw [Lib.cell_of_heap he5]; rfl
  have b1 : w5.cell? ⟨w.heap.size + 1, 1, none⟩ = some (.int .i64 a) := by rw [Lib.cell_of_heap he5]; rfl
  go_wp2_with fail
  clear a0 a1 a2 a3 b0 b1 n0 n1 n2 n3 nf
  refine (HB.out _).mono ?_
  rintro e w6 ⟨rfl, hb⟩
  have hs6 : w6.heap[w.heap.size]? = _ := (hb.block _ (by omega)).trans hs5
  have he6 := (hb.block (w.heap.size + 1) (by omega)).trans he5
  have hn6 := (hb.block (w.heap.size + 1 + 1) (by omega)).trans hn5
  have hb6 : Below w.heap.size w w6 := hb5.trans (hb.mono (by omega))
  have hz6 : w.heap.size + 1 + 1 < w6.heap.size := by have := hb.size; omega
  clear hb
  obtain ⟨w7, hst, hn7, hbl, hz7, -⟩ := st_store (n := w.heap.size) t' c' x' v hn6 rfl (by omega)
  have HST := Lib.hid hst
  have hb7 := hb6.trans hbl
  clear hst hbl
  have n0 : w7.cell? ⟨w.heap.size + 1 + 1, 0, none⟩ = some (.int .i64 t') := by rw [Lib.cell_of_heap hn7]; rfl
  have n1 : w7.cell? ⟨w.heap.size + 1 + 1, 1, none⟩ = some (.bool c') := by rw [Lib.cell_of_heap hn7]; rfl
  have n2 : w7.cell? ⟨w.heap.size + 1 + 1, 2, none⟩ = some (.int .i64 x') := by rw [Lib.cell_of_heap hn7]; rfl
  have n3 : w7.cell? ⟨w.heap.size + 1 + 1, 3, none⟩ = some (.int .i64 v) := by rw [Lib.cell_of_heap hn7]; rfl
  have nf : ∀ i, w7.frozen? ⟨w.heap.size + 1 + 1, i, none⟩ = false := fun i => Lib.frozen_of_heap hn7 i
  obtain ⟨w8, hst, hn8, hbl, hz8, -⟩ := st_store (n := w.heap.size) t' c' x' (v + 1) (heap_setCell_same _ _ 3 _ _ (.int .i64 (v + 1)) hn7) rfl (by omega)
  have HST8 := Lib.hid hst
  have hb8 := (hb7.setCell (by show w.heap.size ≤ w.heap.size + 1 + 1; omega) (.int .i64 (v + 1)) : Below w.heap.size w (w7.setCell ⟨w.heap.size + 1 + 1, 3, none⟩ (.int .i64 (v + 1)))).trans hbl
  clear hst hbl
  go_wp2_with (first | (refine wpList_store_known rfl 25 _ _ rfl ⟨w.heap.size + 1 + 1, 0, none⟩ _ rfl rfl HST.out ?_) | (refine wpList_store_known rfl 25 _ _ rfl ⟨w.heap.size + 1 + 1, 0, none⟩ _ rfl rfl HST8.out ?_))
  (try simp only [Exit.inBlock, Exit.then]); refine bodyPost_ret (results_row_tmp rfl _ _ (w.heap.size + 1 + 1) 25 #[.int .i64 t', .bool c', .int .i64 x', .int .i64 (v + 1)] (0, 0) _ rfl hn8 Tryd.underlying25 rfl (by kernel_rfl)) rfl ?_
  exact ⟨rfl, by repeat' (first | (with_reducible assumption) | (with_reducible exact Below.refl _ _) | (with_reducible refine below_drewN ?_ _) | (with_reducible refine Below.drew ?_) | (with_reducible refine Below.alloc ?_ ?_ _) | (with_reducible refine Below.setCell ?_ ?_ _) | go_size)⟩
end Go.Proofs.YtafhjlfnhgkcoaaDoor
