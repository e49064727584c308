/-
  mayBe of package deeds: which states may be.
-/
import Derived.Test.YtafhjlfnhgkcoaaDoorAeAgg2
namespace Go.Proofs.YtafhjlfnhgkcoaaDoor
open Go.RowKit Go.Sort
set_option maxRecDepth 100000 in
set_option maxHeartbeats 1000000 in
theorem mb_01 (x : Int) (v : Int) (w : World) : Calls Tryd.prog 27 #[.agg #[.int .i64 0, .bool true, .int .i64 x, .int .i64 v]] w (NumPost (.bool false) w) := by
  go_enter Tryd.func27, Tryd.ntmps27
  go_wp2_with fail
  go_ret
  exact ⟨rfl, by repeat' (first | (with_reducible assumption) | (with_reducible exact Below.refl _ _) | (with_reducible refine below_drewN ?_ _) | (with_reducible refine Below.drew ?_) | (with_reducible refine Below.alloc ?_ ?_ _) | (with_reducible refine Below.setCell ?_ ?_ _) | go_size)⟩
set_option maxRecDepth 100000 in
set_option maxHeartbeats 1000000 in
theorem mb_02 (x : Int) (v : Int) (w : World) (h : (x == 0) = false) : Calls Tryd.prog 27 #[.agg #[.int .i64 0, .bool false, .int .i64 x, .int .i64 v]] w (NumPost (.bool false) w) := by
  go_enter Tryd.func27, Tryd.ntmps27
  go_wp2_with fail
  go_ret
  exact ⟨rfl, by repeat' (first | (with_reducible assumption) | (with_reducible exact Below.refl _ _) | (with_reducible refine below_drewN ?_ _) | (with_reducible refine Below.drew ?_) | (with_reducible refine Below.alloc ?_ ?_ _) | (with_reducible refine Below.setCell ?_ ?_ _) | go_size)⟩
set_option maxRecDepth 100000 in
set_option maxHeartbeats 1000000 in
theorem mb_03 (v : Int) (w : World) (h : (v == 0) = false) : Calls Tryd.prog 27 #[.agg #[.int .i64 0, .bool false, .int .i64 0, .int .i64 v]] w (NumPost (.bool false) w) := by
  go_enter Tryd.func27, Tryd.ntmps27
  go_wp2_with fail
  go_ret
  exact ⟨rfl, by repeat' (first | (with_reducible assumption) | (with_reducible exact Below.refl _ _) | (with_reducible refine below_drewN ?_ _) | (with_reducible refine Below.drew ?_) | (with_reducible refine Below.alloc ?_ ?_ _) | (with_reducible refine Below.setCell ?_ ?_ _) | go_size)⟩
set_option maxRecDepth 100000 in
set_option maxHeartbeats 1000000 in
theorem mb_04  (w : World) : Calls Tryd.prog 27 #[.agg #[.int .i64 0, .bool false, .int .i64 0, .int .i64 0]] w (NumPost (.bool true) w) := by
  go_enter Tryd.func27, Tryd.ntmps27
  go_wp2_with fail
  go_ret
  exact ⟨rfl, by repeat' (first | (with_reducible assumption) | (with_reducible exact Below.refl _ _) | (with_reducible refine below_drewN ?_ _) | (with_reducible refine Below.drew ?_) | (with_reducible refine Below.alloc ?_ ?_ _) | (with_reducible refine Below.setCell ?_ ?_ _) | go_size)⟩
set_option maxRecDepth 100000 in
set_option maxHeartbeats 1000000 in
theorem mb_no (t : Int) (c : Bool) (x : Int) (v : Int) (w : World) (h0 : (t == 0) = false) (hv : aggV t = .tuple #[.nilIface, .bool false]) : Calls Tryd.prog 27 #[.agg #[.int .i64 t, .bool c, .int .i64 x, .int .i64 v]] w (NumPost (.bool false) w) := by
  have G := agg_any t
  rw [hv] at G
  have HG := Lib.hid G
  clear G hv
  go_enter Tryd.func27, Tryd.ntmps27
  go_wp2_with fail
  refine (HG.out _).mono ?_
  rintro e w' ⟨rfl, rfl⟩
  go_wp2_with fail
  go_quiet (fail)
  go_wp2_with fail
  go_ret
  exact ⟨rfl, by repeat' (first | (with_reducible assumption) | (with_reducible exact Below.refl _ _) | (with_reducible refine below_drewN ?_ _) | (with_reducible refine Below.drew ?_) | (with_reducible refine Below.alloc ?_ ?_ _) | (with_reducible refine Below.setCell ?_ ?_ _) | go_size)⟩
set_option maxRecDepth 100000 in
set_option maxHeartbeats 1000000 in
theorem mb_c0 (c : Bool) (x : Int) (v : Int) (w : World) (h : x < -1099511627776) : Calls Tryd.prog 27 #[.agg #[.int .i64 1, .bool c, .int .i64 x, .int .i64 v]] w (NumPost (.bool false) w) := by
  have hm : ∀ w, (method 197 77 (.agg #[]) "archipelago/deeds.least").run Tryd.prog w = .ok (53, .agg #[]) w := fun _ => by kernel_rfl
  have G := agg_any 1
  rw [show aggV 1 = .tuple #[.iface 77 (.agg #[]), .bool true] from rfl] at G
  have HG := Lib.hid G
  clear G
  obtain ⟨w4, HW⟩ : ∃ w4, Hid (w4 = w.alloc (.cells #[.int .i64 1, .bool c, .int .i64 x, .int .i64 v] 25)) := ⟨_, Lib.hid rfl⟩
  have HH : w4.heap[w.heap.size]? = some (.cells #[.int .i64 1, .bool c, .int .i64 x, .int .i64 v] 25 (0, 0)) := by rw [HW.out]; exact heap_alloc_new _ _
  have hb4 : Below w.heap.size w w4 := by rw [HW.out]; exact (Below.refl _ _).alloc (Nat.le_refl _) _
  have q1 : w4.cell? ⟨w.heap.size, 1, none⟩ = some (.bool c) := by rw [Lib.cell_of_heap HH]; rfl
  have q2 : w4.cell? ⟨w.heap.size, 2, none⟩ = some (.int .i64 x) := by rw [Lib.cell_of_heap HH]; rfl
  have q3 : w4.cell? ⟨w.heap.size, 3, none⟩ = some (.int .i64 v) := by rw [Lib.cell_of_heap HH]; rfl
  have t1 : decide (x < -1099511627776) = true := decide_eq_true (by omega)
  clear h
  go_enter Tryd.func27, Tryd.ntmps27
  go_wp2_with fail
  refine (HG.out _).mono ?_
  rintro e w' ⟨rfl, rfl⟩
  go_wp2_with fail
  rw [← HW.out]
  have k1 : ∀ d' os, (grow (redrawn w4 d') os).cell? ⟨w.heap.size, 1, none⟩ = some (.bool c) := fun d' os => cell_regrown q1 d' os
  have k2 : ∀ d' os, (grow (redrawn w4 d') os).cell? ⟨w.heap.size, 2, none⟩ = some (.int .i64 x) := fun d' os => cell_regrown q2 d' os
  have k3 : ∀ d' os, (grow (redrawn w4 d') os).cell? ⟨w.heap.size, 3, none⟩ = some (.int .i64 v) := fun d' os => cell_regrown q3 d' os
  have c0 : ∀ d' os, Calls Tryd.prog 53 #[.agg #[]] (grow (redrawn w4 d') os) fun e w'' => e = .returned (.int .i64 (-1099511627776)) ∧ ∃ p : Regrown, w'' = grow (redrawn w4 p.d) p.os := fun d' os => Calls.regrown_of (least_c _)
  refine wp_region_quiet_below (by kernel_rfl) (by kernel_rfl) ?_
  repeat (go_big_quiet_step (with_reducible exact c0 _ _))
  refine wpQuiet_nil ?_
  intro _ hw'
  obtain ⟨⟨dq, osq⟩, hw''⟩ := hw'
  subst hw''
  have hbq := below_regrown w4 dq osq
  have p1 := k1 dq osq
  have p2 := k2 dq osq
  generalize grow (redrawn w4 dq) osq = w5 at *
  clear k1 k2 k3 c0
  have hb5 : Below w.heap.size w w5 := hb4.trans (hbq.mono hb4.size)
  clear hbq hb4
  go_wp2_with fail
  go_ret
  exact ⟨rfl, by repeat' (first | (with_reducible assumption) | (with_reducible exact Below.refl _ _) | (with_reducible refine below_drewN ?_ _) | (with_reducible refine Below.drew ?_) | (with_reducible refine Below.alloc ?_ ?_ _) | (with_reducible refine Below.setCell ?_ ?_ _) | go_size)⟩
set_option maxRecDepth 100000 in
set_option maxHeartbeats 1000000 in
theorem mb_c1 (c : Bool) (x : Int) (v : Int) (w : World) (h : 1099511627776 < x) : Calls Tryd.prog 27 #[.agg #[.int .i64 1, .bool c, .int .i64 x, .int .i64 v]] w (NumPost (.bool false) w) := by
  have hm : ∀ w, (method 197 77 (.agg #[]) "archipelago/deeds.least").run Tryd.prog w = .ok (53, .agg #[]) w := fun _ => by kernel_rfl
  have G := agg_any 1
  rw [show aggV 1 = .tuple #[.iface 77 (.agg #[]), .bool true] from rfl] at G
  have HG := Lib.hid G
  clear G
  obtain ⟨w4, HW⟩ : ∃ w4, Hid (w4 = w.alloc (.cells #[.int .i64 1, .bool c, .int .i64 x, .int .i64 v] 25)) := ⟨_, Lib.hid rfl⟩
  have HH : w4.heap[w.heap.size]? = some (.cells #[.int .i64 1, .bool c, .int .i64 x, .int .i64 v] 25 (0, 0)) := by rw [HW.out]; exact heap_alloc_new _ _
  have hb4 : Below w.heap.size w w4 := by rw [HW.out]; exact (Below.refl _ _).alloc (Nat.le_refl _) _
  have q1 : w4.cell? ⟨w.heap.size, 1, none⟩ = some (.bool c) := by rw [Lib.cell_of_heap HH]; rfl
  have q2 : w4.cell? ⟨w.heap.size, 2, none⟩ = some (.int .i64 x) := by rw [Lib.cell_of_heap HH]; rfl
  have q3 : w4.cell? ⟨w.heap.size, 3, none⟩ = some (.int .i64 v) := by rw [Lib.cell_of_heap HH]; rfl
  have t1 : decide (x < -1099511627776) = false := decide_eq_false (by omega)
  have t2 : decide (1099511627776 < x) = true := decide_eq_true (by omega)
  clear h
  go_enter Tryd.func27, Tryd.ntmps27
  go_wp2_with fail
  refine (HG.out _).mono ?_
  rintro e w' ⟨rfl, rfl⟩
  go_wp2_with fail
  rw [← HW.out]
  have k1 : ∀ d' os, (grow (redrawn w4 d') os).cell? ⟨w.heap.size, 1, none⟩ = some (.bool c) := fun d' os => cell_regrown q1 d' os
  have k2 : ∀ d' os, (grow (redrawn w4 d') os).cell? ⟨w.heap.size, 2, none⟩ = some (.int .i64 x) := fun d' os => cell_regrown q2 d' os
  have k3 : ∀ d' os, (grow (redrawn w4 d') os).cell? ⟨w.heap.size, 3, none⟩ = some (.int .i64 v) := fun d' os => cell_regrown q3 d' os
  have c0 : ∀ d' os, Calls Tryd.prog 53 #[.agg #[]] (grow (redrawn w4 d') os) fun e w'' => e = .returned (.int .i64 (-1099511627776)) ∧ ∃ p : Regrown, w'' = grow (redrawn w4 p.d) p.os := fun d' os => Calls.regrown_of (least_c _)
  refine wp_region_quiet_below (by kernel_rfl) (by kernel_rfl) ?_
  repeat (go_big_quiet_step (with_reducible exact c0 _ _))
  refine wpQuiet_nil ?_
  intro _ hw'
  obtain ⟨⟨dq, osq⟩, hw''⟩ := hw'
  subst hw''
  have hbq := below_regrown w4 dq osq
  have p1 := k1 dq osq
  have p2 := k2 dq osq
  generalize grow (redrawn w4 dq) osq = w5 at *
  clear k1 k2 k3 c0
  have hb5 : Below w.heap.size w w5 := hb4.trans (hbq.mono hb4.size)
  clear hbq hb4
  go_wp2_with fail
  go_ret
  exact ⟨rfl, by repeat' (first | (with_reducible assumption) | (with_reducible exact Below.refl _ _) | (with_reducible refine below_drewN ?_ _) | (with_reducible refine Below.drew ?_) | (with_reducible refine Below.alloc ?_ ?_ _) | (with_reducible refine Below.setCell ?_ ?_ _) | go_size)⟩
set_option maxRecDepth 100000 in
set_option maxHeartbeats 1000000 in
theorem mb_c2 (c : Bool) (x : Int) (v : Int) (w : World) (h0 : -1099511627776 ≤ x) (h1 : x ≤ 1099511627776) (h : v < 1) : Calls Tryd.prog 27 #[.agg #[.int .i64 1, .bool c, .int .i64 x, .int .i64 v]] w (NumPost (.bool false) w) := by
  have hm : ∀ w, (method 197 77 (.agg #[]) "archipelago/deeds.least").run Tryd.prog w = .ok (53, .agg #[]) w := fun _ => by kernel_rfl
  have G := agg_any 1
  rw [show aggV 1 = .tuple #[.iface 77 (.agg #[]), .bool true] from rfl] at G
  have HG := Lib.hid G
  clear G
  obtain ⟨w4, HW⟩ : ∃ w4, Hid (w4 = w.alloc (.cells #[.int .i64 1, .bool c, .int .i64 x, .int .i64 v] 25)) := ⟨_, Lib.hid rfl⟩
  have HH : w4.heap[w.heap.size]? = some (.cells #[.int .i64 1, .bool c, .int .i64 x, .int .i64 v] 25 (0, 0)) := by rw [HW.out]; exact heap_alloc_new _ _
  have hb4 : Below w.heap.size w w4 := by rw [HW.out]; exact (Below.refl _ _).alloc (Nat.le_refl _) _
  have q1 : w4.cell? ⟨w.heap.size, 1, none⟩ = some (.bool c) := by rw [Lib.cell_of_heap HH]; rfl
  have q2 : w4.cell? ⟨w.heap.size, 2, none⟩ = some (.int .i64 x) := by rw [Lib.cell_of_heap HH]; rfl
  have q3 : w4.cell? ⟨w.heap.size, 3, none⟩ = some (.int .i64 v) := by rw [Lib.cell_of_heap HH]; rfl
  have t1 : decide (x < -1099511627776) = false := decide_eq_false (by omega)
  have t2 : decide (1099511627776 < x) = false := decide_eq_false (by omega)
  have t3 : decide (v < 1) = true := decide_eq_true (by omega)
  clear h h0 h1
  go_enter Tryd.func27, Tryd.ntmps27
  go_wp2_with fail
  refine (HG.out _).mono ?_
  rintro e w' ⟨rfl, rfl⟩
  go_wp2_with fail
  rw [← HW.out]
  have k1 : ∀ d' os, (grow (redrawn w4 d') os).cell? ⟨w.heap.size, 1, none⟩ = some (.bool c) := fun d' os => cell_regrown q1 d' os
  have k2 : ∀ d' os, (grow (redrawn w4 d') os).cell? ⟨w.heap.size, 2, none⟩ = some (.int .i64 x) := fun d' os => cell_regrown q2 d' os
  have k3 : ∀ d' os, (grow (redrawn w4 d') os).cell? ⟨w.heap.size, 3, none⟩ = some (.int .i64 v) := fun d' os => cell_regrown q3 d' os
  have c0 : ∀ d' os, Calls Tryd.prog 53 #[.agg #[]] (grow (redrawn w4 d') os) fun e w'' => e = .returned (.int .i64 (-1099511627776)) ∧ ∃ p : Regrown, w'' = grow (redrawn w4 p.d) p.os := fun d' os => Calls.regrown_of (least_c _)
  refine wp_region_quiet_below (by kernel_rfl) (by kernel_rfl) ?_
  repeat (go_big_quiet_step (with_reducible exact c0 _ _))
  refine wpQuiet_nil ?_
  intro _ hw'
  obtain ⟨⟨dq, osq⟩, hw''⟩ := hw'
  subst hw''
  have hbq := below_regrown w4 dq osq
  have p1 := k1 dq osq
  have p2 := k2 dq osq
  generalize grow (redrawn w4 dq) osq = w5 at *
  clear k1 k2 k3 c0
  have hb5 : Below w.heap.size w w5 := hb4.trans (hbq.mono hb4.size)
  clear hbq hb4
  go_wp2_with fail
  go_ret
  exact ⟨rfl, by repeat' (first | (with_reducible assumption) | (with_reducible exact Below.refl _ _) | (with_reducible refine below_drewN ?_ _) | (with_reducible refine Below.drew ?_) | (with_reducible refine Below.alloc ?_ ?_ _) | (with_reducible refine Below.setCell ?_ ?_ _) | go_size)⟩
set_option maxRecDepth 100000 in
set_option maxHeartbeats 1000000 in
theorem mb_c3 (c : Bool) (x : Int) (v : Int) (w : World) (h0 : -1099511627776 ≤ x) (h1 : x ≤ 1099511627776) (h : 1099511627776 < v) : Calls Tryd.prog 27 #[.agg #[.int .i64 1, .bool c, .int .i64 x, .int .i64 v]] w (NumPost (.bool false) w) := by
  have hm : ∀ w, (method 197 77 (.agg #[]) "archipelago/deeds.least").run Tryd.prog w = .ok (53, .agg #[]) w := fun _ => by kernel_rfl
  have G := agg_any 1
  rw [show aggV 1 = .tuple #[.iface 77 (.agg #[]), .bool true] from rfl] at G
  have HG := Lib.hid G
  clear G
  obtain ⟨w4, HW⟩ : ∃ w4, Hid (w4 = w.alloc (.cells #[.int .i64 1, .bool c, .int .i64 x, .int .i64 v] 25)) := ⟨_, Lib.hid rfl⟩
  have HH : w4.heap[w.heap.size]? = some (.cells #[.int .i64 1, .bool c, .int .i64 x, .int .i64 v] 25 (0, 0)) := by rw [HW.out]; exact heap_alloc_new _ _
  have hb4 : Below w.heap.size w w4 := by rw [HW.out]; exact (Below.refl _ _).alloc (Nat.le_refl _) _
  have q1 : w4.cell? ⟨w.heap.size, 1, none⟩ = some (.bool c) := by rw [Lib.cell_of_heap HH]; rfl
  have q2 : w4.cell? ⟨w.heap.size, 2, none⟩ = some (.int .i64 x) := by rw [Lib.cell_of_heap HH]; rfl
  have q3 : w4.cell? ⟨w.heap.size, 3, none⟩ = some (.int .i64 v) := by rw [Lib.cell_of_heap HH]; rfl
  have t1 : decide (x < -1099511627776) = false := decide_eq_false (by omega)
  have t2 : decide (1099511627776 < x) = false := decide_eq_false (by omega)
  have t3 : decide (v < 1) = false := decide_eq_false (by omega)
  have t4 : decide (1099511627776 < v) = true := decide_eq_true (by omega)
  clear h h0 h1
  go_enter Tryd.func27, Tryd.ntmps27
  go_wp2_with fail
  refine (HG.out _).mono ?_
  rintro e w' ⟨rfl, rfl⟩
  go_wp2_with fail
  rw [← HW.out]
  have k1 : ∀ d' os, (grow (redrawn w4 d') os).cell? ⟨w.heap.size, 1, none⟩ = some (.bool c) := fun d' os => cell_regrown q1 d' os
  have k2 : ∀ d' os, (grow (redrawn w4 d') os).cell? ⟨w.heap.size, 2, none⟩ = some (.int .i64 x) := fun d' os => cell_regrown q2 d' os
  have k3 : ∀ d' os, (grow (redrawn w4 d') os).cell? ⟨w.heap.size, 3, none⟩ = some (.int .i64 v) := fun d' os => cell_regrown q3 d' os
  have c0 : ∀ d' os, Calls Tryd.prog 53 #[.agg #[]] (grow (redrawn w4 d') os) fun e w'' => e = .returned (.int .i64 (-1099511627776)) ∧ ∃ p : Regrown, w'' = grow (redrawn w4 p.d) p.os := fun d' os => Calls.regrown_of (least_c _)
  refine wp_region_quiet_below (by kernel_rfl) (by kernel_rfl) ?_
  repeat (go_big_quiet_step (with_reducible exact c0 _ _))
  refine wpQuiet_nil ?_
  intro _ hw'
  obtain ⟨⟨dq, osq⟩, hw''⟩ := hw'
  subst hw''
  have hbq := below_regrown w4 dq osq
  have p1 := k1 dq osq
  have p2 := k2 dq osq
  generalize grow (redrawn w4 dq) osq = w5 at *
  clear k1 k2 k3 c0
  have hb5 : Below w.heap.size w w5 := hb4.trans (hbq.mono hb4.size)
  clear hbq hb4
  go_wp2_with fail
  go_ret
  exact ⟨rfl, by repeat' (first | (with_reducible assumption) | (with_reducible exact Below.refl _ _) | (with_reducible refine below_drewN ?_ _) | (with_reducible refine Below.drew ?_) | (with_reducible refine Below.alloc ?_ ?_ _) | (with_reducible refine Below.setCell ?_ ?_ _) | go_size)⟩
set_option maxRecDepth 100000 in
set_option maxHeartbeats 1000000 in
theorem mb_c4 (x : Int) (v : Int) (w : World) (h0 : -1099511627776 ≤ x) (h1 : x ≤ 1099511627776) (h2 : 1 ≤ v) (h3 : v ≤ 1099511627776) : Calls Tryd.prog 27 #[.agg #[.int .i64 1, .bool false, .int .i64 x, .int .i64 v]] w (NumPost (.bool true) w) := by
  have hm : ∀ w, (method 197 77 (.agg #[]) "archipelago/deeds.least").run Tryd.prog w = .ok (53, .agg #[]) w := fun _ => by kernel_rfl
  have G := agg_any 1
  rw [show aggV 1 = .tuple #[.iface 77 (.agg #[]), .bool true] from rfl] at G
  have HG := Lib.hid G
  clear G
  obtain ⟨w4, HW⟩ : ∃ w4, Hid (w4 = w.alloc (.cells #[.int .i64 1, .bool false, .int .i64 x, .int .i64 v] 25)) := ⟨_, Lib.hid rfl⟩
  have HH : w4.heap[w.heap.size]? = some (.cells #[.int .i64 1, .bool false, .int .i64 x, .int .i64 v] 25 (0, 0)) := by rw [HW.out]; exact heap_alloc_new _ _
  have hb4 : Below w.heap.size w w4 := by rw [HW.out]; exact (Below.refl _ _).alloc (Nat.le_refl _) _
  have q1 : w4.cell? ⟨w.heap.size, 1, none⟩ = some (.bool false) := by rw [Lib.cell_of_heap HH]; rfl
  have q2 : w4.cell? ⟨w.heap.size, 2, none⟩ = some (.int .i64 x) := by rw [Lib.cell_of_heap HH]; rfl
  have q3 : w4.cell? ⟨w.heap.size, 3, none⟩ = some (.int .i64 v) := by rw [Lib.cell_of_heap HH]; rfl
  have t1 : decide (x < -1099511627776) = false := decide_eq_false (by omega)
  have t2 : decide (1099511627776 < x) = false := decide_eq_false (by omega)
  have t3 : decide (v < 1) = false := decide_eq_false (by omega)
  have t4 : decide (1099511627776 < v) = false := decide_eq_false (by omega)
  clear h0 h1 h2 h3
  go_enter Tryd.func27, Tryd.ntmps27
  go_wp2_with fail
  refine (HG.out _).mono ?_
  rintro e w' ⟨rfl, rfl⟩
  go_wp2_with fail
  rw [← HW.out]
  have k1 : ∀ d' os, (grow (redrawn w4 d') os).cell? ⟨w.heap.size, 1, none⟩ = some (.bool false) := fun d' os => cell_regrown q1 d' os
  have k2 : ∀ d' os, (grow (redrawn w4 d') os).cell? ⟨w.heap.size, 2, none⟩ = some (.int .i64 x) := fun d' os => cell_regrown q2 d' os
  have k3 : ∀ d' os, (grow (redrawn w4 d') os).cell? ⟨w.heap.size, 3, none⟩ = some (.int .i64 v) := fun d' os => cell_regrown q3 d' os
  have c0 : ∀ d' os, Calls Tryd.prog 53 #[.agg #[]] (grow (redrawn w4 d') os) fun e w'' => e = .returned (.int .i64 (-1099511627776)) ∧ ∃ p : Regrown, w'' = grow (redrawn w4 p.d) p.os := fun d' os => Calls.regrown_of (least_c _)
  refine wp_region_quiet_below (by kernel_rfl) (by kernel_rfl) ?_
  repeat (go_big_quiet_step (with_reducible exact c0 _ _))
  refine wpQuiet_nil ?_
  intro _ hw'
  obtain ⟨⟨dq, osq⟩, hw''⟩ := hw'
  subst hw''
  have hbq := below_regrown w4 dq osq
  have p1 := k1 dq osq
  have p2 := k2 dq osq
  generalize grow (redrawn w4 dq) osq = w5 at *
  clear k1 k2 k3 c0
  have hb5 : Below w.heap.size w w5 := hb4.trans (hbq.mono hb4.size)
  clear hbq hb4
  go_wp2_with fail
  go_ret
  exact ⟨rfl, by repeat' (first | (with_reducible assumption) | (with_reducible exact Below.refl _ _) | (with_reducible refine below_drewN ?_ _) | (with_reducible refine Below.drew ?_) | (with_reducible refine Below.alloc ?_ ?_ _) | (with_reducible refine Below.setCell ?_ ?_ _) | go_size)⟩
set_option maxRecDepth 100000 in
set_option maxHeartbeats 1000000 in
theorem mb_c5 (v : Int) (w : World) (h2 : 1 ≤ v) (h3 : v ≤ 1099511627776) : Calls Tryd.prog 27 #[.agg #[.int .i64 1, .bool true, .int .i64 0, .int .i64 v]] w (NumPost (.bool true) w) := by
  have hm : ∀ w, (method 197 77 (.agg #[]) "archipelago/deeds.least").run Tryd.prog w = .ok (53, .agg #[]) w := fun _ => by kernel_rfl
  have G := agg_any 1
  rw [show aggV 1 = .tuple #[.iface 77 (.agg #[]), .bool true] from rfl] at G
  have HG := Lib.hid G
  clear G
  obtain ⟨w4, HW⟩ : ∃ w4, Hid (w4 = w.alloc (.cells #[.int .i64 1, .bool true, .int .i64 0, .int .i64 v] 25)) := ⟨_, Lib.hid rfl⟩
  have HH : w4.heap[w.heap.size]? = some (.cells #[.int .i64 1, .bool true, .int .i64 0, .int .i64 v] 25 (0, 0)) := by rw [HW.out]; exact heap_alloc_new _ _
  have hb4 : Below w.heap.size w w4 := by rw [HW.out]; exact (Below.refl _ _).alloc (Nat.le_refl _) _
  have q1 : w4.cell? ⟨w.heap.size, 1, none⟩ = some (.bool true) := by rw [Lib.cell_of_heap HH]; rfl
  have q2 : w4.cell? ⟨w.heap.size, 2, none⟩ = some (.int .i64 0) := by rw [Lib.cell_of_heap HH]; rfl
  have q3 : w4.cell? ⟨w.heap.size, 3, none⟩ = some (.int .i64 v) := by rw [Lib.cell_of_heap HH]; rfl
  have t3 : decide (v < 1) = false := decide_eq_false (by omega)
  have t4 : decide (1099511627776 < v) = false := decide_eq_false (by omega)
  clear h2 h3
  go_enter Tryd.func27, Tryd.ntmps27
  go_wp2_with fail
  refine (HG.out _).mono ?_
  rintro e w' ⟨rfl, rfl⟩
  go_wp2_with fail
  rw [← HW.out]
  have k1 : ∀ d' os, (grow (redrawn w4 d') os).cell? ⟨w.heap.size, 1, none⟩ = some (.bool true) := fun d' os => cell_regrown q1 d' os
  have k2 : ∀ d' os, (grow (redrawn w4 d') os).cell? ⟨w.heap.size, 2, none⟩ = some (.int .i64 0) := fun d' os => cell_regrown q2 d' os
  have k3 : ∀ d' os, (grow (redrawn w4 d') os).cell? ⟨w.heap.size, 3, none⟩ = some (.int .i64 v) := fun d' os => cell_regrown q3 d' os
  have c0 : ∀ d' os, Calls Tryd.prog 53 #[.agg #[]] (grow (redrawn w4 d') os) fun e w'' => e = .returned (.int .i64 (-1099511627776)) ∧ ∃ p : Regrown, w'' = grow (redrawn w4 p.d) p.os := fun d' os => Calls.regrown_of (least_c _)
  refine wp_region_quiet_below (by kernel_rfl) (by kernel_rfl) ?_
  repeat (go_big_quiet_step (with_reducible exact c0 _ _))
  refine wpQuiet_nil ?_
  intro _ hw'
  obtain ⟨⟨dq, osq⟩, hw''⟩ := hw'
  subst hw''
  have hbq := below_regrown w4 dq osq
  have p1 := k1 dq osq
  have p2 := k2 dq osq
  generalize grow (redrawn w4 dq) osq = w5 at *
  clear k1 k2 k3 c0
  have hb5 : Below w.heap.size w w5 := hb4.trans (hbq.mono hb4.size)
  clear hbq hb4
  go_wp2_with fail
  go_ret
  exact ⟨rfl, by repeat' (first | (with_reducible assumption) | (with_reducible exact Below.refl _ _) | (with_reducible refine below_drewN ?_ _) | (with_reducible refine Below.drew ?_) | (with_reducible refine Below.alloc ?_ ?_ _) | (with_reducible refine Below.setCell ?_ ?_ _) | go_size)⟩
set_option maxRecDepth 100000 in
set_option maxHeartbeats 1000000 in
theorem mb_c6 (x : Int) (v : Int) (w : World) (h0 : -1099511627776 ≤ x) (h1 : x ≤ 1099511627776) (h2 : 1 ≤ v) (h3 : v ≤ 1099511627776) (hx : (x == 0) = false) : Calls Tryd.prog 27 #[.agg #[.int .i64 1, .bool true, .int .i64 x, .int .i64 v]] w (NumPost (.bool false) w) := by
  have hm : ∀ w, (method 197 77 (.agg #[]) "archipelago/deeds.least").run Tryd.prog w = .ok (53, .agg #[]) w := fun _ => by kernel_rfl
  have G := agg_any 1
  rw [show aggV 1 = .tuple #[.iface 77 (.agg #[]), .bool true] from rfl] at G
  have HG := Lib.hid G
  clear G
  obtain ⟨w4, HW⟩ : ∃ w4, Hid (w4 = w.alloc (.cells #[.int .i64 1, .bool true, .int .i64 x, .int .i64 v] 25)) := ⟨_, Lib.hid rfl⟩
  have HH : w4.heap[w.heap.size]? = some (.cells #[.int .i64 1, .bool true, .int .i64 x, .int .i64 v] 25 (0, 0)) := by rw [HW.out]; exact heap_alloc_new _ _
  have hb4 : Below w.heap.size w w4 := by rw [HW.out]; exact (Below.refl _ _).alloc (Nat.le_refl _) _
  have q1 : w4.cell? ⟨w.heap.size, 1, none⟩ = some (.bool true) := by rw [Lib.cell_of_heap HH]; rfl
  have q2 : w4.cell? ⟨w.heap.size, 2, none⟩ = some (.int .i64 x) := by rw [Lib.cell_of_heap HH]; rfl
  have q3 : w4.cell? ⟨w.heap.size, 3, none⟩ = some (.int .i64 v) := by rw [Lib.cell_of_heap HH]; rfl
  have t1 : decide (x < -1099511627776) = false := decide_eq_false (by omega)
  have t2 : decide (1099511627776 < x) = false := decide_eq_false (by omega)
  have t3 : decide (v < 1) = false := decide_eq_false (by omega)
  have t4 : decide (1099511627776 < v) = false := decide_eq_false (by omega)
  clear h0 h1 h2 h3
  go_enter Tryd.func27, Tryd.ntmps27
  go_wp2_with fail
  refine (HG.out _).mono ?_
  rintro e w' ⟨rfl, rfl⟩
  go_wp2_with fail
  rw [← HW.out]
  have k1 : ∀ d' os, (grow (redrawn w4 d') os).cell? ⟨w.heap.size, 1, none⟩ = some (.bool true) := fun d' os => cell_regrown q1 d' os
  have k2 : ∀ d' os, (grow (redrawn w4 d') os).cell? ⟨w.heap.size, 2, none⟩ = some (.int .i64 x) := fun d' os => cell_regrown q2 d' os
  have k3 : ∀ d' os, (grow (redrawn w4 d') os).cell? ⟨w.heap.size, 3, none⟩ = some (.int .i64 v) := fun d' os => cell_regrown q3 d' os
  have c0 : ∀ d' os, Calls Tryd.prog 53 #[.agg #[]] (grow (redrawn w4 d') os) fun e w'' => e = .returned (.int .i64 (-1099511627776)) ∧ ∃ p : Regrown, w'' = grow (redrawn w4 p.d) p.os := fun d' os => Calls.regrown_of (least_c _)
  refine wp_region_quiet_below (by kernel_rfl) (by kernel_rfl) ?_
  repeat (go_big_quiet_step (with_reducible exact c0 _ _))
  refine wpQuiet_nil ?_
  intro _ hw'
  obtain ⟨⟨dq, osq⟩, hw''⟩ := hw'
  subst hw''
  have hbq := below_regrown w4 dq osq
  have p1 := k1 dq osq
  have p2 := k2 dq osq
  generalize grow (redrawn w4 dq) osq = w5 at *
  clear k1 k2 k3 c0
  have hb5 : Below w.heap.size w w5 := hb4.trans (hbq.mono hb4.size)
  clear hbq hb4
  go_wp2_with fail
  go_ret
  exact ⟨rfl, by repeat' (first | (with_reducible assumption) | (with_reducible exact Below.refl _ _) | (with_reducible refine below_drewN ?_ _) | (with_reducible refine Below.drew ?_) | (with_reducible refine Below.alloc ?_ ?_ _) | (with_reducible refine Below.setCell ?_ ?_ _) | go_size)⟩
set_option maxRecDepth 100000 in
set_option maxHeartbeats 1000000 in
theorem mb_p0 (c : Bool) (x : Int) (v : Int) (w : World) (h : x < 0) : Calls Tryd.prog 27 #[.agg #[.int .i64 2, .bool c, .int .i64 x, .int .i64 v]] w (NumPost (.bool false) w) := by
  have hm : ∀ w, (method 197 79 (.agg #[]) "archipelago/deeds.least").run Tryd.prog w = .ok (55, .agg #[]) w := fun _ => by kernel_rfl
  have G := agg_any 2
  rw [show aggV 2 = .tuple #[.iface 79 (.agg #[]), .bool true] from rfl] at G
  have HG := Lib.hid G
  clear G
  obtain ⟨w4, HW⟩ : ∃ w4, Hid (w4 = w.alloc (.cells #[.int .i64 2, .bool c, .int .i64 x, .int .i64 v] 25)) := ⟨_, Lib.hid rfl⟩
  have HH : w4.heap[w.heap.size]? = some (.cells #[.int .i64 2, .bool c, .int .i64 x, .int .i64 v] 25 (0, 0)) := by rw [HW.out]; exact heap_alloc_new _ _
  have hb4 : Below w.heap.size w w4 := by rw [HW.out]; exact (Below.refl _ _).alloc (Nat.le_refl _) _
  have q1 : w4.cell? ⟨w.heap.size, 1, none⟩ = some (.bool c) := by rw [Lib.cell_of_heap HH]; rfl
  have q2 : w4.cell? ⟨w.heap.size, 2, none⟩ = some (.int .i64 x) := by rw [Lib.cell_of_heap HH]; rfl
  have q3 : w4.cell? ⟨w.heap.size, 3, none⟩ = some (.int .i64 v) := by rw [Lib.cell_of_heap HH]; rfl
  have t1 : decide (x < 0) = true := decide_eq_true (by omega)
  clear h
  go_enter Tryd.func27, Tryd.ntmps27
  go_wp2_with fail
  refine (HG.out _).mono ?_
  rintro e w' ⟨rfl, rfl⟩
  go_wp2_with fail
  rw [← HW.out]
  have k1 : ∀ d' os, (grow (redrawn w4 d') os).cell? ⟨w.heap.size, 1, none⟩ = some (.bool c) := fun d' os => cell_regrown q1 d' os
  have k2 : ∀ d' os, (grow (redrawn w4 d') os).cell? ⟨w.heap.size, 2, none⟩ = some (.int .i64 x) := fun d' os => cell_regrown q2 d' os
  have k3 : ∀ d' os, (grow (redrawn w4 d') os).cell? ⟨w.heap.size, 3, none⟩ = some (.int .i64 v) := fun d' os => cell_regrown q3 d' os
  have c0 : ∀ d' os, Calls Tryd.prog 55 #[.agg #[]] (grow (redrawn w4 d') os) fun e w'' => e = .returned (.int .i64 0) ∧ ∃ p : Regrown, w'' = grow (redrawn w4 p.d) p.os := fun d' os => Calls.regrown_of (least_p _)
  refine wp_region_quiet_below (by kernel_rfl) (by kernel_rfl) ?_
  repeat (go_big_quiet_step (with_reducible exact c0 _ _))
  refine wpQuiet_nil ?_
  intro _ hw'
  obtain ⟨⟨dq, osq⟩, hw''⟩ := hw'
  subst hw''
  have hbq := below_regrown w4 dq osq
  have p1 := k1 dq osq
  have p2 := k2 dq osq
  generalize grow (redrawn w4 dq) osq = w5 at *
  clear k1 k2 k3 c0
  have hb5 : Below w.heap.size w w5 := hb4.trans (hbq.mono hb4.size)
  clear hbq hb4
  go_wp2_with fail
  go_ret
  exact ⟨rfl, by repeat' (first | (with_reducible assumption) | (with_reducible exact Below.refl _ _) | (with_reducible refine below_drewN ?_ _) | (with_reducible refine Below.drew ?_) | (with_reducible refine Below.alloc ?_ ?_ _) | (with_reducible refine Below.setCell ?_ ?_ _) | go_size)⟩
set_option maxRecDepth 100000 in
set_option maxHeartbeats 1000000 in
theorem mb_p1 (c : Bool) (x : Int) (v : Int) (w : World) (h : 1099511627776 < x) : Calls Tryd.prog 27 #[.agg #[.int .i64 2, .bool c, .int .i64 x, .int .i64 v]] w (NumPost (.bool false) w) := by
  have hm : ∀ w, (method 197 79 (.agg #[]) "archipelago/deeds.least").run Tryd.prog w = .ok (55, .agg #[]) w := fun _ => by kernel_rfl
  have G := agg_any 2
  rw [show aggV 2 = .tuple #[.iface 79 (.agg #[]), .bool true] from rfl] at G
  have HG := Lib.hid G
  clear G
  obtain ⟨w4, HW⟩ : ∃ w4, Hid (w4 = w.alloc (.cells #[.int .i64 2, .bool c, .int .i64 x, .int .i64 v] 25)) := ⟨_, Lib.hid rfl⟩
  have HH : w4.heap[w.heap.size]? = some (.cells #[.int .i64 2, .bool c, .int .i64 x, .int .i64 v] 25 (0, 0)) := by rw [HW.out]; exact heap_alloc_new _ _
  have hb4 : Below w.heap.size w w4 := by rw [HW.out]; exact (Below.refl _ _).alloc (Nat.le_refl _) _
  have q1 : w4.cell? ⟨w.heap.size, 1, none⟩ = some (.bool c) := by rw [Lib.cell_of_heap HH]; rfl
  have q2 : w4.cell? ⟨w.heap.size, 2, none⟩ = some (.int .i64 x) := by rw [Lib.cell_of_heap HH]; rfl
  have q3 : w4.cell? ⟨w.heap.size, 3, none⟩ = some (.int .i64 v) := by rw [Lib.cell_of_heap HH]; rfl
  have t1 : decide (x < 0) = false := decide_eq_false (by omega)
  have t2 : decide (1099511627776 < x) = true := decide_eq_true (by omega)
  clear h
  go_enter Tryd.func27, Tryd.ntmps27
  go_wp2_with fail
  refine (HG.out _).mono ?_
  rintro e w' ⟨rfl, rfl⟩
  go_wp2_with fail
  rw [← HW.out]
  have k1 : ∀ d' os, (grow (redrawn w4 d') os).cell? ⟨w.heap.size, 1, none⟩ = some (.bool c) := fun d' os => cell_regrown q1 d' os
  have k2 : ∀ d' os, (grow (redrawn w4 d') os).cell? ⟨w.heap.size, 2, none⟩ = some (.int .i64 x) := fun d' os => cell_regrown q2 d' os
  have k3 : ∀ d' os, (grow (redrawn w4 d') os).cell? ⟨w.heap.size, 3, none⟩ = some (.int .i64 v) := fun d' os => cell_regrown q3 d' os
  have c0 : ∀ d' os, Calls Tryd.prog 55 #[.agg #[]] (grow (redrawn w4 d') os) fun e w'' => e = .returned (.int .i64 0) ∧ ∃ p : Regrown, w'' = grow (redrawn w4 p.d) p.os := fun d' os => Calls.regrown_of (least_p _)
  refine wp_region_quiet_below (by kernel_rfl) (by kernel_rfl) ?_
  repeat (go_big_quiet_step (with_reducible exact c0 _ _))
  refine wpQuiet_nil ?_
  intro _ hw'
  obtain ⟨⟨dq, osq⟩, hw''⟩ := hw'
  subst hw''
  have hbq := below_regrown w4 dq osq
  have p1 := k1 dq osq
  have p2 := k2 dq osq
  generalize grow (redrawn w4 dq) osq = w5 at *
  clear k1 k2 k3 c0
  have hb5 : Below w.heap.size w w5 := hb4.trans (hbq.mono hb4.size)
  clear hbq hb4
  go_wp2_with fail
  go_ret
  exact ⟨rfl, by repeat' (first | (with_reducible assumption) | (with_reducible exact Below.refl _ _) | (with_reducible refine below_drewN ?_ _) | (with_reducible refine Below.drew ?_) | (with_reducible refine Below.alloc ?_ ?_ _) | (with_reducible refine Below.setCell ?_ ?_ _) | go_size)⟩
set_option maxRecDepth 100000 in
set_option maxHeartbeats 1000000 in
theorem mb_p2 (c : Bool) (x : Int) (v : Int) (w : World) (h0 : 0 ≤ x) (h1 : x ≤ 1099511627776) (h : v < 1) : Calls Tryd.prog 27 #[.agg #[.int .i64 2, .bool c, .int .i64 x, .int .i64 v]] w (NumPost (.bool false) w) := by
  have hm : ∀ w, (method 197 79 (.agg #[]) "archipelago/deeds.least").run Tryd.prog w = .ok (55, .agg #[]) w := fun _ => by kernel_rfl
  have G := agg_any 2
  rw [show aggV 2 = .tuple #[.iface 79 (.agg #[]), .bool true] from rfl] at G
  have HG := Lib.hid G
  clear G
  obtain ⟨w4, HW⟩ : ∃ w4, Hid (w4 = w.alloc (.cells #[.int .i64 2, .bool c, .int .i64 x, .int .i64 v] 25)) := ⟨_, Lib.hid rfl⟩
  have HH : w4.heap[w.heap.size]? = some (.cells #[.int .i64 2, .bool c, .int .i64 x, .int .i64 v] 25 (0, 0)) := by rw [HW.out]; exact heap_alloc_new _ _
  have hb4 : Below w.heap.size w w4 := by rw [HW.out]; exact (Below.refl _ _).alloc (Nat.le_refl _) _
  have q1 : w4.cell? ⟨w.heap.size, 1, none⟩ = some (.bool c) := by rw [Lib.cell_of_heap HH]; rfl
  have q2 : w4.cell? ⟨w.heap.size, 2, none⟩ = some (.int .i64 x) := by rw [Lib.cell_of_heap HH]; rfl
  have q3 : w4.cell? ⟨w.heap.size, 3, none⟩ = some (.int .i64 v) := by rw [Lib.cell_of_heap HH]; rfl
  have t1 : decide (x < 0) = false := decide_eq_false (by omega)
  have t2 : decide (1099511627776 < x) = false := decide_eq_false (by omega)
  have t3 : decide (v < 1) = true := decide_eq_true (by omega)
  clear h h0 h1
  go_enter Tryd.func27, Tryd.ntmps27
  go_wp2_with fail
  refine (HG.out _).mono ?_
  rintro e w' ⟨rfl, rfl⟩
  go_wp2_with fail
  rw [← HW.out]
  have k1 : ∀ d' os, (grow (redrawn w4 d') os).cell? ⟨w.heap.size, 1, none⟩ = some (.bool c) := fun d' os => cell_regrown q1 d' os
  have k2 : ∀ d' os, (grow (redrawn w4 d') os).cell? ⟨w.heap.size, 2, none⟩ = some (.int .i64 x) := fun d' os => cell_regrown q2 d' os
  have k3 : ∀ d' os, (grow (redrawn w4 d') os).cell? ⟨w.heap.size, 3, none⟩ = some (.int .i64 v) := fun d' os => cell_regrown q3 d' os
  have c0 : ∀ d' os, Calls Tryd.prog 55 #[.agg #[]] (grow (redrawn w4 d') os) fun e w'' => e = .returned (.int .i64 0) ∧ ∃ p : Regrown, w'' = grow (redrawn w4 p.d) p.os := fun d' os => Calls.regrown_of (least_p _)
  refine wp_region_quiet_below (by kernel_rfl) (by kernel_rfl) ?_
  repeat (go_big_quiet_step (with_reducible exact c0 _ _))
  refine wpQuiet_nil ?_
  intro _ hw'
  obtain ⟨⟨dq, osq⟩, hw''⟩ := hw'
  subst hw''
  have hbq := below_regrown w4 dq osq
  have p1 := k1 dq osq
  have p2 := k2 dq osq
  generalize grow (redrawn w4 dq) osq = w5 at *
  clear k1 k2 k3 c0
  have hb5 : Below w.heap.size w w5 := hb4.trans (hbq.mono hb4.size)
  clear hbq hb4
  go_wp2_with fail
  go_ret
  exact ⟨rfl, by repeat' (first | (with_reducible assumption) | (with_reducible exact Below.refl _ _) | (with_reducible refine below_drewN ?_ _) | (with_reducible refine Below.drew ?_) | (with_reducible refine Below.alloc ?_ ?_ _) | (with_reducible refine Below.setCell ?_ ?_ _) | go_size)⟩
set_option maxRecDepth 100000 in
set_option maxHeartbeats 1000000 in
theorem mb_p3 (c : Bool) (x : Int) (v : Int) (w : World) (h0 : 0 ≤ x) (h1 : x ≤ 1099511627776) (h : 1099511627776 < v) : Calls Tryd.prog 27 #[.agg #[.int .i64 2, .bool c, .int .i64 x, .int .i64 v]] w (NumPost (.bool false) w) := by
  have hm : ∀ w, (method 197 79 (.agg #[]) "archipelago/deeds.least").run Tryd.prog w = .ok (55, .agg #[]) w := fun _ => by kernel_rfl
  have G := agg_any 2
  rw [show aggV 2 = .tuple #[.iface 79 (.agg #[]), .bool true] from rfl] at G
  have HG := Lib.hid G
  clear G
  obtain ⟨w4, HW⟩ : ∃ w4, Hid (w4 = w.alloc (.cells #[.int .i64 2, .bool c, .int .i64 x, .int .i64 v] 25)) := ⟨_, Lib.hid rfl⟩
  have HH : w4.heap[w.heap.size]? = some (.cells #[.int .i64 2, .bool c, .int .i64 x, .int .i64 v] 25 (0, 0)) := by rw [HW.out]; exact heap_alloc_new _ _
  have hb4 : Below w.heap.size w w4 := by rw [HW.out]; exact (Below.refl _ _).alloc (Nat.le_refl _) _
  have q1 : w4.cell? ⟨w.heap.size, 1, none⟩ = some (.bool c) := by rw [Lib.cell_of_heap HH]; rfl
  have q2 : w4.cell? ⟨w.heap.size, 2, none⟩ = some (.int .i64 x) := by rw [Lib.cell_of_heap HH]; rfl
  have q3 : w4.cell? ⟨w.heap.size, 3, none⟩ = some (.int .i64 v) := by rw [Lib.cell_of_heap HH]; rfl
  have t1 : decide (x < 0) = false := decide_eq_false (by omega)
  have t2 : decide (1099511627776 < x) = false := decide_eq_false (by omega)
  have t3 : decide (v < 1) = false := decide_eq_false (by omega)
  have t4 : decide (1099511627776 < v) = true := decide_eq_true (by omega)
  clear h h0 h1
  go_enter Tryd.func27, Tryd.ntmps27
  go_wp2_with fail
  refine (HG.out _).mono ?_
  rintro e w' ⟨rfl, rfl⟩
  go_wp2_with fail
  rw [← HW.out]
  have k1 : ∀ d' os, (grow (redrawn w4 d') os).cell? ⟨w.heap.size, 1, none⟩ = some (.bool c) := fun d' os => cell_regrown q1 d' os
  have k2 : ∀ d' os, (grow (redrawn w4 d') os).cell? ⟨w.heap.size, 2, none⟩ = some (.int .i64 x) := fun d' os => cell_regrown q2 d' os
  have k3 : ∀ d' os, (grow (redrawn w4 d') os).cell? ⟨w.heap.size, 3, none⟩ = some (.int .i64 v) := fun d' os => cell_regrown q3 d' os
  have c0 : ∀ d' os, Calls Tryd.prog 55 #[.agg #[]] (grow (redrawn w4 d') os) fun e w'' => e = .returned (.int .i64 0) ∧ ∃ p : Regrown, w'' = grow (redrawn w4 p.d) p.os := fun d' os => Calls.regrown_of (least_p _)
  refine wp_region_quiet_below (by kernel_rfl) (by kernel_rfl) ?_
  repeat (go_big_quiet_step (with_reducible exact c0 _ _))
  refine wpQuiet_nil ?_
  intro _ hw'
  obtain ⟨⟨dq, osq⟩, hw''⟩ := hw'
  subst hw''
  have hbq := below_regrown w4 dq osq
  have p1 := k1 dq osq
  have p2 := k2 dq osq
  generalize grow (redrawn w4 dq) osq = w5 at *
  clear k1 k2 k3 c0
  have hb5 : Below w.heap.size w w5 := hb4.trans (hbq.mono hb4.size)
  clear hbq hb4
  go_wp2_with fail
  go_ret
  exact ⟨rfl, by repeat' (first | (with_reducible assumption) | (with_reducible exact Below.refl _ _) | (with_reducible refine below_drewN ?_ _) | (with_reducible refine Below.drew ?_) | (with_reducible refine Below.alloc ?_ ?_ _) | (with_reducible refine Below.setCell ?_ ?_ _) | go_size)⟩
set_option maxRecDepth 100000 in
set_option maxHeartbeats 1000000 in
theorem mb_p4 (x : Int) (v : Int) (w : World) (h0 : 0 ≤ x) (h1 : x ≤ 1099511627776) (h2 : 1 ≤ v) (h3 : v ≤ 1099511627776) : Calls Tryd.prog 27 #[.agg #[.int .i64 2, .bool false, .int .i64 x, .int .i64 v]] w (NumPost (.bool true) w) := by
  have hm : ∀ w, (method 197 79 (.agg #[]) "archipelago/deeds.least").run Tryd.prog w = .ok (55, .agg #[]) w := fun _ => by kernel_rfl
  have G := agg_any 2
  rw [show aggV 2 = .tuple #[.iface 79 (.agg #[]), .bool true] from rfl] at G
  have HG := Lib.hid G
  clear G
  obtain ⟨w4, HW⟩ : ∃ w4, Hid (w4 = w.alloc (.cells #[.int .i64 2, .bool false, .int .i64 x, .int .i64 v] 25)) := ⟨_, Lib.hid rfl⟩
  have HH : w4.heap[w.heap.size]? = some (.cells #[.int .i64 2, .bool false, .int .i64 x, .int .i64 v] 25 (0, 0)) := by rw [HW.out]; exact heap_alloc_new _ _
  have hb4 : Below w.heap.size w w4 := by rw [HW.out]; exact (Below.refl _ _).alloc (Nat.le_refl _) _
  have q1 : w4.cell? ⟨w.heap.size, 1, none⟩ = some (.bool false) := by rw [Lib.cell_of_heap HH]; rfl
  have q2 : w4.cell? ⟨w.heap.size, 2, none⟩ = some (.int .i64 x) := by rw [Lib.cell_of_heap HH]; rfl
  have q3 : w4.cell? ⟨w.heap.size, 3, none⟩ = some (.int .i64 v) := by rw [Lib.cell_of_heap HH]; rfl
  have t1 : decide (x < 0) = false := decide_eq_false (by omega)
  have t2 : decide (1099511627776 < x) = false := decide_eq_false (by omega)
  have t3 : decide (v < 1) = false := decide_eq_false (by omega)
  have t4 : decide (1099511627776 < v) = false := decide_eq_false (by omega)
  clear h0 h1 h2 h3
  go_enter Tryd.func27, Tryd.ntmps27
  go_wp2_with fail
  refine (HG.out _).mono ?_
  rintro e w' ⟨rfl, rfl⟩
  go_wp2_with fail
  rw [← HW.out]
  have k1 : ∀ d' os, (grow (redrawn w4 d') os).cell? ⟨w.heap.size, 1, none⟩ = some (.bool false) := fun d' os => cell_regrown q1 d' os
  have k2 : ∀ d' os, (grow (redrawn w4 d') os).cell? ⟨w.heap.size, 2, none⟩ = some (.int .i64 x) := fun d' os => cell_regrown q2 d' os
  have k3 : ∀ d' os, (grow (redrawn w4 d') os).cell? ⟨w.heap.size, 3, none⟩ = some (.int .i64 v) := fun d' os => cell_regrown q3 d' os
  have c0 : ∀ d' os, Calls Tryd.prog 55 #[.agg #[]] (grow (redrawn w4 d') os) fun e w'' => e = .returned (.int .i64 0) ∧ ∃ p : Regrown, w'' = grow (redrawn w4 p.d) p.os := fun d' os => Calls.regrown_of (least_p _)
  refine wp_region_quiet_below (by kernel_rfl) (by kernel_rfl) ?_
  repeat (go_big_quiet_step (with_reducible exact c0 _ _))
  refine wpQuiet_nil ?_
  intro _ hw'
  obtain ⟨⟨dq, osq⟩, hw''⟩ := hw'
  subst hw''
  have hbq := below_regrown w4 dq osq
  have p1 := k1 dq osq
  have p2 := k2 dq osq
  generalize grow (redrawn w4 dq) osq = w5 at *
  clear k1 k2 k3 c0
  have hb5 : Below w.heap.size w w5 := hb4.trans (hbq.mono hb4.size)
  clear hbq hb4
  go_wp2_with fail
  go_ret
  exact ⟨rfl, by repeat' (first | (with_reducible assumption) | (with_reducible exact Below.refl _ _) | (with_reducible refine below_drewN ?_ _) | (with_reducible refine Below.drew ?_) | (with_reducible refine Below.alloc ?_ ?_ _) | (with_reducible refine Below.setCell ?_ ?_ _) | go_size)⟩
set_option maxRecDepth 100000 in
set_option maxHeartbeats 1000000 in
theorem mb_p5 (v : Int) (w : World) (h2 : 1 ≤ v) (h3 : v ≤ 1099511627776) : Calls Tryd.prog 27 #[.agg #[.int .i64 2, .bool true, .int .i64 0, .int .i64 v]] w (NumPost (.bool true) w) := by
  have hm : ∀ w, (method 197 79 (.agg #[]) "archipelago/deeds.least").run Tryd.prog w = .ok (55, .agg #[]) w := fun _ => by kernel_rfl
  have G := agg_any 2
  rw [show aggV 2 = .tuple #[.iface 79 (.agg #[]), .bool true] from rfl] at G
  have HG := Lib.hid G
  clear G
  obtain ⟨w4, HW⟩ : ∃ w4, Hid (w4 = w.alloc (.cells #[.int .i64 2, .bool true, .int .i64 0, .int .i64 v] 25)) := ⟨_, Lib.hid rfl⟩
  have HH : w4.heap[w.heap.size]? = some (.cells #[.int .i64 2, .bool true, .int .i64 0, .int .i64 v] 25 (0, 0)) := by rw [HW.out]; exact heap_alloc_new _ _
  have hb4 : Below w.heap.size w w4 := by rw [HW.out]; exact (Below.refl _ _).alloc (Nat.le_refl _) _
  have q1 : w4.cell? ⟨w.heap.size, 1, none⟩ = some (.bool true) := by rw [Lib.cell_of_heap HH]; rfl
  have q2 : w4.cell? ⟨w.heap.size, 2, none⟩ = some (.int .i64 0) := by rw [Lib.cell_of_heap HH]; rfl
  have q3 : w4.cell? ⟨w.heap.size, 3, none⟩ = some (.int .i64 v) := by rw [Lib.cell_of_heap HH]; rfl
  have t3 : decide (v < 1) = false := decide_eq_false (by omega)
  have t4 : decide (1099511627776 < v) = false := decide_eq_false (by omega)
  clear h2 h3
  go_enter Tryd.func27, Tryd.ntmps27
  go_wp2_with fail
  refine (HG.out _).mono ?_
  rintro e w' ⟨rfl, rfl⟩
  go_wp2_with fail
  rw [← HW.out]
  have k1 : ∀ d' os, (grow (redrawn w4 d') os).cell? ⟨w.heap.size, 1, none⟩ = some (.bool true) := fun d' os => cell_regrown q1 d' os
  have k2 : ∀ d' os, (grow (redrawn w4 d') os).cell? ⟨w.heap.size, 2, none⟩ = some (.int .i64 0) := fun d' os => cell_regrown q2 d' os
  have k3 : ∀ d' os, (grow (redrawn w4 d') os).cell? ⟨w.heap.size, 3, none⟩ = some (.int .i64 v) := fun d' os => cell_regrown q3 d' os
  have c0 : ∀ d' os, Calls Tryd.prog 55 #[.agg #[]] (grow (redrawn w4 d') os) fun e w'' => e = .returned (.int .i64 0) ∧ ∃ p : Regrown, w'' = grow (redrawn w4 p.d) p.os := fun d' os => Calls.regrown_of (least_p _)
  refine wp_region_quiet_below (by kernel_rfl) (by kernel_rfl) ?_
  repeat (go_big_quiet_step (with_reducible exact c0 _ _))
  refine wpQuiet_nil ?_
  intro _ hw'
  obtain ⟨⟨dq, osq⟩, hw''⟩ := hw'
  subst hw''
  have hbq := below_regrown w4 dq osq
  have p1 := k1 dq osq
  have p2 := k2 dq osq
  generalize grow (redrawn w4 dq) osq = w5 at *
  clear k1 k2 k3 c0
  have hb5 : Below w.heap.size w w5 := hb4.trans (hbq.mono hb4.size)
  clear hbq hb4
  go_wp2_with fail
  go_ret
  exact ⟨rfl, by repeat' (first | (with_reducible assumption) | (with_reducible exact Below.refl _ _) | (with_reducible refine below_drewN ?_ _) | (with_reducible refine Below.drew ?_) | (with_reducible refine Below.alloc ?_ ?_ _) | (with_reducible refine Below.setCell ?_ ?_ _) | go_size)⟩
set_option maxRecDepth 100000 in
set_option maxHeartbeats 1000000 in
theorem mb_p6 (x : Int) (v : Int) (w : World) (h0 : 0 ≤ x) (h1 : x ≤ 1099511627776) (h2 : 1 ≤ v) (h3 : v ≤ 1099511627776) (hx : (x == 0) = false) : Calls Tryd.prog 27 #[.agg #[.int .i64 2, .bool true, .int .i64 x, .int .i64 v]] w (NumPost (.bool false) w) := by
  have hm : ∀ w, (method 197 79 (.agg #[]) "archipelago/deeds.least").run Tryd.prog w = .ok (55, .agg #[]) w := fun _ => by kernel_rfl
  have G := agg_any 2
  rw [show aggV 2 = .tuple #[.iface 79 (.agg #[]), .bool true] from rfl] at G
  have HG := Lib.hid G
  clear G
  obtain ⟨w4, HW⟩ : ∃ w4, Hid (w4 = w.alloc (.cells #[.int .i64 2, .bool true, .int .i64 x, .int .i64 v] 25)) := ⟨_, Lib.hid rfl⟩
  have HH : w4.heap[w.heap.size]? = some (.cells #[.int .i64 2, .bool true, .int .i64 x, .int .i64 v] 25 (0, 0)) := by rw [HW.out]; exact heap_alloc_new _ _
  have hb4 : Below w.heap.size w w4 := by rw [HW.out]; exact (Below.refl _ _).alloc (Nat.le_refl _) _
  have q1 : w4.cell? ⟨w.heap.size, 1, none⟩ = some (.bool true) := by rw [Lib.cell_of_heap HH]; rfl
  have q2 : w4.cell? ⟨w.heap.size, 2, none⟩ = some (.int .i64 x) := by rw [Lib.cell_of_heap HH]; rfl
  have q3 : w4.cell? ⟨w.heap.size, 3, none⟩ = some (.int .i64 v) := by rw [Lib.cell_of_heap HH]; rfl
  have t1 : decide (x < 0) = false := decide_eq_false (by omega)
  have t2 : decide (1099511627776 < x) = false := decide_eq_false (by omega)
  have t3 : decide (v < 1) = false := decide_eq_false (by omega)
  have t4 : decide (1099511627776 < v) = false := decide_eq_false (by omega)
  clear h0 h1 h2 h3
  go_enter Tryd.func27, Tryd.ntmps27
  go_wp2_with fail
  refine (HG.out _).mono ?_
  rintro e w' ⟨rfl, rfl⟩
  go_wp2_with fail
  rw [← HW.out]
  have k1 : ∀ d' os, (grow (redrawn w4 d') os).cell? ⟨w.heap.size, 1, none⟩ = some (.bool true) := fun d' os => cell_regrown q1 d' os
  have k2 : ∀ d' os, (grow (redrawn w4 d') os).cell? ⟨w.heap.size, 2, none⟩ = some (.int .i64 x) := fun d' os => cell_regrown q2 d' os
  have k3 : ∀ d' os, (grow (redrawn w4 d') os).cell? ⟨w.heap.size, 3, none⟩ = some (.int .i64 v) := fun d' os => cell_regrown q3 d' os
  have c0 : ∀ d' os, Calls Tryd.prog 55 #[.agg #[]] (grow (redrawn w4 d') os) fun e w'' => e = .returned (.int .i64 0) ∧ ∃ p : Regrown, w'' = grow (redrawn w4 p.d) p.os := fun d' os => Calls.regrown_of (least_p _)
  refine wp_region_quiet_below (by kernel_rfl) (by kernel_rfl) ?_
  repeat (go_big_quiet_step (with_reducible exact c0 _ _))
  refine wpQuiet_nil ?_
  intro _ hw'
  obtain ⟨⟨dq, osq⟩, hw''⟩ := hw'
  subst hw''
  have hbq := below_regrown w4 dq osq
  have p1 := k1 dq osq
  have p2 := k2 dq osq
  generalize grow (redrawn w4 dq) osq = w5 at *
  clear k1 k2 k3 c0
  have hb5 : Below w.heap.size w w5 := hb4.trans (hbq.mono hb4.size)
  clear hbq hb4
  go_wp2_with fail
  go_ret
  exact ⟨rfl, by repeat' (first | (with_reducible assumption) | (with_reducible exact Below.refl _ _) | (with_reducible refine below_drewN ?_ _) | (with_reducible refine Below.drew ?_) | (with_reducible refine Below.alloc ?_ ?_ _) | (with_reducible refine Below.setCell ?_ ?_ _) | go_size)⟩
set_option maxRecDepth 100000 in
set_option maxHeartbeats 1000000 in
theorem mb_t0 (c : Bool) (x : Int) (v : Int) (w : World) (h : x < 0) : Calls Tryd.prog 27 #[.agg #[.int .i64 3, .bool c, .int .i64 x, .int .i64 v]] w (NumPost (.bool false) w) := by
  have hm : ∀ w, (method 197 80 (.agg #[]) "archipelago/deeds.least").run Tryd.prog w = .ok (57, .agg #[]) w := fun _ => by kernel_rfl
  have G := agg_any 3
  rw [show aggV 3 = .tuple #[.iface 80 (.agg #[]), .bool true] from rfl] at G
  have HG := Lib.hid G
  clear G
  obtain ⟨w4, HW⟩ : ∃ w4, Hid (w4 = w.alloc (.cells #[.int .i64 3, .bool c, .int .i64 x, .int .i64 v] 25)) := ⟨_, Lib.hid rfl⟩
  have HH : w4.heap[w.heap.size]? = some (.cells #[.int .i64 3, .bool c, .int .i64 x, .int .i64 v] 25 (0, 0)) := by rw [HW.out]; exact heap_alloc_new _ _
  have hb4 : Below w.heap.size w w4 := by rw [HW.out]; exact (Below.refl _ _).alloc (Nat.le_refl _) _
  have q1 : w4.cell? ⟨w.heap.size, 1, none⟩ = some (.bool c) := by rw [Lib.cell_of_heap HH]; rfl
  have q2 : w4.cell? ⟨w.heap.size, 2, none⟩ = some (.int .i64 x) := by rw [Lib.cell_of_heap HH]; rfl
  have q3 : w4.cell? ⟨w.heap.size, 3, none⟩ = some (.int .i64 v) := by rw [Lib.cell_of_heap HH]; rfl
  have t1 : decide (x < 0) = true := decide_eq_true (by omega)
  clear h
  go_enter Tryd.func27, Tryd.ntmps27
  go_wp2_with fail
  refine (HG.out _).mono ?_
  rintro e w' ⟨rfl, rfl⟩
  go_wp2_with fail
  rw [← HW.out]
  have k1 : ∀ d' os, (grow (redrawn w4 d') os).cell? ⟨w.heap.size, 1, none⟩ = some (.bool c) := fun d' os => cell_regrown q1 d' os
  have k2 : ∀ d' os, (grow (redrawn w4 d') os).cell? ⟨w.heap.size, 2, none⟩ = some (.int .i64 x) := fun d' os => cell_regrown q2 d' os
  have k3 : ∀ d' os, (grow (redrawn w4 d') os).cell? ⟨w.heap.size, 3, none⟩ = some (.int .i64 v) := fun d' os => cell_regrown q3 d' os
  have c0 : ∀ d' os, Calls Tryd.prog 57 #[.agg #[]] (grow (redrawn w4 d') os) fun e w'' => e = .returned (.int .i64 0) ∧ ∃ p : Regrown, w'' = grow (redrawn w4 p.d) p.os := fun d' os => Calls.regrown_of (least_t _)
  refine wp_region_quiet_below (by kernel_rfl) (by kernel_rfl) ?_
  repeat (go_big_quiet_step (with_reducible exact c0 _ _))
  refine wpQuiet_nil ?_
  intro _ hw'
  obtain ⟨⟨dq, osq⟩, hw''⟩ := hw'
  subst hw''
  have hbq := below_regrown w4 dq osq
  have p1 := k1 dq osq
  have p2 := k2 dq osq
  generalize grow (redrawn w4 dq) osq = w5 at *
  clear k1 k2 k3 c0
  have hb5 : Below w.heap.size w w5 := hb4.trans (hbq.mono hb4.size)
  clear hbq hb4
  go_wp2_with fail
  go_ret
  exact ⟨rfl, by repeat' (first | (with_reducible assumption) | (with_reducible exact Below.refl _ _) | (with_reducible refine below_drewN ?_ _) | (with_reducible refine Below.drew ?_) | (with_reducible refine Below.alloc ?_ ?_ _) | (with_reducible refine Below.setCell ?_ ?_ _) | go_size)⟩
set_option maxRecDepth 100000 in
set_option maxHeartbeats 1000000 in
theorem mb_t1 (c : Bool) (x : Int) (v : Int) (w : World) (h : 1099511627776 < x) : Calls Tryd.prog 27 #[.agg #[.int .i64 3, .bool c, .int .i64 x, .int .i64 v]] w (NumPost (.bool false) w) := by
  have hm : ∀ w, (method 197 80 (.agg #[]) "archipelago/deeds.least").run Tryd.prog w = .ok (57, .agg #[]) w := fun _ => by kernel_rfl
  have G := agg_any 3
  rw [show aggV 3 = .tuple #[.iface 80 (.agg #[]), .bool true] from rfl] at G
  have HG := Lib.hid G
  clear G
  obtain ⟨w4, HW⟩ : ∃ w4, Hid (w4 = w.alloc (.cells #[.int .i64 3, .bool c, .int .i64 x, .int .i64 v] 25)) := ⟨_, Lib.hid rfl⟩
  have HH : w4.heap[w.heap.size]? = some (.cells #[.int .i64 3, .bool c, .int .i64 x, .int .i64 v] 25 (0, 0)) := by rw [HW.out]; exact heap_alloc_new _ _
  have hb4 : Below w.heap.size w w4 := by rw [HW.out]; exact (Below.refl _ _).alloc (Nat.le_refl _) _
  have q1 : w4.cell? ⟨w.heap.size, 1, none⟩ = some (.bool c) := by rw [Lib.cell_of_heap HH]; rfl
  have q2 : w4.cell? ⟨w.heap.size, 2, none⟩ = some (.int .i64 x) := by rw [Lib.cell_of_heap HH]; rfl
  have q3 : w4.cell? ⟨w.heap.size, 3, none⟩ = some (.int .i64 v) := by rw [Lib.cell_of_heap HH]; rfl
  have t1 : decide (x < 0) = false := decide_eq_false (by omega)
  have t2 : decide (1099511627776 < x) = true := decide_eq_true (by omega)
  clear h
  go_enter Tryd.func27, Tryd.ntmps27
  go_wp2_with fail
  refine (HG.out _).mono ?_
  rintro e w' ⟨rfl, rfl⟩
  go_wp2_with fail
  rw [← HW.out]
  have k1 : ∀ d' os, (grow (redrawn w4 d') os).cell? ⟨w.heap.size, 1, none⟩ = some (.bool c) := fun d' os => cell_regrown q1 d' os
  have k2 : ∀ d' os, (grow (redrawn w4 d') os).cell? ⟨w.heap.size, 2, none⟩ = some (.int .i64 x) := fun d' os => cell_regrown q2 d' os
  have k3 : ∀ d' os, (grow (redrawn w4 d') os).cell? ⟨w.heap.size, 3, none⟩ = some (.int .i64 v) := fun d' os => cell_regrown q3 d' os
  have c0 : ∀ d' os, Calls Tryd.prog 57 #[.agg #[]] (grow (redrawn w4 d') os) fun e w'' => e = .returned (.int .i64 0) ∧ ∃ p : Regrown, w'' = grow (redrawn w4 p.d) p.os := fun d' os => Calls.regrown_of (least_t _)
  refine wp_region_quiet_below (by kernel_rfl) (by kernel_rfl) ?_
  repeat (go_big_quiet_step (with_reducible exact c0 _ _))
  refine wpQuiet_nil ?_
  intro _ hw'
  obtain ⟨⟨dq, osq⟩, hw''⟩ := hw'
  subst hw''
  have hbq := below_regrown w4 dq osq
  have p1 := k1 dq osq
  have p2 := k2 dq osq
  generalize grow (redrawn w4 dq) osq = w5 at *
  clear k1 k2 k3 c0
  have hb5 : Below w.heap.size w w5 := hb4.trans (hbq.mono hb4.size)
  clear hbq hb4
  go_wp2_with fail
  go_ret
  exact ⟨rfl, by repeat' (first | (with_reducible assumption) | (with_reducible exact Below.refl _ _) | (with_reducible refine below_drewN ?_ _) | (with_reducible refine Below.drew ?_) | (with_reducible refine Below.alloc ?_ ?_ _) | (with_reducible refine Below.setCell ?_ ?_ _) | go_size)⟩
set_option maxRecDepth 100000 in
set_option maxHeartbeats 1000000 in
theorem mb_t2 (c : Bool) (x : Int) (v : Int) (w : World) (h0 : 0 ≤ x) (h1 : x ≤ 1099511627776) (h : v < 1) : Calls Tryd.prog 27 #[.agg #[.int .i64 3, .bool c, .int .i64 x, .int .i64 v]] w (NumPost (.bool false) w) := by
  have hm : ∀ w, (method 197 80 (.agg #[]) "archipelago/deeds.least").run Tryd.prog w = .ok (57, .agg #[]) w := fun _ => by kernel_rfl
  have G := agg_any 3
  rw [show aggV 3 = .tuple #[.iface 80 (.agg #[]), .bool true] from rfl] at G
  have HG := Lib.hid G
  clear G
  obtain ⟨w4, HW⟩ : ∃ w4, Hid (w4 = w.alloc (.cells #[.int .i64 3, .bool c, .int .i64 x, .int .i64 v] 25)) := ⟨_, Lib.hid rfl⟩
  have HH : w4.heap[w.heap.size]? = some (.cells #[.int .i64 3, .bool c, .int .i64 x, .int .i64 v] 25 (0, 0)) := by rw [HW.out]; exact heap_alloc_new _ _
  have hb4 : Below w.heap.size w w4 := by rw [HW.out]; exact (Below.refl _ _).alloc (Nat.le_refl _) _
  have q1 : w4.cell? ⟨w.heap.size, 1, none⟩ = some (.bool c) := by rw [Lib.cell_of_heap HH]; rfl
  have q2 : w4.cell? ⟨w.heap.size, 2, none⟩ = some (.int .i64 x) := by rw [Lib.cell_of_heap HH]; rfl
  have q3 : w4.cell? ⟨w.heap.size, 3, none⟩ = some (.int .i64 v) := by rw [Lib.cell_of_heap HH]; rfl
  have t1 : decide (x < 0) = false := decide_eq_false (by omega)
  have t2 : decide (1099511627776 < x) = false := decide_eq_false (by omega)
  have t3 : decide (v < 1) = true := decide_eq_true (by omega)
  clear h h0 h1
  go_enter Tryd.func27, Tryd.ntmps27
  go_wp2_with fail
  refine (HG.out _).mono ?_
  rintro e w' ⟨rfl, rfl⟩
  go_wp2_with fail
  rw [← HW.out]
  have k1 : ∀ d' os, (grow (redrawn w4 d') os).cell? ⟨w.heap.size, 1, none⟩ = some (.bool c) := fun d' os => cell_regrown q1 d' os
  have k2 : ∀ d' os, (grow (redrawn w4 d') os).cell? ⟨w.heap.size, 2, none⟩ = some (.int .i64 x) := fun d' os => cell_regrown q2 d' os
  have k3 : ∀ d' os, (grow (redrawn w4 d') os).cell? ⟨w.heap.size, 3, none⟩ = some (.int .i64 v) := fun d' os => cell_regrown q3 d' os
  have c0 : ∀ d' os, Calls Tryd.prog 57 #[.agg #[]] (grow (redrawn w4 d') os) fun e w'' => e = .returned (.int .i64 0) ∧ ∃ p : Regrown, w'' = grow (redrawn w4 p.d) p.os := fun d' os => Calls.regrown_of (least_t _)
  refine wp_region_quiet_below (by kernel_rfl) (by kernel_rfl) ?_
  repeat (go_big_quiet_step (with_reducible exact c0 _ _))
  refine wpQuiet_nil ?_
  intro _ hw'
  obtain ⟨⟨dq, osq⟩, hw''⟩ := hw'
  subst hw''
  have hbq := below_regrown w4 dq osq
  have p1 := k1 dq osq
  have p2 := k2 dq osq
  generalize grow (redrawn w4 dq) osq = w5 at *
  clear k1 k2 k3 c0
  have hb5 : Below w.heap.size w w5 := hb4.trans (hbq.mono hb4.size)
  clear hbq hb4
  go_wp2_with fail
  go_ret
  exact ⟨rfl, by repeat' (first | (with_reducible assumption) | (with_reducible exact Below.refl _ _) | (with_reducible refine below_drewN ?_ _) | (with_reducible refine Below.drew ?_) | (with_reducible refine Below.alloc ?_ ?_ _) | (with_reducible refine Below.setCell ?_ ?_ _) | go_size)⟩
set_option maxRecDepth 100000 in
set_option maxHeartbeats 1000000 in
theorem mb_t3 (c : Bool) (x : Int) (v : Int) (w : World) (h0 : 0 ≤ x) (h1 : x ≤ 1099511627776) (h : 1099511627776 < v) : Calls Tryd.prog 27 #[.agg #[.int .i64 3, .bool c, .int .i64 x, .int .i64 v]] w (NumPost (.bool false) w) := by
  have hm : ∀ w, (method 197 80 (.agg #[]) "archipelago/deeds.least").run Tryd.prog w = .ok (57, .agg #[]) w := fun _ => by kernel_rfl
  have G := agg_any 3
  rw [show aggV 3 = .tuple #[.iface 80 (.agg #[]), .bool true] from rfl] at G
  have HG := Lib.hid G
  clear G
  obtain ⟨w4, HW⟩ : ∃ w4, Hid (w4 = w.alloc (.cells #[.int .i64 3, .bool c, .int .i64 x, .int .i64 v] 25)) := ⟨_, Lib.hid rfl⟩
  have HH : w4.heap[w.heap.size]? = some (.cells #[.int .i64 3, .bool c, .int .i64 x, .int .i64 v] 25 (0, 0)) := by rw [HW.out]; exact heap_alloc_new _ _
  have hb4 : Below w.heap.size w w4 := by rw [HW.out]; exact (Below.refl _ _).alloc (Nat.le_refl _) _
  have q1 : w4.cell? ⟨w.heap.size, 1, none⟩ = some (.bool c) := by rw [Lib.cell_of_heap HH]; rfl
  have q2 : w4.cell? ⟨w.heap.size, 2, none⟩ = some (.int .i64 x) := by rw [Lib.cell_of_heap HH]; rfl
  have q3 : w4.cell? ⟨w.heap.size, 3, none⟩ = some (.int .i64 v) := by rw [Lib.cell_of_heap HH]; rfl
  have t1 : decide (x < 0) = false := decide_eq_false (by omega)
  have t2 : decide (1099511627776 < x) = false := decide_eq_false (by omega)
  have t3 : decide (v < 1) = false := decide_eq_false (by omega)
  have t4 : decide (1099511627776 < v) = true := decide_eq_true (by omega)
  clear h h0 h1
  go_enter Tryd.func27, Tryd.ntmps27
  go_wp2_with fail
  refine (HG.out _).mono ?_
  rintro e w' ⟨rfl, rfl⟩
  go_wp2_with fail
  rw [← HW.out]
  have k1 : ∀ d' os, (grow (redrawn w4 d') os).cell? ⟨w.heap.size, 1, none⟩ = some (.bool c) := fun d' os => cell_regrown q1 d' os
  have k2 : ∀ d' os, (grow (redrawn w4 d') os).cell? ⟨w.heap.size, 2, none⟩ = some (.int .i64 x) := fun d' os => cell_regrown q2 d' os
  have k3 : ∀ d' os, (grow (redrawn w4 d') os).cell? ⟨w.heap.size, 3, none⟩ = some (.int .i64 v) := fun d' os => cell_regrown q3 d' os
  have c0 : ∀ d' os, Calls Tryd.prog 57 #[.agg #[]] (grow (redrawn w4 d') os) fun e w'' => e = .returned (.int .i64 0) ∧ ∃ p : Regrown, w'' = grow (redrawn w4 p.d) p.os := fun d' os => Calls.regrown_of (least_t _)
  refine wp_region_quiet_below (by kernel_rfl) (by kernel_rfl) ?_
  repeat (go_big_quiet_step (with_reducible exact c0 _ _))
  refine wpQuiet_nil ?_
  intro _ hw'
  obtain ⟨⟨dq, osq⟩, hw''⟩ := hw'
  subst hw''
  have hbq := below_regrown w4 dq osq
  have p1 := k1 dq osq
  have p2 := k2 dq osq
  generalize grow (redrawn w4 dq) osq = w5 at *
  clear k1 k2 k3 c0
  have hb5 : Below w.heap.size w w5 := hb4.trans (hbq.mono hb4.size)
  clear hbq hb4
  go_wp2_with fail
  go_ret
  exact ⟨rfl, by repeat' (first | (with_reducible assumption) | (with_reducible exact Below.refl _ _) | (with_reducible refine below_drewN ?_ _) | (with_reducible refine Below.drew ?_) | (with_reducible refine Below.alloc ?_ ?_ _) | (with_reducible refine Below.setCell ?_ ?_ _) | go_size)⟩
set_option maxRecDepth 100000 in
set_option maxHeartbeats 1000000 in
theorem mb_t4 (x : Int) (v : Int) (w : World) (h0 : 0 ≤ x) (h1 : x ≤ 1099511627776) (h2 : 1 ≤ v) (h3 : v ≤ 1099511627776) : Calls Tryd.prog 27 #[.agg #[.int .i64 3, .bool false, .int .i64 x, .int .i64 v]] w (NumPost (.bool true) w) := by
  have hm : ∀ w, (method 197 80 (.agg #[]) "archipelago/deeds.least").run Tryd.prog w = .ok (57, .agg #[]) w := fun _ => by kernel_rfl
  have G := agg_any 3
  rw [show aggV 3 = .tuple #[.iface 80 (.agg #[]), .bool true] from rfl] at G
  have HG := Lib.hid G
  clear G
  obtain ⟨w4, HW⟩ : ∃ w4, Hid (w4 = w.alloc (.cells #[.int .i64 3, .bool false, .int .i64 x, .int .i64 v] 25)) := ⟨_, Lib.hid rfl⟩
  have HH : w4.heap[w.heap.size]? = some (.cells #[.int .i64 3, .bool false, .int .i64 x, .int .i64 v] 25 (0, 0)) := by rw [HW.out]; exact heap_alloc_new _ _
  have hb4 : Below w.heap.size w w4 := by rw [HW.out]; exact (Below.refl _ _).alloc (Nat.le_refl _) _
  have q1 : w4.cell? ⟨w.heap.size, 1, none⟩ = some (.bool false) := by rw [Lib.cell_of_heap HH]; rfl
  have q2 : w4.cell? ⟨w.heap.size, 2, none⟩ = some (.int .i64 x) := by rw [Lib.cell_of_heap HH]; rfl
  have q3 : w4.cell? ⟨w.heap.size, 3, none⟩ = some (.int .i64 v) := by rw [Lib.cell_of_heap HH]; rfl
  have t1 : decide (x < 0) = false := decide_eq_false (by omega)
  have t2 : decide (1099511627776 < x) = false := decide_eq_false (by omega)
  have t3 : decide (v < 1) = false := decide_eq_false (by omega)
  have t4 : decide (1099511627776 < v) = false := decide_eq_false (by omega)
  clear h0 h1 h2 h3
  go_enter Tryd.func27, Tryd.ntmps27
  go_wp2_with fail
  refine (HG.out _).mono ?_
  rintro e w' ⟨rfl, rfl⟩
  go_wp2_with fail
  rw [← HW.out]
  have k1 : ∀ d' os, (grow (redrawn w4 d') os).cell? ⟨w.heap.size, 1, none⟩ = some (.bool false) := fun d' os => cell_regrown q1 d' os
  have k2 : ∀ d' os, (grow (redrawn w4 d') os).cell? ⟨w.heap.size, 2, none⟩ = some (.int .i64 x) := fun d' os => cell_regrown q2 d' os
  have k3 : ∀ d' os, (grow (redrawn w4 d') os).cell? ⟨w.heap.size, 3, none⟩ = some (.int .i64 v) := fun d' os => cell_regrown q3 d' os
  have c0 : ∀ d' os, Calls Tryd.prog 57 #[.agg #[]] (grow (redrawn w4 d') os) fun e w'' => e = .returned (.int .i64 0) ∧ ∃ p : Regrown, w'' = grow (redrawn w4 p.d) p.os := fun d' os => Calls.regrown_of (least_t _)
  refine wp_region_quiet_below (by kernel_rfl) (by kernel_rfl) ?_
  repeat (go_big_quiet_step (with_reducible exact c0 _ _))
  refine wpQuiet_nil ?_
  intro _ hw'
  obtain ⟨⟨dq, osq⟩, hw''⟩ := hw'
  subst hw''
  have hbq := below_regrown w4 dq osq
  have p1 := k1 dq osq
  have p2 := k2 dq osq
  generalize grow (redrawn w4 dq) osq = w5 at *
  clear k1 k2 k3 c0
  have hb5 : Below w.heap.size w w5 := hb4.trans (hbq.mono hb4.size)
  clear hbq hb4
  go_wp2_with fail
  go_ret
  exact ⟨rfl, by repeat' (first | (with_reducible assumption) | (with_reducible exact Below.refl _ _) | (with_reducible refine below_drewN ?_ _) | (with_reducible refine Below.drew ?_) | (with_reducible refine Below.alloc ?_ ?_ _) | (with_reducible refine Below.setCell ?_ ?_ _) | go_size)⟩
set_option maxRecDepth 100000 in
set_option maxHeartbeats 1000000 in
theorem mb_t5 (v : Int) (w : World) (h2 : 1 ≤ v) (h3 : v ≤ 1099511627776) : Calls Tryd.prog 27 #[.agg #[.int .i64 3, .bool true, .int .i64 0, .int .i64 v]] w (NumPost (.bool true) w) := by
  have hm : ∀ w, (method 197 80 (.agg #[]) "archipelago/deeds.least").run Tryd.prog w = .ok (57, .agg #[]) w := fun _ => by kernel_rfl
  have G := agg_any 3
  rw [show aggV 3 = .tuple #[.iface 80 (.agg #[]), .bool true] from rfl] at G
  have HG := Lib.hid G
  clear G
  obtain ⟨w4, HW⟩ : ∃ w4, Hid (w4 = w.alloc (.cells #[.int .i64 3, .bool true, .int .i64 0, .int .i64 v] 25)) := ⟨_, Lib.hid rfl⟩
  have HH : w4.heap[w.heap.size]? = some (.cells #[.int .i64 3, .bool true, .int .i64 0, .int .i64 v] 25 (0, 0)) := by rw [HW.out]; exact heap_alloc_new _ _
  have hb4 : Below w.heap.size w w4 := by rw [HW.out]; exact (Below.refl _ _).alloc (Nat.le_refl _) _
  have q1 : w4.cell? ⟨w.heap.size, 1, none⟩ = some (.bool true) := by rw [Lib.cell_of_heap HH]; rfl
  have q2 : w4.cell? ⟨w.heap.size, 2, none⟩ = some (.int .i64 0) := by rw [Lib.cell_of_heap HH]; rfl
  have q3 : w4.cell? ⟨w.heap.size, 3, none⟩ = some (.int .i64 v) := by rw [Lib.cell_of_heap HH]; rfl
  have t3 : decide (v < 1) = false := decide_eq_false (by omega)
  have t4 : decide (1099511627776 < v) = false := decide_eq_false (by omega)
  clear h2 h3
  go_enter Tryd.func27, Tryd.ntmps27
  go_wp2_with fail
  refine (HG.out _).mono ?_
  rintro e w' ⟨rfl, rfl⟩
  go_wp2_with fail
  rw [← HW.out]
  have k1 : ∀ d' os, (grow (redrawn w4 d') os).cell? ⟨w.heap.size, 1, none⟩ = some (.bool true) := fun d' os => cell_regrown q1 d' os
  have k2 : ∀ d' os, (grow (redrawn w4 d') os).cell? ⟨w.heap.size, 2, none⟩ = some (.int .i64 0) := fun d' os => cell_regrown q2 d' os
  have k3 : ∀ d' os, (grow (redrawn w4 d') os).cell? ⟨w.heap.size, 3, none⟩ = some (.int .i64 v) := fun d' os => cell_regrown q3 d' os
  have c0 : ∀ d' os, Calls Tryd.prog 57 #[.agg #[]] (grow (redrawn w4 d') os) fun e w'' => e = .returned (.int .i64 0) ∧ ∃ p : Regrown, w'' = grow (redrawn w4 p.d) p.os := fun d' os => Calls.regrown_of (least_t _)
  refine wp_region_quiet_below (by kernel_rfl) (by kernel_rfl) ?_
  repeat (go_big_quiet_step (with_reducible exact c0 _ _))
  refine wpQuiet_nil ?_
  intro _ hw'
  obtain ⟨⟨dq, osq⟩, hw''⟩ := hw'
  subst hw''
  have hbq := below_regrown w4 dq osq
  have p1 := k1 dq osq
  have p2 := k2 dq osq
  generalize grow (redrawn w4 dq) osq = w5 at *
  clear k1 k2 k3 c0
  have hb5 : Below w.heap.size w w5 := hb4.trans (hbq.mono hb4.size)
  clear hbq hb4
  go_wp2_with fail
  go_ret
  exact ⟨rfl, by repeat' (first | (with_reducible assumption) | (with_reducible exact Below.refl _ _) | (with_reducible refine below_drewN ?_ _) | (with_reducible refine Below.drew ?_) | (with_reducible refine Below.alloc ?_ ?_ _) | (with_reducible refine Below.setCell ?_ ?_ _) | go_size)⟩
set_option maxRecDepth 100000 in
set_option maxHeartbeats 1000000 in
theorem mb_t6 (x : Int) (v : Int) (w : World) (h0 : 0 ≤ x) (h1 : x ≤ 1099511627776) (h2 : 1 ≤ v) (h3 : v ≤ 1099511627776) (hx : (x == 0) = false) : Calls Tryd.prog 27 #[.agg #[.int .i64 3, .bool true, .int .i64 x, .int .i64 v]] w (NumPost (.bool false) w) := by
  have hm : ∀ w, (method 197 80 (.agg #[]) "archipelago/deeds.least").run Tryd.prog w = .ok (57, .agg #[]) w := fun _ => by kernel_rfl
  have G := agg_any 3
  rw [show aggV 3 = .tuple #[.iface 80 (.agg #[]), .bool true] from rfl] at G
  have HG := Lib.hid G
  clear G
  obtain ⟨w4, HW⟩ : ∃ w4, Hid (w4 = w.alloc (.cells #[.int .i64 3, .bool true, .int .i64 x, .int .i64 v] 25)) := ⟨_, Lib.hid rfl⟩
  have HH : w4.heap[w.heap.size]? = some (.cells #[.int .i64 3, .bool true, .int .i64 x, .int .i64 v] 25 (0, 0)) := by rw [HW.out]; exact heap_alloc_new _ _
  have hb4 : Below w.heap.size w w4 := by rw [HW.out]; exact (Below.refl _ _).alloc (Nat.le_refl _) _
  have q1 : w4.cell? ⟨w.heap.size, 1, none⟩ = some (.bool true) := by rw [Lib.cell_of_heap HH]; rfl
  have q2 : w4.cell? ⟨w.heap.size, 2, none⟩ = some (.int .i64 x) := by rw [Lib.cell_of_heap HH]; rfl
  have q3 : w4.cell? ⟨w.heap.size, 3, none⟩ = some (.int .i64 v) := by rw [Lib.cell_of_heap HH]; rfl
  have t1 : decide (x < 0) = false := decide_eq_false (by omega)
  have t2 : decide (1099511627776 < x) = false := decide_eq_false (by omega)
  have t3 : decide (v < 1) = false := decide_eq_false (by omega)
  have t4 : decide (1099511627776 < v) = false := decide_eq_false (by omega)
  clear h0 h1 h2 h3
  go_enter Tryd.func27, Tryd.ntmps27
  go_wp2_with fail
  refine (HG.out _).mono ?_
  rintro e w' ⟨rfl, rfl⟩
  go_wp2_with fail
  rw [← HW.out]
  have k1 : ∀ d' os, (grow (redrawn w4 d') os).cell? ⟨w.heap.size, 1, none⟩ = some (.bool true) := fun d' os => cell_regrown q1 d' os
  have k2 : ∀ d' os, (grow (redrawn w4 d') os).cell? ⟨w.heap.size, 2, none⟩ = some (.int .i64 x) := fun d' os => cell_regrown q2 d' os
  have k3 : ∀ d' os, (grow (redrawn w4 d') os).cell? ⟨w.heap.size, 3, none⟩ = some (.int .i64 v) := fun d' os => cell_regrown q3 d' os
  have c0 : ∀ d' os, Calls Tryd.prog 57 #[.agg #[]] (grow (redrawn w4 d') os) fun e w'' => e = .returned (.int .i64 0) ∧ ∃ p : Regrown, w'' = grow (redrawn w4 p.d) p.os := fun d' os => Calls.regrown_of (least_t _)
  refine wp_region_quiet_below (by kernel_rfl) (by kernel_rfl) ?_
  repeat (go_big_quiet_step (with_reducible exact c0 _ _))
  refine wpQuiet_nil ?_
  intro _ hw'
  obtain ⟨⟨dq, osq⟩, hw''⟩ := hw'
  subst hw''
  have hbq := below_regrown w4 dq osq
  have p1 := k1 dq osq
  have p2 := k2 dq osq
  generalize grow (redrawn w4 dq) osq = w5 at *
  clear k1 k2 k3 c0
  have hb5 : Below w.heap.size w w5 := hb4.trans (hbq.mono hb4.size)
  clear hbq hb4
  go_wp2_with fail
  go_ret
  exact ⟨rfl, by repeat' (first | (with_reducible assumption) | (with_reducible exact Below.refl _ _) | (with_reducible refine below_drewN ?_ _) | (with_reducible refine Below.drew ?_) | (with_reducible refine Below.alloc ?_ ?_ _) | (with_reducible refine Below.setCell ?_ ?_ _) | go_size)⟩
end Go.Proofs.YtafhjlfnhgkcoaaDoor
