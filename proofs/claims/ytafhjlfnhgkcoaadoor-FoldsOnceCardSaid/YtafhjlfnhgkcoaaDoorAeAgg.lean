/-
  What is of a tag's own: aggregateOf, least and behind of counter, purse and tally.
-/
import Derived.Test.YtafhjlfnhgkcoaaDoorAeMath
import Derived.Test.YtafhjlfnhgkcoaaDoorAeCheck
import Derived.Deep.RegionHeld3
import Derived.Deep.RegionWith
import Derived.Laws.ResultCell
import Derived.Deep.QuietTactic
namespace Go.Proofs.YtafhjlfnhgkcoaaDoor
open Go.RowKit
theorem least_c (w : World) : Calls Tryd.prog 53 #[.agg #[]] w (NumPost (.int .i64 (-1099511627776)) w) := by
  go_enter Tryd.func53, Tryd.ntmps53
  go_wp2_with fail
  go_ret
  exact ⟨rfl, (Below.refl _ _).alloc (Nat.le_refl _) _⟩
theorem least_p (w : World) : Calls Tryd.prog 55 #[.agg #[]] w (NumPost (.int .i64 0) w) := by
  go_enter Tryd.func55, Tryd.ntmps55
  go_wp2_with fail
  go_ret
  exact ⟨rfl, (Below.refl _ _).alloc (Nat.le_refl _) _⟩
theorem least_t (w : World) : Calls Tryd.prog 57 #[.agg #[]] w (NumPost (.int .i64 0) w) := by
  go_enter Tryd.func57, Tryd.ntmps57
  go_wp2_with fail
  go_ret
  exact ⟨rfl, (Below.refl _ _).alloc (Nat.le_refl _) _⟩
/-- What aggregateOf tells of a tag. -/
def aggV (t : Int) : Value := if t = 1 then .tuple #[.iface 77 (.agg #[]), .bool true] else if t = 2 then .tuple #[.iface 79 (.agg #[]), .bool true] else
  if t = 3 then .tuple #[.iface 80 (.agg #[]), .bool true] else .tuple #[.nilIface, .bool false]
theorem agg_any (t : Int) (w : World) : Calls Tryd.prog 33 #[.int .i64 t] w (fun e w' => e = .returned (aggV t) ∧ w = w') := by
  by_cases h1 : t = 1
  · subst h1
    go_enter Tryd.func33, Tryd.ntmps33
    go_wp2_with fail
    go_ret2
    exact ⟨rfl, rfl⟩
  by_cases h2 : t = 2
  · subst h2
    go_enter Tryd.func33, Tryd.ntmps33
    go_wp2_with fail
    go_ret2
    exact ⟨rfl, rfl⟩
  by_cases h3 : t = 3
  · subst h3
    go_enter Tryd.func33, Tryd.ntmps33
    go_wp2_with fail
    go_ret2
    exact ⟨rfl, rfl⟩
  have u1 : (t == 1) = false := by simp [h1]
  have u2 : (t == 2) = false := by simp [h2]
  have u3 : (t == 3) = false := by simp [h3]
  have hv : aggV t = .tuple #[.nilIface, .bool false] := by unfold aggV; rw [if_neg h1, if_neg h2, if_neg h3]
  rw [hv]
  clear hv h1 h2 h3
  go_enter Tryd.func33, Tryd.ntmps33
  go_wp2_with fail
  go_ret2
  exact ⟨rfl, rfl⟩
/-- What a tag's behind leaves: an event that may not come may leave any Sum. -/
def BehPost (s : St) (ok : Bool) (n : St) (w : World) (e : Ending) (w' : World) : Prop :=
  ∃ s' : St, e = .returned (.tuple #[s'.v, .bool ok]) ∧ (ok = true → s' = n) ∧ s'.ver = s.ver ∧ Below w.heap.size w w'
/-- The state behind an event, but for its Version. -/
def half (s : St) (e : Ev) : St := ⟨s.tag, if e.k = 4 then true else s.cl, if e.k = 2 then s.sum + e.a else if e.k = 3 then s.sum - e.a else s.sum, s.ver⟩
/-- What a counter lets come. -/
def letC (s : St) (e : Ev) : Bool := decide ((e.k = 2 ∧ 1 ≤ e.a ∧ s.sum + e.a ≤ 1099511627776) ∨ (e.k = 3 ∧ 1 ≤ e.a ∧ -1099511627776 ≤ s.sum - e.a) ∨ (e.k = 4 ∧ s.sum = 0 ∧ e.a = 0))
theorem bcell {W w1 : World} (hb : Below W.heap.size W w1) : (∀ b o, b < W.heap.size → w1.cell? ⟨b, o, none⟩ = W.cell? ⟨b, o, none⟩) ∧ (∀ b o, b < W.heap.size → w1.frozen? ⟨b, o, none⟩ = W.frozen? ⟨b, o, none⟩) :=
  ⟨fun b o h => hb.cell (p := ⟨b, o, none⟩) h, fun b o h => hb.frozen (p := ⟨b, o, none⟩) h⟩
theorem results_row_tmp {P : Program} {fn : Func} {p u : Tmp} {ty : TypeId} (h : fn.results = #[.cell p ty, .tmp u]) (tmps : Array Value) (w : World) (g : Nat) (t : TypeId) (cs : Array Value) (fr : Nat × Nat) (d : TypeDesc)
    (hp : tmps.getD p undef = .pointer (some ⟨g, 0, none⟩)) (hg : w.heap[g]? = some (.cells cs t fr))
    (hu : P.underlying ty = some d) (hd : (match d with | .struct _ | .array _ _ => true | _ => false) = true) (hi : (P.info? ty).map (·.size) = some cs.size) :
    (results fn tmps).run P w = .ok (.tuple #[.agg cs, tmps.getD u undef]) w := by
  rw [results_cell_tmp h, hp]
  simp [asAddr, Result.andThen, run_loadVar_row w g t ty cs fr d hg hu hd hi]
/-- Four blocks that a call lays: the receiver's, the state's, the event's, the result's. -/
theorem four_blocks {w w4 : World} {r s e n : Array Value} {tr ts te tn : TypeId} (h : w4 = (((w.alloc (.cells r tr)).alloc (.cells s ts)).alloc (.cells e te)).alloc (.cells n tn)) :
    w4.heap.size = w.heap.size + 1 + 1 + 1 + 1 ∧ Below w.heap.size w w4 ∧ w4.heap[w.heap.size + 1]? = some (.cells s ts (0, 0)) ∧ w4.heap[w.heap.size + 1 + 1]? = some (.cells e te (0, 0)) ∧ w4.heap[w.heap.size + 1 + 1 + 1]? = some (.cells n tn (0, 0)) := by
  subst h
  refine ⟨by simp, ((((Below.refl _ _).alloc (Nat.le_refl _) _).alloc (by simp) _).alloc (by simp; omega) _).alloc (by simp; omega) _, ?_, ?_, ?_⟩
  all_goals
    show ((((w.heap.push _).push _).push _).push _)[_]? = _
    simp [Array.getElem_push]
set_option maxRecDepth 100000 in
set_option maxHeartbeats 1000000 in
theorem cnt_add (t : Int) (c : Bool) (x v a : Int) (w : World) (h0 : -1099511627776 ≤ x) (h1 : x ≤ 1099511627776) (h : 1 ≤ a ∧ x + a ≤ 1099511627776) :
    Calls Tryd.prog 52 #[.agg #[], .agg #[.int .i64 t, .bool c, .int .i64 x, .int .i64 v], .agg #[.int .i64 2, .int .i64 a]] w (NumPost (.tuple #[.agg #[.int .i64 t, .bool c, .int .i64 (x + a), .int .i64 v], .bool true]) w) := by
  obtain ⟨h2, h3⟩ := h
  have t1 : decide (1 ≤ a) = true := decide_eq_true (by omega)
  have t2 : decide (a ≤ 1099511627776 - x) = true := decide_eq_true (by omega)
  go_enter Tryd.func52, Tryd.ntmps52
  go_wp2_with fail
  (try simp only [Exit.inBlock, Exit.then]); refine bodyPost_ret (v := .tuple #[.agg #[.int .i64 t, .bool c, .int .i64 (x + a), .int .i64 v], .bool true]) (by rw [results_cell_tmp rfl]; go_simp) rfl ?_
  exact ⟨rfl, by repeat' (first | (with_reducible assumption) | (with_reducible exact Below.refl _ _) | (with_reducible refine below_drewN ?_ _) | (with_reducible refine Below.alloc ?_ ?_ _) | (with_reducible refine Below.setCell ?_ ?_ _) | go_size)⟩
set_option maxRecDepth 100000 in
set_option maxHeartbeats 1000000 in
theorem cnt_add0 (t : Int) (c : Bool) (x v a : Int) (w : World) (h : a < 1) :
    Calls Tryd.prog 52 #[.agg #[], .agg #[.int .i64 t, .bool c, .int .i64 x, .int .i64 v], .agg #[.int .i64 2, .int .i64 a]] w (NumPost (.tuple #[.agg #[.int .i64 t, .bool c, .int .i64 (wrap64 (x + a)), .int .i64 v], .bool false]) w) := by
  have t1 : decide (1 ≤ a) = false := decide_eq_false (by omega)
  clear h
  go_enter Tryd.func52, Tryd.ntmps52
  go_wp2_with fail
  (try simp only [Exit.inBlock, Exit.then]); refine bodyPost_ret (v := .tuple #[.agg #[.int .i64 t, .bool c, .int .i64 (wrap64 (x + a)), .int .i64 v], .bool false]) (by rw [results_cell_tmp rfl]; go_simp) rfl ?_
  exact ⟨rfl, by repeat' (first | (with_reducible assumption) | (with_reducible exact Below.refl _ _) | (with_reducible refine below_drewN ?_ _) | (with_reducible refine Below.alloc ?_ ?_ _) | (with_reducible refine Below.setCell ?_ ?_ _) | go_size)⟩
set_option maxRecDepth 100000 in
set_option maxHeartbeats 1000000 in
theorem cnt_add1 (t : Int) (c : Bool) (x v a : Int) (w : World) (h0 : -1099511627776 ≤ x) (h1 : x ≤ 1099511627776) (h : 1 ≤ a ∧ 1099511627776 < x + a) :
    Calls Tryd.prog 52 #[.agg #[], .agg #[.int .i64 t, .bool c, .int .i64 x, .int .i64 v], .agg #[.int .i64 2, .int .i64 a]] w (NumPost (.tuple #[.agg #[.int .i64 t, .bool c, .int .i64 (wrap64 (x + a)), .int .i64 v], .bool false]) w) := by
  obtain ⟨h2, h3⟩ := h
  have t1 : decide (1 ≤ a) = true := decide_eq_true (by omega)
  have t2 : decide (a ≤ 1099511627776 - x) = false := decide_eq_false (by omega)
  clear h2 h3
  go_enter Tryd.func52, Tryd.ntmps52
  go_wp2_with fail
  (try simp only [Exit.inBlock, Exit.then]); refine bodyPost_ret (v := .tuple #[.agg #[.int .i64 t, .bool c, .int .i64 (wrap64 (x + a)), .int .i64 v], .bool false]) (by rw [results_cell_tmp rfl]; go_simp) rfl ?_
  exact ⟨rfl, by repeat' (first | (with_reducible assumption) | (with_reducible exact Below.refl _ _) | (with_reducible refine below_drewN ?_ _) | (with_reducible refine Below.alloc ?_ ?_ _) | (with_reducible refine Below.setCell ?_ ?_ _) | go_size)⟩
set_option maxRecDepth 100000 in
set_option maxHeartbeats 1000000 in
theorem cnt_take0 (t : Int) (c : Bool) (x v a : Int) (w : World) (h : a < 1) :
    Calls Tryd.prog 52 #[.agg #[], .agg #[.int .i64 t, .bool c, .int .i64 x, .int .i64 v], .agg #[.int .i64 3, .int .i64 a]] w (NumPost (.tuple #[.agg #[.int .i64 t, .bool c, .int .i64 (wrap64 (x - a)), .int .i64 v], .bool false]) w) := by
  have t1 : decide (1 ≤ a) = false := decide_eq_false (by omega)
  clear h
  obtain ⟨w4, HW⟩ : ∃ w4, Hid (w4 = (((w.alloc (.cells #[] 77)).alloc (.cells #[.int .i64 t, .bool c, .int .i64 x, .int .i64 v] 25)).alloc (.cells #[.int .i64 3, .int .i64 a] 35)).alloc (.cells #[.int .i64 t, .bool c, .int .i64 x, .int .i64 v] 25)) := ⟨_, Lib.hid rfl⟩
  obtain ⟨hz4, hb4, hs4, he4, hn4⟩ := four_blocks HW.out
  go_enter Tryd.func52, Tryd.ntmps52
  go_wp2_with fail
  rw [← HW.out]
  have q0 : w4.cell? ⟨w.heap.size + 1, 2, none⟩ = some (.int .i64 x) := by rw [Lib.cell_of_heap hs4]; rfl
  have q1 : w4.cell? ⟨w.heap.size + 1 + 1, 1, none⟩ = some (.int .i64 a) := by rw [Lib.cell_of_heap he4]; rfl
  go_quiet (fail)
  obtain ⟨w5, HD⟩ : ∃ w5, Hid (w5 = w4.drewN nq) := ⟨_, Lib.hid rfl⟩
  have HN : w5.heap[(w.heap.size + 1 + 1 + 1)]? = some (.cells #[.int .i64 t, .bool c, .int .i64 x, .int .i64 v] 25 (0, 0)) := by rw [HD.out]; exact hn4
  have HE : w5.heap[w.heap.size + 1 + 1]? = some (.cells #[.int .i64 3, .int .i64 a] 35 (0, 0)) := by rw [HD.out]; exact he4
  have hb5 : Below w.heap.size w w5 := by rw [HD.out]; exact below_drewN hb4 _
  rw [← HD.out]
  have q2 : w5.cell? ⟨w.heap.size + 1 + 1, 1, none⟩ = some (.int .i64 a) := by rw [Lib.cell_of_heap HE]; rfl
  have r0 : w5.cell? ⟨w.heap.size + 1 + 1 + 1, 0, none⟩ = some (.int .i64 t) := by rw [Lib.cell_of_heap HN]; rfl
  have r1 : w5.cell? ⟨w.heap.size + 1 + 1 + 1, 1, none⟩ = some (.bool c) := by rw [Lib.cell_of_heap HN]; rfl
  have r2 : w5.cell? ⟨w.heap.size + 1 + 1 + 1, 2, none⟩ = some (.int .i64 x) := by rw [Lib.cell_of_heap HN]; rfl
  have r3 : w5.cell? ⟨w.heap.size + 1 + 1 + 1, 3, none⟩ = some (.int .i64 v) := by rw [Lib.cell_of_heap HN]; rfl
  have f0 : ∀ i, w5.frozen? ⟨w.heap.size + 1 + 1 + 1, i, none⟩ = false := fun i => Lib.frozen_of_heap HN i
  go_wp2_with fail
  (try simp only [Exit.inBlock, Exit.then]); refine bodyPost_ret (results_row_tmp rfl _ _ (w.heap.size + 1 + 1 + 1) 25 #[.int .i64 t, .bool c, .int .i64 (wrap64 (x - a)), .int .i64 v] (0, 0) _ rfl (heap_setCell_same _ _ 3 _ _ _ (heap_setCell_same _ _ 2 _ _ _ (heap_setCell_same _ _ 1 _ _ _ (heap_setCell_same _ _ 0 _ _ _ (heap_setCell_same _ _ 2 _ _ _ HN))))) Tryd.underlying25 rfl (by kernel_rfl)) rfl ?_
  exact ⟨rfl, by repeat' (first | (with_reducible assumption) | (with_reducible exact Below.refl _ _) | (with_reducible refine below_drewN ?_ _) | (with_reducible refine Below.alloc ?_ ?_ _) | (with_reducible refine Below.setCell ?_ ?_ _) | go_size)⟩
set_option maxRecDepth 100000 in
set_option maxHeartbeats 1000000 in
theorem cnt_take (t : Int) (c : Bool) (x v a : Int) (w : World) (h0 : -1099511627776 ≤ x) (h1 : x ≤ 1099511627776) (h : 1 ≤ a ∧ -1099511627776 ≤ x - a) :
    Calls Tryd.prog 52 #[.agg #[], .agg #[.int .i64 t, .bool c, .int .i64 x, .int .i64 v], .agg #[.int .i64 3, .int .i64 a]] w (NumPost (.tuple #[.agg #[.int .i64 t, .bool c, .int .i64 (x - a), .int .i64 v], .bool true]) w) := by
  obtain ⟨h2, h3⟩ := h
  have t1 : decide (1 ≤ a) = true := decide_eq_true (by omega)
  have tw : IntKind.i64.wrap (x + 1099511627776) = x + 1099511627776 := IntWalk.i64_in _ (by omega)
  have t2 : decide (a ≤ x + 1099511627776) = true := decide_eq_true (by omega)
  obtain ⟨w4, HW⟩ : ∃ w4, Hid (w4 = (((w.alloc (.cells #[] 77)).alloc (.cells #[.int .i64 t, .bool c, .int .i64 x, .int .i64 v] 25)).alloc (.cells #[.int .i64 3, .int .i64 a] 35)).alloc (.cells #[.int .i64 t, .bool c, .int .i64 x, .int .i64 v] 25)) := ⟨_, Lib.hid rfl⟩
  obtain ⟨hz4, hb4, hs4, he4, hn4⟩ := four_blocks HW.out
  go_enter Tryd.func52, Tryd.ntmps52
  go_wp2_with fail
  rw [← HW.out]
  have q0 : w4.cell? ⟨w.heap.size + 1, 2, none⟩ = some (.int .i64 x) := by rw [Lib.cell_of_heap hs4]; rfl
  have q1 : w4.cell? ⟨w.heap.size + 1 + 1, 1, none⟩ = some (.int .i64 a) := by rw [Lib.cell_of_heap he4]; rfl
  go_region_held3 (fun X => X.cell? ⟨w.heap.size + 1, 2, none⟩ = some (.int .i64 x) ∧ X.cell? ⟨w.heap.size + 1 + 1, 1, none⟩ = some (.int .i64 a)) (go_keep) ((go_at_call 53; (refine (least_c _).mono ?_); rintro e w5 ⟨rfl, hb⟩; obtain ⟨hc, hf⟩ := bcell hb))
  have HN : w5.heap[w.heap.size + 1 + 1 + 1]? = some (.cells #[.int .i64 t, .bool c, .int .i64 x, .int .i64 v] 25 (0, 0)) := (hb.block _ (by simp; omega)).trans hn4
  have HE : w5.heap[w.heap.size + 1 + 1]? = some (.cells #[.int .i64 3, .int .i64 a] 35 (0, 0)) := (hb.block _ (by simp; omega)).trans he4
  have hb5 : Below w.heap.size w w5 := (below_drewN hb4 1).trans (hb.mono (by simp; omega))
  clear hc hf hb
  have q2 : w5.cell? ⟨w.heap.size + 1 + 1, 1, none⟩ = some (.int .i64 a) := by rw [Lib.cell_of_heap HE]; rfl
  have r0 : w5.cell? ⟨w.heap.size + 1 + 1 + 1, 0, none⟩ = some (.int .i64 t) := by rw [Lib.cell_of_heap HN]; rfl
  have r1 : w5.cell? ⟨w.heap.size + 1 + 1 + 1, 1, none⟩ = some (.bool c) := by rw [Lib.cell_of_heap HN]; rfl
  have r2 : w5.cell? ⟨w.heap.size + 1 + 1 + 1, 2, none⟩ = some (.int .i64 x) := by rw [Lib.cell_of_heap HN]; rfl
  have r3 : w5.cell? ⟨w.heap.size + 1 + 1 + 1, 3, none⟩ = some (.int .i64 v) := by rw [Lib.cell_of_heap HN]; rfl
  have f0 : ∀ i, w5.frozen? ⟨w.heap.size + 1 + 1 + 1, i, none⟩ = false := fun i => Lib.frozen_of_heap HN i
  go_wp2_with fail
  (try simp only [Exit.inBlock, Exit.then]); refine bodyPost_ret (results_row_tmp rfl _ _ (w.heap.size + 1 + 1 + 1) 25 #[.int .i64 t, .bool c, .int .i64 (x - a), .int .i64 v] (0, 0) _ rfl (heap_setCell_same _ _ 3 _ _ _ (heap_setCell_same _ _ 2 _ _ _ (heap_setCell_same _ _ 1 _ _ _ (heap_setCell_same _ _ 0 _ _ _ (heap_setCell_same _ _ 2 _ _ _ HN))))) Tryd.underlying25 rfl (by kernel_rfl)) rfl ?_
  exact ⟨rfl, by repeat' (first | (with_reducible assumption) | (with_reducible exact Below.refl _ _) | (with_reducible refine below_drewN ?_ _) | (with_reducible refine Below.alloc ?_ ?_ _) | (with_reducible refine Below.setCell ?_ ?_ _) | go_size)⟩
set_option maxRecDepth 100000 in
set_option maxHeartbeats 1000000 in
theorem cnt_take1 (t : Int) (c : Bool) (x v a : Int) (w : World) (h0 : -1099511627776 ≤ x) (h1 : x ≤ 1099511627776) (h : 1 ≤ a ∧ x - a < -1099511627776) :
    Calls Tryd.prog 52 #[.agg #[], .agg #[.int .i64 t, .bool c, .int .i64 x, .int .i64 v], .agg #[.int .i64 3, .int .i64 a]] w (NumPost (.tuple #[.agg #[.int .i64 t, .bool c, .int .i64 (wrap64 (x - a)), .int .i64 v], .bool false]) w) := by
  obtain ⟨h2, h3⟩ := h
  have t1 : decide (1 ≤ a) = true := decide_eq_true (by omega)
  have tw : IntKind.i64.wrap (x + 1099511627776) = x + 1099511627776 := IntWalk.i64_in _ (by omega)
  have t2 : decide (a ≤ x + 1099511627776) = false := decide_eq_false (by omega)
  clear h2 h3
  obtain ⟨w4, HW⟩ : ∃ w4, Hid (w4 = (((w.alloc (.cells #[] 77)).alloc (.cells #[.int .i64 t, .bool c, .int .i64 x, .int .i64 v] 25)).alloc (.cells #[.int .i64 3, .int .i64 a] 35)).alloc (.cells #[.int .i64 t, .bool c, .int .i64 x, .int .i64 v] 25)) := ⟨_, Lib.hid rfl⟩
  obtain ⟨hz4, hb4, hs4, he4, hn4⟩ := four_blocks HW.out
  go_enter Tryd.func52, Tryd.ntmps52
  go_wp2_with fail
  rw [← HW.out]
  have q0 : w4.cell? ⟨w.heap.size + 1, 2, none⟩ = some (.int .i64 x) := by rw [Lib.cell_of_heap hs4]; rfl
  have q1 : w4.cell? ⟨w.heap.size + 1 + 1, 1, none⟩ = some (.int .i64 a) := by rw [Lib.cell_of_heap he4]; rfl
  go_region_held3 (fun X => X.cell? ⟨w.heap.size + 1, 2, none⟩ = some (.int .i64 x) ∧ X.cell? ⟨w.heap.size + 1 + 1, 1, none⟩ = some (.int .i64 a)) (go_keep) ((go_at_call 53; (refine (least_c _).mono ?_); rintro e w5 ⟨rfl, hb⟩; obtain ⟨hc, hf⟩ := bcell hb))
  have HN : w5.heap[w.heap.size + 1 + 1 + 1]? = some (.cells #[.int .i64 t, .bool c, .int .i64 x, .int .i64 v] 25 (0, 0)) := (hb.block _ (by simp; omega)).trans hn4
  have HE : w5.heap[w.heap.size + 1 + 1]? = some (.cells #[.int .i64 3, .int .i64 a] 35 (0, 0)) := (hb.block _ (by simp; omega)).trans he4
  have hb5 : Below w.heap.size w w5 := (below_drewN hb4 1).trans (hb.mono (by simp; omega))
  clear hc hf hb
  have q2 : w5.cell? ⟨w.heap.size + 1 + 1, 1, none⟩ = some (.int .i64 a) := by rw [Lib.cell_of_heap HE]; rfl
  have r0 : w5.cell? ⟨w.heap.size + 1 + 1 + 1, 0, none⟩ = some (.int .i64 t) := by rw [Lib.cell_of_heap HN]; rfl
  have r1 : w5.cell? ⟨w.heap.size + 1 + 1 + 1, 1, none⟩ = some (.bool c) := by rw [Lib.cell_of_heap HN]; rfl
  have r2 : w5.cell? ⟨w.heap.size + 1 + 1 + 1, 2, none⟩ = some (.int .i64 x) := by rw [Lib.cell_of_heap HN]; rfl
  have r3 : w5.cell? ⟨w.heap.size + 1 + 1 + 1, 3, none⟩ = some (.int .i64 v) := by rw [Lib.cell_of_heap HN]; rfl
  have f0 : ∀ i, w5.frozen? ⟨w.heap.size + 1 + 1 + 1, i, none⟩ = false := fun i => Lib.frozen_of_heap HN i
  go_wp2_with fail
  (try simp only [Exit.inBlock, Exit.then]); refine bodyPost_ret (results_row_tmp rfl _ _ (w.heap.size + 1 + 1 + 1) 25 #[.int .i64 t, .bool c, .int .i64 (wrap64 (x - a)), .int .i64 v] (0, 0) _ rfl (heap_setCell_same _ _ 3 _ _ _ (heap_setCell_same _ _ 2 _ _ _ (heap_setCell_same _ _ 1 _ _ _ (heap_setCell_same _ _ 0 _ _ _ (heap_setCell_same _ _ 2 _ _ _ HN))))) Tryd.underlying25 rfl (by kernel_rfl)) rfl ?_
  exact ⟨rfl, by repeat' (first | (with_reducible assumption) | (with_reducible exact Below.refl _ _) | (with_reducible refine below_drewN ?_ _) | (with_reducible refine Below.alloc ?_ ?_ _) | (with_reducible refine Below.setCell ?_ ?_ _) | go_size)⟩
set_option maxRecDepth 100000 in
set_option maxHeartbeats 1000000 in
theorem cnt_close (t : Int) (c : Bool) (x v a : Int) (w : World) (ha : a = 0) (hx : x = 0) :
    Calls Tryd.prog 52 #[.agg #[], .agg #[.int .i64 t, .bool c, .int .i64 x, .int .i64 v], .agg #[.int .i64 4, .int .i64 a]] w (NumPost (.tuple #[.agg #[.int .i64 t, .bool true, .int .i64 0, .int .i64 v], .bool true]) w) := by
  subst ha hx
  go_enter Tryd.func52, Tryd.ntmps52
  go_wp2_with fail
  (try simp only [Exit.inBlock, Exit.then]); refine bodyPost_ret (v := .tuple #[.agg #[.int .i64 t, .bool true, .int .i64 0, .int .i64 v], .bool true]) (by rw [results_cell_tmp rfl]; go_simp) rfl ?_
  exact ⟨rfl, by repeat' (first | (with_reducible assumption) | (with_reducible exact Below.refl _ _) | (with_reducible refine below_drewN ?_ _) | (with_reducible refine Below.alloc ?_ ?_ _) | (with_reducible refine Below.setCell ?_ ?_ _) | go_size)⟩
set_option maxRecDepth 100000 in
set_option maxHeartbeats 1000000 in
theorem cnt_close0 (t : Int) (c : Bool) (x v a : Int) (w : World) (ha : (a == 0) = false) :
    Calls Tryd.prog 52 #[.agg #[], .agg #[.int .i64 t, .bool c, .int .i64 x, .int .i64 v], .agg #[.int .i64 4, .int .i64 a]] w (NumPost (.tuple #[.agg #[.int .i64 t, .bool true, .int .i64 x, .int .i64 v], .bool false]) w) := by
  go_enter Tryd.func52, Tryd.ntmps52
  go_wp2_with fail
  (try simp only [Exit.inBlock, Exit.then]); refine bodyPost_ret (v := .tuple #[.agg #[.int .i64 t, .bool true, .int .i64 x, .int .i64 v], .bool false]) (by rw [results_cell_tmp rfl]; go_simp) rfl ?_
  exact ⟨rfl, by repeat' (first | (with_reducible assumption) | (with_reducible exact Below.refl _ _) | (with_reducible refine below_drewN ?_ _) | (with_reducible refine Below.alloc ?_ ?_ _) | (with_reducible refine Below.setCell ?_ ?_ _) | go_size)⟩
set_option maxRecDepth 100000 in
set_option maxHeartbeats 1000000 in
theorem cnt_close1 (t : Int) (c : Bool) (x v a : Int) (w : World) (ha : a = 0) (hx : (x == 0) = false) :
    Calls Tryd.prog 52 #[.agg #[], .agg #[.int .i64 t, .bool c, .int .i64 x, .int .i64 v], .agg #[.int .i64 4, .int .i64 a]] w (NumPost (.tuple #[.agg #[.int .i64 t, .bool true, .int .i64 x, .int .i64 v], .bool false]) w) := by
  subst ha
  go_enter Tryd.func52, Tryd.ntmps52
  go_wp2_with fail
  (try simp only [Exit.inBlock, Exit.then]); refine bodyPost_ret (v := .tuple #[.agg #[.int .i64 t, .bool true, .int .i64 x, .int .i64 v], .bool false]) (by rw [results_cell_tmp rfl]; go_simp) rfl ?_
  exact ⟨rfl, by repeat' (first | (with_reducible assumption) | (with_reducible exact Below.refl _ _) | (with_reducible refine below_drewN ?_ _) | (with_reducible refine Below.alloc ?_ ?_ _) | (with_reducible refine Below.setCell ?_ ?_ _) | go_size)⟩
set_option maxRecDepth 100000 in
set_option maxHeartbeats 1000000 in
theorem cnt_else (t : Int) (c : Bool) (x v a : Int) (w : World) (k : Int) (u2 : (k == 2) = false) (u3 : (k == 3) = false) (u4 : (k == 4) = false) :
    Calls Tryd.prog 52 #[.agg #[], .agg #[.int .i64 t, .bool c, .int .i64 x, .int .i64 v], .agg #[.int .i64 k, .int .i64 a]] w (NumPost (.tuple #[.agg #[.int .i64 t, .bool c, .int .i64 x, .int .i64 v], .bool false]) w) := by
  go_enter Tryd.func52, Tryd.ntmps52
  go_wp2_with fail
  (try simp only [Exit.inBlock, Exit.then]); refine bodyPost_ret (v := .tuple #[.agg #[.int .i64 t, .bool c, .int .i64 x, .int .i64 v], .bool false]) (by rw [results_cell_tmp rfl]; go_simp) rfl ?_
  exact ⟨rfl, by repeat' (first | (with_reducible assumption) | (with_reducible exact Below.refl _ _) | (with_reducible refine below_drewN ?_ _) | (with_reducible refine Below.alloc ?_ ?_ _) | (with_reducible refine Below.setCell ?_ ?_ _) | go_size)⟩
/-- The state that a counter's behind leaves, come or not. -/
def cntS (s : St) (e : Ev) : St := ⟨s.tag, if e.k = 4 then true else s.cl, if e.k = 2 then wrap64 (s.sum + e.a) else if e.k = 3 then wrap64 (s.sum - e.a) else s.sum, s.ver⟩
theorem wrap_in {z : Int} (h0 : -9223372036854775808 ≤ z) (h1 : z ≤ 9223372036854775807) : wrap64 z = z := by unfold wrap64; omega
theorem letC_iff (s : St) (e : Ev) : letC s e = true ↔ ((e.k = 2 ∧ 1 ≤ e.a ∧ s.sum + e.a ≤ 1099511627776) ∨ (e.k = 3 ∧ 1 ≤ e.a ∧ -1099511627776 ≤ s.sum - e.a) ∨ (e.k = 4 ∧ s.sum = 0 ∧ e.a = 0)) := decide_eq_true_iff
theorem cnt_any (s : St) (e : Ev) (w : World) (h0 : -1099511627776 ≤ s.sum) (h1 : s.sum ≤ 1099511627776) :
    Calls Tryd.prog 52 #[.agg #[], s.v, e.v] w (NumPost (.tuple #[(cntS s e).v, .bool (letC s e)]) w) := by
  have hok := letC_iff s e
  generalize hl : letC s e = l at *
  obtain ⟨t, c, x, v⟩ := s
  obtain ⟨k, a⟩ := e
  simp only [St.v, Ev.v, cntS] at *
  by_cases k2 : k = 2
  · subst k2
    by_cases ha : a < 1
    · obtain rfl : l = false := by cases l <;> simp at hok ⊢; omega
      simpa using cnt_add0 t c x v a w ha
    · by_cases hb : x + a ≤ 1099511627776
      · obtain rfl : l = true := hok.2 (.inl ⟨rfl, by omega, hb⟩)
        have := cnt_add t c x v a w h0 h1 ⟨by omega, hb⟩
        rw [← wrap_in (z := x + a) (by omega) (by omega)] at this
        simpa using this
      · obtain rfl : l = false := by cases l <;> simp at hok ⊢; omega
        simpa using cnt_add1 t c x v a w h0 h1 ⟨by omega, by omega⟩
  by_cases k3 : k = 3
  · subst k3
    by_cases ha : a < 1
    · obtain rfl : l = false := by cases l <;> simp at hok ⊢; omega
      simpa using cnt_take0 t c x v a w ha
    · by_cases hb : -1099511627776 ≤ x - a
      · obtain rfl : l = true := hok.2 (.inr (.inl ⟨rfl, by omega, hb⟩))
        have := cnt_take t c x v a w h0 h1 ⟨by omega, hb⟩
        rw [← wrap_in (z := x - a) (by omega) (by omega)] at this
        simpa using this
      · obtain rfl : l = false := by cases l <;> simp at hok ⊢; omega
        simpa using cnt_take1 t c x v a w h0 h1 ⟨by omega, by omega⟩
  by_cases k4 : k = 4
  · subst k4
    by_cases ha : a = 0
    · by_cases hx : x = 0
      · obtain rfl : l = true := hok.2 (.inr (.inr ⟨rfl, hx, ha⟩))
        have := cnt_close t c x v a w ha hx
        subst hx
        simpa using this
      · obtain rfl : l = false := by cases l <;> simp at hok ⊢; omega
        simpa using cnt_close1 t c x v a w ha (by simp [hx])
    · obtain rfl : l = false := by cases l <;> simp at hok ⊢; omega
      simpa using cnt_close0 t c x v a w (by simp [ha])
  · obtain rfl : l = false := by cases l <;> simp at hok ⊢; omega
    simpa [k2, k3, k4] using cnt_else t c x v a w k (by simp [k2]) (by simp [k3]) (by simp [k4])
end Go.Proofs.YtafhjlfnhgkcoaaDoor
