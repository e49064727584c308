/-
  Boxes of registers and records: blocks that are made, loaded and written whole; a result that lies in a box.
-/
import Derived.Test.YtnbhdehpdfojlaaDoorRgChk
import Derived.Test.YtnbhdehpdfojlaaDoorRgSame
import Derived.Test.YtnbhdehpdfojlaaDoorLsPre
import Derived.Test.YtnbhdehpdfojlaaDoorLsTwin
import Derived.Laws.ResultCell
import Derived.Laws.Rows
import Derived.Laws.Tables
import Derived.Deep.DeepCutAuto
import Derived.Deep.RegionHeld3
import Derived.Deep.RegionWith
namespace Go.Proofs.YtnbhdehpdfojlaaDoor
open Go.RowKit Go.Sort
section
variable {P : Program}
theorem results_row_tmp {fn : Func} {p u : Tmp} {ty : TypeId} (h : fn.results = #[.cell p ty, .tmp u]) (tmps : Array Value) (w : World) (g : Nat) (t : TypeId) (cs : Array Value) (fr : Nat × Nat) (d : TypeDesc)
    (hp : tmps.getD p undef = .pointer (some ⟨g, 0, none⟩)) (hg : w.heap[g]? = some (.cells cs t fr))
    (hu : P.underlying ty = some d) (hd : (match d with | .struct _ | .array _ _ => true | _ => false) = true) (hi : (P.info? ty).map (·.size) = some cs.size) :
    (results fn tmps).run P w = .ok (.tuple #[.agg cs, tmps.getD u undef]) w := by
  rw [results_cell_tmp h, hp]
  simp [asAddr, Result.andThen, run_loadVar_row w g t ty cs fr d hg hu hd hi]
theorem wpList_store_known {ops : Array Oper} {rest : List Oper} {o : Oper} {a : Act} {w w' : World} {Q : Exit → Act → World → Prop} (hgd : o.guard = none) (ty : TypeId) (x y : Operand) (ho : o.op = .store ty x y)
    (ad : Addr) (v : Value) (hx : a.eval x = .pointer (some ad)) (hy : a.eval y = v) (hr : (storeVar ty ad v).run P w = .ok () w') (h : wpList P ops Q rest (a.put o.dst undef) w') : wpList P ops Q (o :: rest) a w :=
  wpList_plain hgd fun K hK => by
    unfold Oper.wp execOp
    simp only [ho, hx, hy, Instr.storeAt, Instr.sureAddr, Sem.run_bind, Sem.run_pure, Result.andThen_ok, hr]
    exact hK _ _ h
end
theorem two_new {w W : World} {o o' : Obj} (h : W = (w.alloc o).alloc o') : W.heap.size = w.heap.size + 1 + 1 ∧ Below w.heap.size w W ∧ W.heap[w.heap.size]? = some o ∧ W.heap[w.heap.size + 1]? = some o' := by
  subst h
  exact ⟨by simp, (below_new _ _).alloc (by simp) _, heap_alloc2_old _ _ _, heap_alloc2_new _ _ _⟩
theorem three_new {w W : World} {o o' o'' : Obj} (h : W = ((w.alloc o).alloc o').alloc o'') : W.heap.size = w.heap.size + 1 + 1 + 1 ∧ Below w.heap.size w W ∧ W.heap[w.heap.size]? = some o ∧ W.heap[w.heap.size + 1]? = some o' ∧ W.heap[w.heap.size + 1 + 1]? = some o'' := by
  subst h
  obtain ⟨h1, h2, h3, h4⟩ := two_new (w := w) (o := o) (o' := o') rfl
  refine ⟨by simp, h2.alloc (by simp <;> omega) _, ?_, ?_, ?_⟩
  · exact (heap_alloc_old _ _ (by rw [h1]; omega)).trans h3
  · exact (heap_alloc_old _ _ (by rw [h1]; omega)).trans h4
  · have := heap_alloc_new ((w.alloc o).alloc o') o''
    rwa [h1] at this
/-- A register stored whole. -/
theorem rg_store {W : World} {g : Nat} (n : Nat) {old : Array Value} {t : TypeId} (p v : Int) (A : Option Addr) (l c : Nat) (m : Int) (hg : W.heap[g]? = some (.cells old t (0, 0))) (ho : old.size = 4) (hn : n ≤ g) :
    ∃ w7 : World, Hid ((storeVar 24 ⟨g, 0, none⟩ (.agg #[.int .i64 p, .int .i64 v, .slice A l c, .int .i64 m])).run Tryd.prog W = .ok () w7) ∧
      w7.heap[g]? = some (.cells #[.int .i64 p, .int .i64 v, .slice A l c, .int .i64 m] t (0, 0)) ∧ Below n W w7 ∧ w7.heap.size = W.heap.size ∧ ∀ k, k ≠ g → w7.heap[k]? = W.heap[k]? :=
  ⟨_, Lib.hid (run_storeVar_row (P := Tryd.prog) W g t 24 old #[.int .i64 p, .int .i64 v, .slice A l c, .int .i64 m] hg (by kernel_rfl) ho (by simp [Value.oneCell'])),
    setRow_heap _ _ _ _ _ _ hg, ⟨rfl, rfl, rfl, by simp, fun k hk => setRow_other _ _ _ _ (by omega)⟩, by simp, fun k hk => setRow_other _ _ _ _ hk⟩
theorem box8 {X : World} {g : Nat} {a b c d e f i j : Value} {t : TypeId} {z : Nat × Nat} (h : X.heap[g]? = some (.cells #[a, b, c, d, e, f, i, j] t z)) : X.cell? ⟨g, 0, none⟩ = some a ∧ X.cell? ⟨g, 1, none⟩ = some b ∧ X.cell? ⟨g, 2, none⟩ = some c ∧ X.cell? ⟨g, 3, none⟩ = some d ∧ X.cell? ⟨g, 4, none⟩ = some e ∧ X.cell? ⟨g, 5, none⟩ = some f ∧ X.cell? ⟨g, 6, none⟩ = some i ∧ X.cell? ⟨g, 7, none⟩ = some j := by
  refine ⟨?_, ?_, ?_, ?_, ?_, ?_, ?_, ?_⟩ <;> (rw [Lib.cell_of_heap h]; rfl)
theorem keepR {X Y : World} {base n size : Nat} {t : TypeId} {v : Value} {xs : List Value} (hb : Below X.heap.size X Y) (h : X.ownsRow base t size v n xs) : Y.ownsRow base t size v n xs := h.kept (below_grown hb (Nat.le_refl _)) (Classical.or_iff_not_imp_left.2 fun h => h)
/-- A log that lies in other blocks than the one that is written. -/
theorem es_far {X Y : World} {g : Nat} {v : Value} {es : List En} (h : EsB g X v es) (hs : ∀ k, k ≠ g → Y.heap[k]? = X.heap[k]?) : EsB g Y v es := by
  obtain ⟨A, c, h1, h2, h3, h4, h5⟩ := h
  refine ⟨A, c, h1, h2, h3, h4, fun h0 => ?_⟩
  obtain ⟨b, o, rfl, hl, hc⟩ := h5 h0
  exact ⟨b, o, rfl, hl, fun j x hx => (cell_heap (hs b (by omega))).trans (hc j x hx)⟩
theorem es_len {B : Nat} {w : World} {A : Option Addr} {n c : Nat} {es : List En} (h : EsB B w (.slice A n c) es) : n = es.length ∧ es.length ≤ c ∧ c ≤ maxLen := by
  obtain ⟨A', c', hv, h1, h2, -⟩ := h.len
  injection hv with e1 e2 e3
  subst e1 e3
  exact ⟨e2, h1, h2⟩
/-- A row of the call's own of entries. -/
def OwnEs (base : Nat) (w : World) (v : Value) (es : List En) : Prop := w.ownsRow base 44 6 v es.length (ecs es)
/-- What Clone leaves. -/
def ClonePost (p v : Int) (es : List En) (m : Int) (w : World) (e : Ending) (w' : World) : Prop :=
  ∃ A c, e = .returned (.agg #[.int .i64 p, .int .i64 v, .slice A es.length c, .int .i64 m]) ∧ EsB w'.heap.size w' (.slice A es.length c) es ∧ Hid (OwnEs w.heap.size w' (.slice A es.length c) es) ∧ Below w.heap.size w w'
set_option maxRecDepth 100000 in
set_option maxHeartbeats 1000000 in
theorem clone_any {A : Option Addr} {c : Nat} {es : List En} (p v m : Int) (w : World) (ha : EsB w.heap.size w (.slice A es.length c) es) (hn : es.length ≤ 100000) : Calls Tryd.prog 21 #[.agg #[.int .i64 p, .int .i64 v, .slice A es.length c, .int .i64 m]] w (ClonePost p v es m w) := by
  obtain ⟨w1, HX1⟩ : ∃ W : World, Hid (W = (w.alloc (.cells #[.int .i64 p, .int .i64 v, .slice A es.length c, .int .i64 m] 24)).alloc (.cells #[.int .i64 0, .int .i64 0, .slice none 0 0, .int .i64 0] 24)) := ⟨_, Lib.hid rfl⟩
  obtain ⟨hz1, hb1, hg1, hr1⟩ := two_new HX1.out
  obtain ⟨n0, n1, n2, n3⟩ := box4 hg1
  obtain ⟨A2, c2, w2, hr2, ho2, hgr2, -⟩ := run_append_es (World.ownsRow_nil w1 w1.heap.size _ 6) (keepE hb1 ha) (Nat.le_refl _) (by omega)
  rw [Nat.zero_add] at hr2 ho2
  have hb2 : Below w1.heap.size w1 w2 := below_grow hgr2 (fun q _ e => by simp [Value.ownBlock] at e) (Nat.le_refl _)
  have hg2 := keepH hb2 hg1
  have hr2' := keepH hb2 hr1
  obtain ⟨m0, m1, m2, m3⟩ := box4 hg2
  have mf : ∀ i, w2.frozen? ⟨w.heap.size, i, none⟩ = false := fun i => Lib.frozen_of_heap hg2 i
  obtain ⟨w3, HX3⟩ : ∃ W : World, Hid (W = w2.setCell ⟨w.heap.size, 2, none⟩ (.slice A2 es.length c2)) := ⟨_, Lib.hid rfl⟩
  have hg3 : w3.heap[w.heap.size]? = some (.cells #[.int .i64 p, .int .i64 v, .slice A2 es.length c2, .int .i64 m] 24 (0, 0)) := by rw [HX3.out]; exact heap_setCell_same _ _ 2 _ _ _ hg2
  have hr3 : w3.heap[w.heap.size + 1]? = some (.cells #[.int .i64 0, .int .i64 0, .slice none 0 0, .int .i64 0] 24 (0, 0)) := by rw [HX3.out]; exact (Below.heap_setCell _ _ _ _ (by simp)).trans hr2'
  have hb3 : Below w.heap.size w2 w3 := by rw [HX3.out]; exact (Below.refl w.heap.size w2).setCell (p := ⟨w.heap.size, 2, none⟩) (Nat.le_refl _) _
  have ho3 : w3.ownsRow w1.heap.size 44 6 (.slice A2 es.length c2) es.length (ecs es) := by rw [HX3.out]; exact ownsRow_setCell_below ho2 (by show w.heap.size < _; omega) _
  obtain ⟨k0, k1, k2, k3⟩ := box4 hg3
  obtain ⟨w4, HST, hr4, hb4, hz4, hoth⟩ := rg_store w1.heap.size.pred p v A2 es.length c2 m hr3 rfl (by rw [hz1]; exact Nat.le_refl _)
  have ho4 : w4.ownsRow w1.heap.size 44 6 (.slice A2 es.length c2) es.length (ecs es) := ho3.kept (row := some (w.heap.size + 1)) ⟨hb4.os, hb4.tape, hb4.output, hb4.size, fun q _ hne => hoth q (fun e => hne (by rw [e]))⟩ (by
    rcases ho3.2 with ⟨h, _⟩ | ⟨g, cap, cur, h, hg, _⟩
    · left; rw [h]; rfl
    · right; rw [h]; intro e; have e' : g = w.heap.size + 1 := by simpa [Value.ownBlock] using e
      omega)
  have HEs := Lib.hid (own_es (es := es) (by simpa using ho4) (by omega))
  have HO : Hid (OwnEs w.heap.size w4 (.slice A2 es.length c2) es) := Lib.hid (by
    refine ⟨ho4.1, ?_⟩
    rcases ho4.2 with h | ⟨g, cap, cur, h, hg, hr⟩
    · exact .inl h
    · exact .inr ⟨g, cap, cur, h, by omega, hr⟩)
  have HB : Hid (Below w.heap.size w w4) := Lib.hid (((hb1.trans (hb2.mono (by omega))).trans hb3).trans (hb4.mono (by rw [hz1]; exact Nat.le_succ _)))
  have HR2 := Lib.hid hr2
  have HR4 := Lib.hid hr4
  clear ha hz1 hb1 hg1 hr1 hr2 ho2 hgr2 hb2 hg2 hr2' hg3 hr3 hb3 ho3 hr4 hb4 hz4 hoth ho4
  go_enter Tryd.func21, Tryd.ntmps21
  go_wp2_with (first
    | (rw [← HX1.out])
    | (refine wpList_append_known _ rfl _ _ 22 22 rfl _ _ rfl rfl HR2.out ?_)
    | (rw [← HX3.out])
    | (with_reducible refine wpList_store_known (by rfl) 24 _ _ (by rfl) ⟨w.heap.size + 1, 0, none⟩ _ (by with_unfolding_all rfl) (by with_unfolding_all rfl) HST.out ?_))
  refine bodyPost_ret (results_cell_row rfl _ _ (w.heap.size + 1) 24 #[.int .i64 p, .int .i64 v, .slice A2 es.length c2, .int .i64 m] (0, 0) _ rfl HR4.out Tryd.underlying24 rfl (by kernel_rfl)) rfl ?_
  exact ⟨A2, c2, rfl, HEs.out, HO, HB.out⟩
set_option maxRecDepth 100000 in
set_option maxHeartbeats 1000000 in
theorem entry_any (i e : Int) (w : World) : Calls Tryd.prog 22 #[.int .i64 i, .int .i64 e] w (NumPost (.agg #[.int .i64 e, .int .i64 i, .int .i64 0, .int .i64 (-1), .int .i64 2, .int .i64 1]) w) := by
  go_enter Tryd.func22, Tryd.ntmps22
  go_wp2_with fail
  refine bodyPost_ret (results_cell_row rfl _ _ w.heap.size 44 #[.int .i64 e, .int .i64 i, .int .i64 0, .int .i64 (-1), .int .i64 2, .int .i64 1] (0, 0) _ rfl (heap_alloc_new _ _) Tryd.underlying44 rfl (by kernel_rfl)) rfl ?_
  exact ⟨rfl, below_new _ _⟩
set_option maxRecDepth 100000 in
set_option maxHeartbeats 1000000 in
theorem great_any (ki st ep vi fr le : Int) (A FA : Option Addr) (n c fn fc : Nat) (w : World) : Calls Tryd.prog 9 #[.agg #[.int .i64 ki, .int .i64 st, .int .i64 ep, .int .i64 vi, .int .i64 fr, .int .i64 le, .slice A n c, .slice FA fn fc]] w (NumPost (.bool (decide ((200 : Int) < (n : Int)))) w) := by
  go_enter Tryd.func9, Tryd.ntmps9
  go_wp2_with fail
  go_ret
  exact ⟨rfl, below_new _ _⟩
set_option maxRecDepth 100000 in
set_option maxHeartbeats 1000000 in
theorem sameReg_any {A A' : Option Addr} {c c' : Nat} {es fs : List En} (p v m p' v' m' : Int) (w : World) (ha : EsB w.heap.size w (.slice A es.length c) es) (hb : EsB w.heap.size w (.slice A' fs.length c') fs) :
    Calls Tryd.prog 16 #[.agg #[.int .i64 p, .int .i64 v, .slice A es.length c, .int .i64 m], .agg #[.int .i64 p', .int .i64 v', .slice A' fs.length c', .int .i64 m']] w (NumPost (.bool (decide (Re.mk p v es m = Re.mk p' v' fs m'))) w) := by
  obtain ⟨w1, HX1⟩ : ∃ W : World, Hid (W = (w.alloc (.cells #[.int .i64 p, .int .i64 v, .slice A es.length c, .int .i64 m] 24)).alloc (.cells #[.int .i64 p', .int .i64 v', .slice A' fs.length c', .int .i64 m'] 24)) := ⟨_, Lib.hid rfl⟩
  obtain ⟨hz1, hb1, hg1, hr1⟩ := two_new HX1.out
  obtain ⟨n0, n1, n2, n3⟩ := box4 hg1
  obtain ⟨k0, k1, k2, k3⟩ := box4 hr1
  have HC := Lib.hid (sameEn_any (keepE hb1 ha) (keepE hb1 hb))
  clear ha hb hg1 hr1
  by_cases q0 : ¬ p = p'
  · have t : (p == p') = false := by simp [q0]
    rw [decide_eq_false (fun e => q0 (by injection e))]
    clear HC q0
    go_enter Tryd.func16, Tryd.ntmps16
    go_wp2_with (rw [← HX1.out])
    go_ret
    exact ⟨rfl, hb1⟩
  have t0 : (p == p') = true := by simp [Decidable.not_not.1 q0]
  by_cases q1 : ¬ v = v'
  · have t : (v == v') = false := by simp [q1]
    rw [decide_eq_false (fun e => q1 (by injection e))]
    clear HC q0 q1
    go_enter Tryd.func16, Tryd.ntmps16
    go_wp2_with (rw [← HX1.out])
    go_ret
    exact ⟨rfl, hb1⟩
  have t1 : (v == v') = true := by simp [Decidable.not_not.1 q1]
  by_cases q2 : ¬ m = m'
  · have t : (m == m') = false := by simp [q2]
    rw [decide_eq_false (fun e => q2 (by injection e))]
    clear HC q0 q1 q2
    go_enter Tryd.func16, Tryd.ntmps16
    go_wp2_with (rw [← HX1.out])
    go_ret
    exact ⟨rfl, hb1⟩
  have t2 : (m == m') = true := by simp [Decidable.not_not.1 q2]
  have e : decide (Re.mk p v es m = Re.mk p' v' fs m') = decide (es = fs) := by
    rw [Decidable.not_not.1 q0, Decidable.not_not.1 q1, Decidable.not_not.1 q2]
    simp
  rw [e]
  clear q0 q1 q2 e
  go_enter Tryd.func16, Tryd.ntmps16
  go_wp2_with (rw [← HX1.out])
  refine (HC.out).mono ?_
  rintro e w2 ⟨rfl, hb2⟩
  go_wp2_with fail
  go_ret
  exact ⟨rfl, keepB hb1 hb2⟩
end Go.Proofs.YtnbhdehpdfojlaaDoor
