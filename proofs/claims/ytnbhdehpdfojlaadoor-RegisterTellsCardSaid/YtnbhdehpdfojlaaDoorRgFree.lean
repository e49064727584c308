/-
  Single steps of regions that draw their order; logs put together anew; a register stored into a box.
-/
import Derived.Test.YtnbhdehpdfojlaaDoorRgMem
namespace Go.Proofs.YtnbhdehpdfojlaaDoor
open Go.RowKit Go.Sort
theorem run_exec_load {P : Program} {ev : Operand → Value} {o : Oper} {X : World} {v : Value} (ty : TypeId) (x : Operand) (ho : o.op = .load ty x) (a : Addr) (hx : ev x = .pointer (some a)) (hr : (loadVar ty a).run P X = .ok v X) : (execOp ev o).run P X = .ok (Next.value v) X := by
  simp only [execOp, ho, hx, Instr.loadAt, Instr.sureAddr, Sem.run_bind, Sem.run_pure, Result.andThen_ok, hr]
section
variable {P : Program} {ops : Array Oper} {o : Oper} {a : Act} {w : World} {K : Act → World → Prop} {Q : Exit → Act → World → Prop} {E : Prop}
/-- A slice that is built of parts, in new memory. -/
theorem step_build_new (hg : o.guard = none) (t : TypeId) (n : Nat) (parts : Array (Nat × Operand)) (ps : Array (Nat × Value)) (hop : o.op = Op.buildSlice t n parts)
    (hp : parts.map (fun (i, x) => (i, a.eval x)) = ps) (cs : Array Value) (T : TypeId) (hr : ∀ X : World, (Instr.buildSlice t n ps).run P X = .ok (.slice (some ⟨X.heap.size, 0, none⟩) n n) (X.alloc (.cells cs T)))
    (hK : ∀ (g : Nat) (w' : World), w'.heap[g]? = some (.cells cs T (0, 0)) → w.heap.size ≤ g → Below w.heap.size w w' → K (a.put o.dst (.slice (some ⟨g, 0, none⟩) n n)) w') :
    if Region.wanted o (yielded ops a.tmps) = true then Oper.wp P o a w K Q else E := by
  rw [if_pos (by simp [Region.wanted, hg])]
  unfold Oper.wp
  simp only [execOp, hop, Sem.run_bind, Sem.run_pure]
  rw [hp, hr]
  exact hK w.heap.size _ (heap_alloc_new w _) (Nat.le_refl _) ((Below.refl _ _).alloc (Nat.le_refl _) _)
/-- A variable that is made. -/
theorem step_alloc_new (hg : o.guard = none) (t : TypeId) (hop : o.op = Op.alloc t) (cs : Array Value) (hr : ∀ X : World, (Instr.alloc t true (.tuple #[])).run P X = .ok (.pointer (some ⟨X.heap.size, 0, none⟩)) (X.alloc (.cells cs t)))
    (hK : ∀ (g : Nat) (w' : World), w'.heap[g]? = some (.cells cs t (0, 0)) → w.heap.size ≤ g → Below w.heap.size w w' → K (a.put o.dst (.pointer (some ⟨g, 0, none⟩))) w') :
    if Region.wanted o (yielded ops a.tmps) = true then Oper.wp P o a w K Q else E := by
  rw [if_pos (by simp [Region.wanted, hg])]
  unfold Oper.wp
  simp only [execOp, hop, Sem.run_bind, Sem.run_pure]
  rw [hr]
  exact hK w.heap.size _ (heap_alloc_new w _) (Nat.le_refl _) ((Below.refl _ _).alloc (Nat.le_refl _) _)
/-- A row that is made, in new memory. -/
theorem step_make_new (hg : o.guard = none) (t : TypeId) (x y : Operand) (hop : o.op = Op.makeSlice t x y) (n : Nat) (hx : a.eval x = .int .i64 0) (hy : a.eval y = .int .i64 (n : Int)) (cs : Array Value) (T : TypeId)
    (hr : ∀ X : World, (Instr.makeSlice t (.int .i64 0) (.int .i64 (n : Int))).run P X = .ok (.slice (some ⟨X.heap.size, 0, none⟩) 0 n) (X.alloc (.cells cs T)))
    (hK : ∀ (g : Nat) (w' : World), w'.heap[g]? = some (.cells cs T (0, 0)) → w.heap.size ≤ g → Below w.heap.size w w' → K (a.put o.dst (.slice (some ⟨g, 0, none⟩) 0 n)) w') :
    if Region.wanted o (yielded ops a.tmps) = true then Oper.wp P o a w K Q else E := by
  rw [if_pos (by simp [Region.wanted, hg])]
  unfold Oper.wp
  simp only [execOp, hop, Sem.run_bind, Sem.run_pure]
  rw [hx, hy, hr]
  exact hK w.heap.size _ (heap_alloc_new w _) (Nat.le_refl _) ((Below.refl _ _).alloc (Nat.le_refl _) _)
/-- A store whose run is known. -/
theorem step_store_known (hg : o.guard = none) (ty : TypeId) (x y : Operand) (hop : o.op = .store ty x y) (ad : Addr) (v : Value) (hx : a.eval x = .pointer (some ad)) (hy : a.eval y = v) {w' : World} (hr : (storeVar ty ad v).run P w = .ok () w') (hK : K (a.put o.dst undef) w') :
    if Region.wanted o (yielded ops a.tmps) = true then Oper.wp P o a w K Q else E := by
  rw [if_pos (by simp [Region.wanted, hg])]
  unfold Oper.wp execOp
  simp only [hop, hx, hy, Instr.storeAt, Instr.sureAddr, Sem.run_bind, Sem.run_pure, Result.andThen_ok, hr]
  exact hK
theorem step_app_known (hg : o.guard = none) (d x : Operand) (dT sT : TypeId) (hop : o.op = Op.call { callee := Callee.builtin Builtin.append, args := #[d, x], argTypes := #[dT, sT] })
    (v u : Value) (hd : a.eval d = v) (hx : a.eval x = u) {v' : Value} {w' : World} (hr : (Builtin.append_ #[dT, sT] o.type #[v, u]).run P w = .ok v' w') (hK : K (a.put o.dst v') w') :
    if Region.wanted o (yielded ops a.tmps) = true then Oper.wp P o a w K Q else E := by
  rw [if_pos (by simp [Region.wanted, hg])]
  unfold Oper.wp
  simp [execOp, hop, resolve, invoke, builtin, hd, hx, hr, Result.andThen]
  exact hK
end
theorem alloc_rg (X : World) : (Instr.alloc 24 true (.tuple #[])).run Tryd.prog X = .ok (.pointer (some ⟨X.heap.size, 0, none⟩)) (X.alloc (.cells #[.int .i64 0, .int .i64 0, .slice none 0 0, .int .i64 0] 24)) := by kernel_rfl
/-- A log stays, whatever is written into a box of fewer cells than an entry has. -/
theorem es_store {X Y : World} {v : Value} {es : List En} {g : Nat} {old : Array Value} {t : TypeId} {fr : Nat × Nat} (h : EsB X.heap.size X v es) (hg : X.heap[g]? = some (.cells old t fr)) (ho : old.size < 6) (hs : ∀ k, k ≠ g → Y.heap[k]? = X.heap[k]?) (hz : Y.heap.size = X.heap.size) : EsB Y.heap.size Y v es := by
  obtain ⟨A, c, h1, h2, h3, h4, h5⟩ := h
  refine ⟨A, c, h1, h2, h3, h4, fun h0 => ?_⟩
  obtain ⟨b, o, rfl, hl, hc⟩ := h5 h0
  have hne : b ≠ g := fun e => by
    subst e
    obtain ⟨y, hy⟩ : ∃ y, (es.map En.l).flatten[5]? = some y := by
      have : 5 < (es.map En.l).flatten.length := by rw [en_flat]; omega
      exact ⟨_, List.getElem?_eq_getElem this⟩
    have := hc 5 y hy
    rw [Lib.cell_of_heap hg] at this
    have := (Array.getElem?_eq_some_iff.1 this).1
    omega
  exact ⟨b, o, rfl, by omega, fun j x hx => (cell_heap (hs b hne)).trans (hc j x hx)⟩
/-- Entries behind the first ones of a log, that is cut so that nothing is written behind it: in old memory if there are none, else in new. -/
theorem run_append_cut {X : World} {A XA : Option Addr} {c xc : Nat} {es xs : List En} {f : Nat} (h : EsB X.heap.size X (.slice A es.length c) es) (hf : f ≤ es.length) (hx : EsB X.heap.size X (.slice XA xs.length xc) xs) (hl : es.length ≤ 100000) (hlx : xs.length ≤ 100000) :
    ∃ A' c' X', (Builtin.append_ #[22, 22] 22 #[.slice A f f, .slice XA xs.length xc]).run Tryd.prog X = .ok (.slice A' (f + xs.length) c') X' ∧ EsB X'.heap.size X' (.slice A' (f + xs.length) c') (es.take f ++ xs) ∧ Below X.heap.size X X' := by
  have hc0 := es_len h
  have ht : EsB X.heap.size X (.slice A f f) (es.take f) := by
    obtain ⟨A', c', h1, h2, h3, h4, h5⟩ := EsB.take h hf
    injection h1 with e1 e2 e3
    subst e1 e3
    have hlt : (es.take f).length = f := by simp [Nat.min_eq_left hf]
    exact ⟨A, f, by rw [hlt], by rw [hlt]; exact Nat.le_refl _, by unfold maxLen; omega, fun e => ⟨(h4 e).1, by rw [← hlt]; exact (h4 e).1⟩, h5⟩
  have htl : (es.take f).length = f := by simp [Nat.min_eq_left hf]
  obtain ⟨i0, hi0, hz0, hz1, hz2⟩ := info_parts Tryd.info_entry
  rcases xs with _ | ⟨y, l⟩
  · have hs : Src Tryd.prog i0.size 22 (.slice XA 0 xc) 0 [] X := by
      rcases XA with _ | a
      · obtain rfl : xc = 0 := by
          obtain ⟨A', c', h1, h2, h3, h4, h5⟩ := hx
          injection h1 with e1 e2 e3
          subst e1 e3
          exact (h4 rfl).2
        exact Src.ofNil X Tryd.underlying22 0
      · exact Src.ofSlice X Tryd.underlying22 a 0 xc [] (by simp) (fun j u h => by simp at h) (fun u h => by simp at h)
    exact ⟨A, f, X, run_append_nothing X _ _ _ 44 i0 Tryd.underlying22 hi0 A f f (Nat.le_refl _) _ hs, by simpa using ht, Below.refl _ _⟩
  · obtain ⟨KA, kc, hkv, k1, k2, k3, k4⟩ := hx
    injection hkv with e1 e2 e3
    subst e1 e3
    obtain ⟨b, off, rfl, hbl, hcx⟩ := k4 (by simp)
    have hcx' : ∀ j u, (ecs (y :: l))[j]? = some u → X.cell? ((⟨b, off, none⟩ : Addr).add j) = some u := fun j u hu => by
      rw [ecs, List.getElem?_map] at hu
      obtain ⟨x, hx, rfl⟩ := Option.map_eq_some_iff.1 hu
      rw [Addr.add_lit]; exact hcx j x hx
    obtain ⟨A', c', hv, t2, t3, t4, t5⟩ := ht
    injection hv with e1 e2 e3
    subst e1 e3
    have fin : ∀ (v' : Value) (X' : World), X'.ownsRow X.heap.size 44 6 v' (f + (y :: l).length) (ecs (es.take f) ++ ecs (y :: l)) → X.grownBy X' none → ∃ A2 c2, v' = .slice A2 (f + (y :: l).length) c2 ∧ EsB X'.heap.size X' (.slice A2 (f + (y :: l).length) c2) (es.take f ++ (y :: l)) ∧ Below X.heap.size X X' := fun v' X' ho hg => by
      obtain ⟨A2, c2, rfl, _⟩ := own_is_slice ho
      have hll : (es.take f ++ (y :: l)).length = f + (y :: l).length := by rw [List.length_append, htl]
      refine ⟨A2, c2, rfl, ?_, below_grow hg (fun q _ e => by cases e) (Nat.le_refl _)⟩
      rw [← hll]
      exact own_es (by rw [ecs_append, hll]; exact ho) (by rw [hll]; omega)
    rcases A with _ | ⟨ab, ao, asp⟩
    · have hf0 : f = 0 := by have := (t4 rfl).1; omega
      subst hf0
      obtain ⟨v', X', hr, ho, hg, _⟩ := run_append_own (P := Tryd.prog) X X.heap.size 22 22 44 i0 _ 6 48 Tryd.underlying22 hi0 hz0 hz1 hz2 rfl (by decide) (.slice none 0 0) 0 [] (World.ownsRow_nil X _ _ 6) ⟨b, off, none⟩ (y :: l).length xc (ecs (y :: l)) (ecs_len _) hcx' (ecs_one _) (by unfold maxLen; omega) (by omega) (Nat.le_refl _)
      obtain ⟨A2, c2, rfl, r1, r2⟩ := fin v' X' (by simpa [ecs] using ho) hg
      exact ⟨A2, c2, X', hr, r1, r2⟩
    · have holds : ∀ j u, (ecs (es.take f))[j]? = some u → X.cell? ((⟨ab, ao, asp⟩ : Addr).add j) = some u := fun j u hu => by
        rw [ecs, List.getElem?_map] at hu
        obtain ⟨x, hx, rfl⟩ := Option.map_eq_some_iff.1 hu
        have hpos : 0 < (es.take f).length := by
          rcases Nat.eq_zero_or_pos (es.take f).length with h0 | h0
          · have := List.eq_nil_of_length_eq_zero h0; rw [this] at hx; simp at hx
          · exact h0
        obtain ⟨b', o', e, _, hc'⟩ := t5 hpos
        injection e with e
        injection e with e1 e2 e3
        subst e1 e2 e3
        rw [Addr.add_lit]; exact hc' j x hx
      obtain ⟨v', X', hr, ho, hg⟩ := run_append_arg_grows (P := Tryd.prog) X 22 22 44 i0 _ 6 48 Tryd.underlying22 hi0 hz0 hz1 hz2 rfl (by decide) ⟨ab, ao, asp⟩ f f (ecs (es.take f)) (by rw [ecs_len, htl]) holds ⟨b, off, none⟩ (y :: l).length xc (ecs (y :: l)) (ecs_len _) hcx' (by simp) (by unfold maxLen; omega) (by omega)
      obtain ⟨A2, c2, rfl, r1, r2⟩ := fin v' X' ho hg
      exact ⟨A2, c2, X', hr, r1, r2⟩
/-- A record stored whole. -/
theorem rc_store {W : World} {g : Nat} (n : Nat) {old : Array Value} {t : TypeId} (ki st ep vi fr le : Int) (A : Option Addr) (l c : Nat) (FA : Option Addr) (fn fc : Nat) (hg : W.heap[g]? = some (.cells old t (0, 0))) (ho : old.size = 8) (hn : n ≤ g) :
    ∃ w7 : World, Hid ((storeVar 27 ⟨g, 0, none⟩ (.agg #[.int .i64 ki, .int .i64 st, .int .i64 ep, .int .i64 vi, .int .i64 fr, .int .i64 le, .slice A l c, .slice FA fn fc])).run Tryd.prog W = .ok () w7) ∧
      w7.heap[g]? = some (.cells #[.int .i64 ki, .int .i64 st, .int .i64 ep, .int .i64 vi, .int .i64 fr, .int .i64 le, .slice A l c, .slice FA fn fc] t (0, 0)) ∧ Below n W w7 ∧ w7.heap.size = W.heap.size ∧ ∀ k, k ≠ g → w7.heap[k]? = W.heap[k]? :=
  ⟨_, Lib.hid (run_storeVar_row (P := Tryd.prog) W g t 27 old #[.int .i64 ki, .int .i64 st, .int .i64 ep, .int .i64 vi, .int .i64 fr, .int .i64 le, .slice A l c, .slice FA fn fc] hg (by kernel_rfl) ho (by simp [Value.oneCell'])),
    setRow_heap _ _ _ _ _ _ hg, ⟨rfl, rfl, rfl, by simp, fun k hk => setRow_other _ _ _ _ (by omega)⟩, by simp, fun k hk => setRow_other _ _ _ _ hk⟩
/-- A row of one's own behind the block that is written. -/
theorem es_wide {X Y : World} {b g n : Nat} {v : Value} {es : List En} (h : OwnEs b X v es) (hl : es.length ≤ 1000000) (hg : g < b) (hs : ∀ k, k ≠ g → Y.heap[k]? = X.heap[k]?) (hb : Below n X Y) : OwnEs b Y v es ∧ EsB Y.heap.size Y v es := by
  have h' : OwnEs b Y v es := World.ownsRow.kept h (row := some g) ⟨hb.os, hb.tape, hb.output, hb.size, fun q _ hne => hs q (fun e => hne (by rw [e]))⟩ (by
    rcases h.2 with ⟨e, _⟩ | ⟨q, cap, cur, e, hq, _⟩
    · left; rw [e]; rfl
    · right; rw [e]; intro e'; have e'' : q = g := by simpa [Value.ownBlock] using e'
      omega)
  exact ⟨h', own_es h' hl⟩
end Go.Proofs.YtnbhdehpdfojlaaDoor
