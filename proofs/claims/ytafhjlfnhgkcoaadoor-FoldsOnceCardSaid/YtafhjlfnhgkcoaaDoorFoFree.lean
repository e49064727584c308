/-
  Regions that draw their order and make memory: each operation by a law that names the world behind it, so that the facts at hand go by one name in every order.
-/
import Derived.Test.YtafhjlfnhgkcoaaDoorFoCtr
namespace Go.Proofs.YtafhjlfnhgkcoaaDoor
open Go.RowKit Go.Sort Go.Maps
theorem keepH {X Y : World} {g : Nat} {o : Obj} (hb : Below X.heap.size X Y) (h : X.heap[g]? = some o) : Y.heap[g]? = some o := (hb.block g (Array.getElem?_eq_some_iff.1 h).1).trans h
theorem keepG {X Y : World} {g : Nat} {o : Obj} {row : Option Nat} (hg : X.grownBy Y row) (h : X.heap[g]? = some o) (hne : row ≠ some g) : Y.heap[g]? = some o := (hg.block g (Array.getElem?_eq_some_iff.1 h).1 (fun e => hne e.symm)).trans h
theorem ne_heap {X : World} {a b : Nat} {o o' : Obj} (h : X.heap[a]? = some o) (h' : X.heap[b]? = some o') (hne : o ≠ o') : a ≠ b := fun e => by subst e; rw [h] at h'; exact hne (Option.some.inj h')
theorem keepE {X Y : World} {v : Value} {es : List En} (hb : Below X.heap.size X Y) (h : EsB X.heap.size X v es) : EsB Y.heap.size Y v es := RdB.mono (RdB.below h hb (Nat.le_refl _)) hb.size
theorem keepR {X Y : World} {base n : Nat} {v : Value} {xs : List Value} (hb : Below X.heap.size X Y) (h : X.ownsRow base 45 6 v n xs) : Y.ownsRow base 45 6 v n xs := h.kept (below_grown hb (Nat.le_refl _)) (Classical.or_iff_not_imp_left.2 fun h => h)
theorem keepO {X Y : World} {lo : Nat} {v : Value} {os : List Oc} (hb : Below X.heap.size X Y) (h : OcsB lo X.heap.size X v os) : OcsB lo Y.heap.size Y v os := h.keep (fun q _ hq => hb.block q hq) (Nat.le_refl _) hb.size
theorem keepC {X Y : World} {a : Addr} {v : Value} (hb : Below X.heap.size X Y) (h : X.cell? a = some v) : Y.cell? a = some v := (hb.cell (block_lt_of_cell h)).trans h
theorem keepB {W X Y : World} (h : Below W.heap.size W X) (hb : Below X.heap.size X Y) : Below W.heap.size W Y := h.trans (hb.mono h.size)
section
variable {P : Program} {ops : Array Oper} {o : Oper} {a : Act} {w : World} {K : Act → World → Prop} {Q : Exit → Act → World → Prop} {E : Prop}
/-- A slice that is built of parts, in new memory. -/
theorem step_build_new (hg : o.guard = none) (t : TypeId) (n : Nat) (parts : Array (Nat × Operand)) (ps : Array (Nat × Value)) (hop : o.op = Op.buildSlice t n parts)
    (hp : parts.map (fun (i, x) => (i, a.eval x)) = ps) (cs : Array Value) (T : TypeId) (hr : ∀ X : World, (Instr.buildSlice t n ps).run P X = .ok (.slice (some ⟨X.heap.size, 0, none⟩) n n) (X.alloc (.cells cs T)))
    (hK : ∀ (g : Nat) (w' : World), w'.heap[g]? = some (.cells cs T (0, 0)) → w.heap.size ≤ g → Below w.heap.size w w' → K (a.put o.dst (.slice (some ⟨g, 0, none⟩) n n)) w') :
    if Region.wanted o (yielded ops a.tmps) = true then Oper.wp P o a w K Q else E := by
  rw [if_pos (by simp [Region.wanted, hg])]
  unfold Oper.wp
  simp only [execOp, hop, Sem.run_bind, Sem.run_pure]
  rw [hp, hr]
  exact hK w.heap.size _ (heap_alloc_new w _) (Nat.le_refl _) ((Below.refl _ _).alloc (Nat.le_refl _) _)
/-- A variable that is made. -/
theorem step_alloc_new (hg : o.guard = none) (t : TypeId) (hop : o.op = Op.alloc t) (cs : Array Value) (hr : ∀ X : World, (Instr.alloc t true (.tuple #[])).run P X = .ok (.pointer (some ⟨X.heap.size, 0, none⟩)) (X.alloc (.cells cs t)))
    (hK : ∀ (g : Nat) (w' : World), w'.heap[g]? = some (.cells cs t (0, 0)) → w.heap.size ≤ g → Below w.heap.size w w' → K (a.put o.dst (.pointer (some ⟨g, 0, none⟩))) w') :
    if Region.wanted o (yielded ops a.tmps) = true then Oper.wp P o a w K Q else E := by
  rw [if_pos (by simp [Region.wanted, hg])]
  unfold Oper.wp
  simp only [execOp, hop, Sem.run_bind, Sem.run_pure]
  rw [hr]
  exact hK w.heap.size _ (heap_alloc_new w _) (Nat.le_refl _) ((Below.refl _ _).alloc (Nat.le_refl _) _)
/-- A store whose run is known. -/
theorem step_store_known (hg : o.guard = none) (ty : TypeId) (x y : Operand) (hop : o.op = .store ty x y) (ad : Addr) (v : Value) (hx : a.eval x = .pointer (some ad)) (hy : a.eval y = v) {w' : World} (hr : (storeVar ty ad v).run P w = .ok () w') (hK : K (a.put o.dst undef) w') :
    if Region.wanted o (yielded ops a.tmps) = true then Oper.wp P o a w K Q else E := by
  rw [if_pos (by simp [Region.wanted, hg])]
  unfold Oper.wp execOp
  simp only [hop, hx, hy, Instr.storeAt, Instr.sureAddr, Sem.run_bind, Sem.run_pure, Result.andThen_ok, hr]
  exact hK
end
theorem build0_run (X : World) : (Instr.buildSlice 22 0 #[]).run Tryd.prog X = .ok (.slice (some ⟨X.heap.size, 0, none⟩) 0 0) (X.alloc (.cells #[] 45)) := by kernel_rfl
def ev6 (e : En) : Value := .agg #[.int .i64 e.ep, .int .i64 e.o.id, .int .i64 e.o.st, .int .i64 e.o.ex, .int .i64 e.o.ki, .int .i64 e.o.ar]
theorem build1_run (e : En) (X : World) : (Instr.buildSlice 22 1 #[(0, ev6 e)]).run Tryd.prog X = .ok (.slice (some ⟨X.heap.size, 0, none⟩) 1 1) (X.alloc (.cells #[.int .i64 e.ep, .int .i64 e.o.id, .int .i64 e.o.st, .int .i64 e.o.ex, .int .i64 e.o.ki, .int .i64 e.o.ar] 45)) := by kernel_rfl
theorem build2_run (e : En) (X : World) : (Instr.buildSlice 22 2 #[(0, ev6 e), (1, ev6 e)]).run Tryd.prog X = .ok (.slice (some ⟨X.heap.size, 0, none⟩) 2 2) (X.alloc (.cells #[.int .i64 e.ep, .int .i64 e.o.id, .int .i64 e.o.st, .int .i64 e.o.ex, .int .i64 e.o.ki, .int .i64 e.o.ar, .int .i64 e.ep, .int .i64 e.o.id, .int .i64 e.o.st, .int .i64 e.o.ex, .int .i64 e.o.ki, .int .i64 e.o.ar] 45)) := by kernel_rfl
theorem alloc_st (X : World) : (Instr.alloc 25 true (.tuple #[])).run Tryd.prog X = .ok (.pointer (some ⟨X.heap.size, 0, none⟩)) (X.alloc (.cells #[.int .i64 0, .bool false, .int .i64 0, .int .i64 0] 25)) := by kernel_rfl
theorem own_empty {X : World} {g base : Nat} (h : X.heap[g]? = some (.cells #[] 45 (0, 0))) (hb : base ≤ g) : X.ownsRow base 45 6 (.slice (some ⟨g, 0, none⟩) 0 0) 0 [] :=
  ⟨by simp, .inr ⟨g, 0, #[], rfl, hb, h, Nat.le_refl _, Nat.zero_le _, by simp, by simp⟩⟩
/-- Entries as a block has them. -/
theorem es_heap {X : World} {g : Nat} {es : List En} {cs : Array Value} (h : X.heap[g]? = some (.cells cs 45 (0, 0))) (hc : cs.toList = ecs es) (hl : es.length ≤ 1000) : EsB X.heap.size X (.slice (some ⟨g, 0, none⟩) es.length es.length) es := by
  refine ⟨_, es.length, rfl, Nat.le_refl _, by unfold maxLen; omega, (fun e => by cases e), fun _ => ⟨g, 0, rfl, lt_of_block h, fun j x hj => ?_⟩⟩
  rw [Nat.zero_add, Lib.cell_of_heap h]
  rw [← Array.getElem?_toList, hc, ecs, List.getElem?_map, hj]; rfl
/-- The log put behind an empty row of one's own: nothing that was there changes. -/
theorem put_log {X : World} {B base g : Nat} {ka : Value} {es : List En} (h : X.heap[g]? = some (.cells #[] 45 (0, 0))) (hg : base ≤ g) (hk : EsB B X ka es) (hnl : es.length ≤ 100000) :
    ∃ A c w', (Builtin.append_ #[22, 22] 22 #[.slice (some ⟨g, 0, none⟩) 0 0, ka]).run Tryd.prog X = .ok (.slice A es.length c) w' ∧ w'.ownsRow base 45 6 (.slice A es.length c) es.length (ecs es) ∧ X.grownBy w' (some g) := by
  obtain ⟨A, c, w', hr, ho, hgr, _⟩ := run_append_es (own_empty h hg) hk (Nat.le_trans hg (Nat.le_of_lt (lt_of_block h))) (by omega)
  rw [Nat.zero_add] at hr ho
  exact ⟨A, c, w', hr, by simpa using ho, hgr⟩
theorem own_ne_state {X : World} {base n g : Nat} {v : Value} {xs : List Value} {cs : Array Value} (h : X.ownsRow base 45 6 v n xs) (hF : X.heap[g]? = some (.cells cs 25 (0, 0))) : v.ownBlock ≠ some g := fun e => by
  rcases h.2 with ⟨rfl, _⟩ | ⟨q, cap, cur, rfl, _, hq, _⟩
  · cases e
  · obtain rfl : q = g := by simpa [Value.ownBlock] using e
    rw [hq] at hF
    simp at hF
theorem ocs_bounds {X Y : World} {v : Value} {os : List Oc} (h : OcsB X.heap.size Y.heap.size Y v os) : ∃ lo hi, OcsB lo hi Y v os ∧ lo = X.heap.size ∧ hi ≤ Y.heap.size ∧ hi = Y.heap.size := ⟨_, _, h, rfl, Nat.le_refl _, rfl⟩
end Go.Proofs.YtafhjlfnhgkcoaaDoor
