/-
  Regions that draw their order and make memory, for records and mail: each operation by a law that names the world behind it. Twins of entries and spots: rows of one's own, with room behind, put together in regions that draw. Entries of the document's records: their marks. May and Check of the document's mail. Encode of the document's mail. Decode of the document's mail.
-/
import Derived.Test.YtkdnhfeamibmdaaDoorRcPutAll
import Derived.Deep.RegionHeld3
import Derived.Maps.AppendAt
import Derived.Deep.Upon
import Derived.Test.YtkdnhfeamibmdaaDoorRcDec
import Derived.Deep.AppendSrc
import Derived.ArgAppend
import Derived.OwnWalk
import Derived.Test.YtkdnhfeamibmdaaDoorMmHas
import Derived.Test.YtkdnhfeamibmdaaDoorMmP
import Derived.Test.YtkdnhfeamibmdaaDoorMmR
import Derived.Test.YtkdnhfeamibmdaaDoorMmQ
import Derived.Test.YtkdnhfeamibmdaaDoorORMay
import Derived.Test.YtkdnhfeamibmdaaDoorMlMem
import Derived.Test.YtkdnhfeamibmdaaDoorMlEnc
import Derived.Test.YtkdnhfeamibmdaaDoorMlMofM
import Derived.Deep.DeepCutAuto
import Derived.Test.YtkdnhfeamibmdaaDoorRcRlog
import Derived.Test.YtkdnhfeamibmdaaDoorRcRord
import Derived.Test.YtkdnhfeamibmdaaDoorMmWo
namespace Go.Proofs.YtkdnhfeamibmdaaDoor
open Go.RowKit
theorem keepH {X Y : World} {g : Nat} {o : Obj} (hb : Below X.heap.size X Y) (h : X.heap[g]? = some o) : Y.heap[g]? = some o := (hb.block g (Array.getElem?_eq_some_iff.1 h).1).trans h
theorem keepG {X Y : World} {g : Nat} {o : Obj} {row : Option Nat} (hg : X.grownBy Y row) (h : X.heap[g]? = some o) (hne : row ≠ some g) : Y.heap[g]? = some o := (hg.block g (Array.getElem?_eq_some_iff.1 h).1 (fun e => hne e.symm)).trans h
theorem ne_heap {X : World} {a b : Nat} {o o' : Obj} (h : X.heap[a]? = some o) (h' : X.heap[b]? = some o') (hne : o ≠ o') : a ≠ b := fun e => by subst e; rw [h] at h'; exact hne (Option.some.inj h')
theorem keepB {W X Y : World} (h : Below W.heap.size W X) (hb : Below X.heap.size X Y) : Below W.heap.size W Y := h.trans (hb.mono h.size)
theorem below_grow {w w' : World} {row : Option Nat} {B : Nat} (h : w.grownBy w' row) (hB : ∀ q, q < B → row ≠ some q) (hz : B ≤ w.heap.size) : Below B w w' :=
  ⟨h.os, h.tape, h.output, h.size, fun q hq => h.block q (by omega) (fun e => hB q hq e.symm)⟩
theorem heap_lt {w : World} {b : Nat} {o : Obj} (h : w.heap[b]? = some o) : b < w.heap.size := (Array.getElem?_eq_some_iff.1 h).1
section
variable {P : Program} {ops : Array Oper} {o : Oper} {a : Act} {w : World} {K : Act → World → Prop} {Q : Exit → Act → World → Prop} {E : Prop}
/-- A slice that is built of parts, in new memory. -/
theorem step_build_new (hg : o.guard = none) (t : TypeId) (n : Nat) (parts : Array (Nat × Operand)) (ps : Array (Nat × Value)) (hop : o.op = Op.buildSlice t n parts)
    (hp : parts.map (fun (i, x) => (i, a.eval x)) = ps) (cs : Array Value) (T : TypeId) (hr : ∀ X : World, (Instr.buildSlice t n ps).run P X = .ok (.slice (some ⟨X.heap.size, 0, none⟩) n n) (X.alloc (.cells cs T)))
    (hK : ∀ (g : Nat) (w' : World), w'.heap[g]? = some (.cells cs T (0, 0)) → w.heap.size ≤ g → Below w.heap.size w w' → K (a.put o.dst (.slice (some ⟨g, 0, none⟩) n n)) w') :
    if Region.wanted o (yielded ops a.tmps) = true then Oper.wp P o a w K Q else E := by
  rw [if_pos (by simp [Region.wanted, hg])]
  unfold Oper.wp
  simp only [execOp, hop, Sem.run_bind, Sem.run_pure]
  rw [hp, hr]
  exact hK w.heap.size _ (heap_alloc_new w _) (Nat.le_refl _) ((Below.refl _ _).alloc (Nat.le_refl _) _)
/-- A row that is made, in new memory. -/
theorem step_make_new (hg : o.guard = none) (t : TypeId) (x y : Operand) (hop : o.op = Op.makeSlice t x y) (n : Nat) (hx : a.eval x = .int .i64 0) (hy : a.eval y = .int .i64 (n : Int)) (cs : Array Value) (T : TypeId)
    (hr : ∀ X : World, (Instr.makeSlice t (.int .i64 0) (.int .i64 (n : Int))).run P X = .ok (.slice (some ⟨X.heap.size, 0, none⟩) 0 n) (X.alloc (.cells cs T)))
    (hK : ∀ (g : Nat) (w' : World), w'.heap[g]? = some (.cells cs T (0, 0)) → w.heap.size ≤ g → Below w.heap.size w w' → K (a.put o.dst (.slice (some ⟨g, 0, none⟩) 0 n)) w') :
    if Region.wanted o (yielded ops a.tmps) = true then Oper.wp P o a w K Q else E := by
  rw [if_pos (by simp [Region.wanted, hg])]
  unfold Oper.wp
  simp only [execOp, hop, Sem.run_bind, Sem.run_pure]
  rw [hx, hy, hr]
  exact hK w.heap.size _ (heap_alloc_new w _) (Nat.le_refl _) ((Below.refl _ _).alloc (Nat.le_refl _) _)
/-- A store whose run is known. -/
theorem step_store_known (hg : o.guard = none) (ty : TypeId) (x y : Operand) (hop : o.op = .store ty x y) (ad : Addr) (v : Value) (hx : a.eval x = .pointer (some ad)) (hy : a.eval y = v) {w' : World} (hr : (storeVar ty ad v).run P w = .ok () w') (hK : K (a.put o.dst undef) w') :
    if Region.wanted o (yielded ops a.tmps) = true then Oper.wp P o a w K Q else E := by
  rw [if_pos (by simp [Region.wanted, hg])]
  unfold Oper.wp execOp
  simp only [hop, hx, hy, Instr.storeAt, Instr.sureAddr, Sem.run_bind, Sem.run_pure, Result.andThen_ok, hr]
  exact hK
theorem step_app_known (hg : o.guard = none) (d x : Operand) (dT sT : TypeId) (hop : o.op = Op.call { callee := Callee.builtin Builtin.append, args := #[d, x], argTypes := #[dT, sT] })
    (v u : Value) (hd : a.eval d = v) (hx : a.eval x = u) {v' : Value} {w' : World} (hr : (Builtin.append_ #[dT, sT] o.type #[v, u]).run P w = .ok v' w') (hK : K (a.put o.dst v') w') :
    if Region.wanted o (yielded ops a.tmps) = true then Oper.wp P o a w K Q else E := by
  rw [if_pos (by simp [Region.wanted, hg])]
  unfold Oper.wp
  simp [execOp, hop, resolve, invoke, builtin, hd, hx, hr, Result.andThen]
  exact hK
end
end Go.Proofs.YtkdnhfeamibmdaaDoor
namespace Go.Proofs.YtkdnhfeamibmdaaDoor
open Go.RowKit Go.Sort Go.Maps
def ecs (es : List En) : List Value := (es.map En.l).flatten.map (Value.int .i64)
theorem ecs_append (a b : List En) : ecs (a ++ b) = ecs a ++ ecs b := by simp [ecs]
theorem en_flat (es : List En) : (es.map En.l).flatten.length = es.length * 6 := by
  rw [flatten_len (k := 6) (fun x hx => by obtain ⟨e, _, rfl⟩ := List.mem_map.1 hx; rfl), List.length_map]
theorem ecs_len (es : List En) : (ecs es).length = es.length * 6 := by rw [ecs, List.length_map, en_flat]
theorem ecs_one (es : List En) : ∀ u ∈ ecs es, u.oneCell' = true := by
  intro u hu
  obtain ⟨n, _, rfl⟩ := List.mem_map.1 hu
  rfl
theorem Tryd.info_rentry : (Tryd.prog.info? 30).map (fun i => (i.zero, i.size, i.bytes)) = some (some (.agg #[.int .i64 0, .int .i64 0, .int .i64 0, .int .i64 0, .int .i64 0, .int .i64 0]), 6, 48) := by kernel_rfl
theorem own_is_slice {w : World} {base : Nat} {e : TypeId} {size n : Nat} {v : Value} {xs : List Value} (h : w.ownsRow base e size v n xs) : ∃ A c, v = .slice A n c ∧ n ≤ c := by
  rcases h.2 with ⟨rfl, rfl⟩ | ⟨g, cap, cur, rfl, _, _, hnc, _⟩
  · exact ⟨none, 0, rfl, Nat.le_refl _⟩
  · exact ⟨_, _, rfl, hnc⟩
/-- 'append' of entries, whosever, to a row of one's own. -/
theorem run_append_es {w : World} {B base n : Nat} {v ka : Value} {xs : List Value} {es : List En} (ho : w.ownsRow base 30 6 v n xs) (hk : EsB B w ka es) (hb : base ≤ w.heap.size) (hnl : n + es.length ≤ 1000000) :
    ∃ A c w', (Builtin.append_ #[22, 22] 22 #[v, ka]).run Tryd.prog w = .ok (.slice A (n + es.length) c) w' ∧ w'.ownsRow base 30 6 (.slice A (n + es.length) c) (n + es.length) (xs ++ ecs es) ∧ w.grownBy w' v.ownBlock ∧ ((Value.slice A (n + es.length) c).ownBlock = v.ownBlock ∨ (Value.slice A (n + es.length) c).ownBlock = some w.heap.size) := by
  obtain ⟨i0, hi0, hz0, hz1, hz2⟩ := info_parts Tryd.info_rentry
  obtain ⟨KA, kc, rfl, h1, h2, h3, h4⟩ := hk
  rcases es with _ | ⟨y, l⟩
  · obtain ⟨A, c, rfl, hac⟩ := own_is_slice ho
    have hs : Src Tryd.prog i0.size 22 (.slice KA 0 kc) 0 [] w := by
      rcases KA with _ | a
      · exact Src.ofNil w Tryd.underlying22 kc
      · exact Src.ofSlice w Tryd.underlying22 a 0 kc [] (by simp) (fun j u h => by simp at h) (fun u h => by simp at h)
    refine ⟨A, c, w, run_append_nothing w _ _ _ 30 i0 Tryd.underlying22 hi0 A n c hac _ hs, ?_, World.grownBy.refl w _, .inl rfl⟩
    simpa [ecs] using ho
  · obtain ⟨b, off, rfl, hbl, hc⟩ := h4 (by simp)
    obtain ⟨v', w', hr, ho', hg, _, hat⟩ := run_append_own_at (P := Tryd.prog) w base 22 22 30 i0 _ 6 48 Tryd.underlying22 hi0 hz0 hz1 hz2 rfl (by decide) v n xs ho ⟨b, off, none⟩ (y :: l).length kc (ecs (y :: l)) (ecs_len _)
      (fun j u hu => by
        rw [ecs, List.getElem?_map] at hu
        obtain ⟨x, hx, rfl⟩ := Option.map_eq_some_iff.1 hu
        rw [Addr.add_lit]; exact hc j x hx) (ecs_one _) (Nat.le_trans hnl (by decide)) (by omega) hb
    obtain ⟨A, c, rfl, _⟩ := own_is_slice ho'
    exact ⟨A, c, w', hr, ho', hg, hat⟩
/-- A row of one's own of entries reads so. -/
theorem own_eshape {w : World} {base n : Nat} {v : Value} {xs : List Value} (h : w.ownsRow base 30 6 v n xs) (hn : 0 < n) : ∃ g c, v = .slice (some ⟨g, 0, none⟩) n c ∧ base ≤ g ∧ g < w.heap.size ∧ n ≤ c ∧ c ≤ maxLen ∧ (∀ i, w.frozen? ⟨g, i, none⟩ = false) ∧ ∀ j, j < n * 6 → w.cell? ⟨g, j, none⟩ = xs[j]? := by
  rcases h.2 with ⟨_, h0⟩ | ⟨g, cap, cur, hv, hb, hg, hnc, hcm, hcs, ht⟩
  · omega
  · have hr := h
    rw [hv] at hr
    exact ⟨g, cap, hv, hb, lt_of_block hg, hnc, hcm, fun i => Lib.frozen_of_heap hg i, fun j hj => World.ownsRow.cellAt hr j hj⟩
theorem own_es {w : World} {base : Nat} {v : Value} {es : List En} (h : w.ownsRow base 30 6 v es.length (ecs es)) (hl : es.length ≤ 1000000) : EsB w.heap.size w v es := by
  by_cases h0 : es.length = 0
  · obtain rfl : es = [] := List.eq_nil_of_length_eq_zero h0
    rcases h.2 with ⟨rfl, _⟩ | ⟨g, cap, cur, rfl, hb, hg, hnc, hcm, _⟩
    · exact ⟨none, 0, rfl, Nat.le_refl _, Nat.zero_le _, fun _ => ⟨rfl, rfl⟩, fun h => by simp at h⟩
    · exact ⟨_, cap, rfl, Nat.zero_le _, hcm, (fun e => by cases e), fun h => by simp at h⟩
  · obtain ⟨g, c, rfl, hb, hg, hnc, hcm, _, hx⟩ := own_eshape h (by omega)
    refine ⟨_, c, rfl, hnc, hcm, (fun e => by cases e), fun _ => ⟨g, 0, rfl, hg, fun j x hj => ?_⟩⟩
    have hjl : j < es.length * 6 := by rw [← en_flat]; exact (List.getElem?_eq_some_iff.1 hj).1
    rw [Nat.zero_add, hx j hjl, ecs, List.getElem?_map, hj]; rfl
def ezs (n : Nat) : Array Value := madeCells (Value.agg #[.int .i64 0, .int .i64 0, .int .i64 0, .int .i64 0, .int .i64 0, .int .i64 0]).cells (n * 6)
theorem emade_run (X : World) (n : Nat) (hn : n ≤ 100000) : (Instr.makeSlice 22 (.int .i64 0) (.int .i64 (n : Int))).run Tryd.prog X = .ok (.slice (some ⟨X.heap.size, 0, none⟩) 0 n) (X.alloc (.cells (ezs n) 30)) := by
  obtain ⟨i0, hi0, hz0, hz1, hz2⟩ := info_parts Tryd.info_rentry
  have h := run_makeSlice (P := Tryd.prog) X 22 30 i0 _ Tryd.underlying22 hi0 hz0 .i64 .i64 0 (n : Int) (Int.le_refl _) (by omega) (by rw [hz1]; omega) (by rw [hz2]; omega) (by omega)
  rw [hz1] at h
  exact h
theorem emade_own (X : World) {n : Nat} (hn : n ≤ 100000) : (X.alloc (.cells (ezs n) 30)).ownsRow X.heap.size 30 6 (.slice (some ⟨X.heap.size, 0, none⟩) 0 n) 0 [] := by
  refine ⟨rfl, .inr ⟨X.heap.size, n, ezs n, rfl, Nat.le_refl _, heap_alloc_new X _, Nat.zero_le _, Nat.le_trans hn (by decide), ?_, rfl⟩⟩
  simp [ezs, madeCells]
def fcs (es : List Sp) : List Value := (es.map Sp.l).flatten.map (Value.int .i64)
theorem fcs_append (a b : List Sp) : fcs (a ++ b) = fcs a ++ fcs b := by simp [fcs]
theorem sp_flat (es : List Sp) : (es.map Sp.l).flatten.length = es.length * 2 := by
  rw [flatten_len (k := 2) (fun x hx => by obtain ⟨e, _, rfl⟩ := List.mem_map.1 hx; rfl), List.length_map]
theorem fcs_len (es : List Sp) : (fcs es).length = es.length * 2 := by rw [fcs, List.length_map, sp_flat]
theorem fcs_one (es : List Sp) : ∀ u ∈ fcs es, u.oneCell' = true := by
  intro u hu
  obtain ⟨n, _, rfl⟩ := List.mem_map.1 hu
  rfl
theorem Tryd.info_rspot : (Tryd.prog.info? 32).map (fun i => (i.zero, i.size, i.bytes)) = some (some (.agg #[.int .i64 0, .int .i64 0]), 2, 16) := by kernel_rfl
/-- 'append' of entries, whosever, to a row of one's own. -/
theorem run_append_fs {w : World} {B base n : Nat} {v ka : Value} {xs : List Value} {es : List Sp} (ho : w.ownsRow base 32 2 v n xs) (hk : FdB B w ka es) (hb : base ≤ w.heap.size) (hnl : n + es.length ≤ 1000000) :
    ∃ A c w', (Builtin.append_ #[23, 23] 23 #[v, ka]).run Tryd.prog w = .ok (.slice A (n + es.length) c) w' ∧ w'.ownsRow base 32 2 (.slice A (n + es.length) c) (n + es.length) (xs ++ fcs es) ∧ w.grownBy w' v.ownBlock ∧ ((Value.slice A (n + es.length) c).ownBlock = v.ownBlock ∨ (Value.slice A (n + es.length) c).ownBlock = some w.heap.size) := by
  obtain ⟨i0, hi0, hz0, hz1, hz2⟩ := info_parts Tryd.info_rspot
  obtain ⟨KA, kc, rfl, h1, h2, h3, h4⟩ := hk
  rcases es with _ | ⟨y, l⟩
  · obtain ⟨A, c, rfl, hac⟩ := own_is_slice ho
    have hs : Src Tryd.prog i0.size 23 (.slice KA 0 kc) 0 [] w := by
      rcases KA with _ | a
      · exact Src.ofNil w Tryd.underlying23 kc
      · exact Src.ofSlice w Tryd.underlying23 a 0 kc [] (by simp) (fun j u h => by simp at h) (fun u h => by simp at h)
    refine ⟨A, c, w, run_append_nothing w _ _ _ 32 i0 Tryd.underlying23 hi0 A n c hac _ hs, ?_, World.grownBy.refl w _, .inl rfl⟩
    simpa [fcs] using ho
  · obtain ⟨b, off, rfl, hbl, hc⟩ := h4 (by simp)
    obtain ⟨v', w', hr, ho', hg, _, hat⟩ := run_append_own_at (P := Tryd.prog) w base 23 23 32 i0 _ 2 16 Tryd.underlying23 hi0 hz0 hz1 hz2 rfl (by decide) v n xs ho ⟨b, off, none⟩ (y :: l).length kc (fcs (y :: l)) (fcs_len _)
      (fun j u hu => by
        rw [fcs, List.getElem?_map] at hu
        obtain ⟨x, hx, rfl⟩ := Option.map_eq_some_iff.1 hu
        rw [Addr.add_lit]; exact hc j x hx) (fcs_one _) (Nat.le_trans hnl (by decide)) (by omega) hb
    obtain ⟨A, c, rfl, _⟩ := own_is_slice ho'
    exact ⟨A, c, w', hr, ho', hg, hat⟩
/-- A row of one's own of entries reads so. -/
theorem own_fshape {w : World} {base n : Nat} {v : Value} {xs : List Value} (h : w.ownsRow base 32 2 v n xs) (hn : 0 < n) : ∃ g c, v = .slice (some ⟨g, 0, none⟩) n c ∧ base ≤ g ∧ g < w.heap.size ∧ n ≤ c ∧ c ≤ maxLen ∧ (∀ i, w.frozen? ⟨g, i, none⟩ = false) ∧ ∀ j, j < n * 2 → w.cell? ⟨g, j, none⟩ = xs[j]? := by
  rcases h.2 with ⟨_, h0⟩ | ⟨g, cap, cur, hv, hb, hg, hnc, hcm, hcs, ht⟩
  · omega
  · have hr := h
    rw [hv] at hr
    exact ⟨g, cap, hv, hb, lt_of_block hg, hnc, hcm, fun i => Lib.frozen_of_heap hg i, fun j hj => World.ownsRow.cellAt hr j hj⟩
theorem own_fs {w : World} {base : Nat} {v : Value} {es : List Sp} (h : w.ownsRow base 32 2 v es.length (fcs es)) (hl : es.length ≤ 1000000) : FdB w.heap.size w v es := by
  by_cases h0 : es.length = 0
  · obtain rfl : es = [] := List.eq_nil_of_length_eq_zero h0
    rcases h.2 with ⟨rfl, _⟩ | ⟨g, cap, cur, rfl, hb, hg, hnc, hcm, _⟩
    · exact ⟨none, 0, rfl, Nat.le_refl _, Nat.zero_le _, fun _ => ⟨rfl, rfl⟩, fun h => by simp at h⟩
    · exact ⟨_, cap, rfl, Nat.zero_le _, hcm, (fun e => by cases e), fun h => by simp at h⟩
  · obtain ⟨g, c, rfl, hb, hg, hnc, hcm, _, hx⟩ := own_fshape h (by omega)
    refine ⟨_, c, rfl, hnc, hcm, (fun e => by cases e), fun _ => ⟨g, 0, rfl, hg, fun j x hj => ?_⟩⟩
    have hjl : j < es.length * 2 := by rw [← sp_flat]; exact (List.getElem?_eq_some_iff.1 hj).1
    rw [Nat.zero_add, hx j hjl, fcs, List.getElem?_map, hj]; rfl
def fzs (n : Nat) : Array Value := madeCells (Value.agg #[.int .i64 0, .int .i64 0]).cells (n * 2)
theorem fmade_run (X : World) (n : Nat) (hn : n ≤ 100000) : (Instr.makeSlice 23 (.int .i64 0) (.int .i64 (n : Int))).run Tryd.prog X = .ok (.slice (some ⟨X.heap.size, 0, none⟩) 0 n) (X.alloc (.cells (fzs n) 32)) := by
  obtain ⟨i0, hi0, hz0, hz1, hz2⟩ := info_parts Tryd.info_rspot
  have h := run_makeSlice (P := Tryd.prog) X 23 32 i0 _ Tryd.underlying23 hi0 hz0 .i64 .i64 0 (n : Int) (Int.le_refl _) (by omega) (by rw [hz1]; omega) (by rw [hz2]; omega) (by omega)
  rw [hz1] at h
  exact h
theorem fmade_own (X : World) {n : Nat} (hn : n ≤ 100000) : (X.alloc (.cells (fzs n) 32)).ownsRow X.heap.size 32 2 (.slice (some ⟨X.heap.size, 0, none⟩) 0 n) 0 [] := by
  refine ⟨rfl, .inr ⟨X.heap.size, n, fzs n, rfl, Nat.le_refl _, heap_alloc_new X _, Nat.zero_le _, Nat.le_trans hn (by decide), ?_, rfl⟩⟩
  simp [fzs, madeCells]
def e70 : En := ⟨-70, ⟨0, 0, 0, 0, 0⟩⟩
def f70 : Sp := ⟨0, -70⟩
theorem emade_heap {X : World} {g base n : Nat} (h : X.heap[g]? = some (.cells (ezs n) 30 (0, 0))) (hb : base ≤ g) (hn : n ≤ 100000) : X.ownsRow base 30 6 (.slice (some ⟨g, 0, none⟩) 0 n) 0 [] := by
  refine ⟨rfl, .inr ⟨g, n, ezs n, rfl, hb, h, Nat.zero_le _, Nat.le_trans hn (by decide), ?_, rfl⟩⟩
  simp [ezs, madeCells]
theorem fmade_heap {X : World} {g base n : Nat} (h : X.heap[g]? = some (.cells (fzs n) 32 (0, 0))) (hb : base ≤ g) (hn : n ≤ 100000) : X.ownsRow base 32 2 (.slice (some ⟨g, 0, none⟩) 0 n) 0 [] := by
  refine ⟨rfl, .inr ⟨g, n, fzs n, rfl, hb, h, Nat.zero_le _, Nat.le_trans hn (by decide), ?_, rfl⟩⟩
  simp [fzs, madeCells]
theorem es_heap {X : World} {g : Nat} {es : List En} {cs : Array Value} (h : X.heap[g]? = some (.cells cs 30 (0, 0))) (hc : cs.toList = ecs es) (hl : es.length ≤ 1000) : EsB X.heap.size X (.slice (some ⟨g, 0, none⟩) es.length es.length) es := by
  refine ⟨_, es.length, rfl, Nat.le_refl _, by unfold maxLen; omega, (fun e => by cases e), fun _ => ⟨g, 0, rfl, heap_lt h, fun j x hj => ?_⟩⟩
  rw [Nat.zero_add, Lib.cell_of_heap h, ← Array.getElem?_toList, hc, ecs, List.getElem?_map, hj]; rfl
theorem fs_heap {X : World} {g : Nat} {es : List Sp} {cs : Array Value} (h : X.heap[g]? = some (.cells cs 32 (0, 0))) (hc : cs.toList = fcs es) (hl : es.length ≤ 1000) : FdB X.heap.size X (.slice (some ⟨g, 0, none⟩) es.length es.length) es := by
  refine ⟨_, es.length, rfl, Nat.le_refl _, by unfold maxLen; omega, (fun e => by cases e), fun _ => ⟨g, 0, rfl, heap_lt h, fun j x hj => ?_⟩⟩
  rw [Nat.zero_add, Lib.cell_of_heap h, ← Array.getElem?_toList, hc, fcs, List.getElem?_map, hj]; rfl
/-- A twin of entries, with what stands behind it. -/
def TwE (base : Nat) (X : World) (g c : Nat) (es : List En) : Prop := EsB X.heap.size X (.slice (some ⟨g, 0, none⟩) es.length c) es ∧ X.cell? ⟨g, es.length * 6, none⟩ = some (.int .i64 (-70)) ∧ base ≤ g ∧ g < X.heap.size ∧ es.length + 1 ≤ c ∧ c ≤ maxLen
def TwF (base : Nat) (X : World) (g c : Nat) (es : List Sp) : Prop := FdB X.heap.size X (.slice (some ⟨g, 0, none⟩) es.length c) es ∧ X.cell? ⟨g, es.length * 2 + 1, none⟩ = some (.int .i64 (-70)) ∧ base ≤ g ∧ g < X.heap.size ∧ es.length + 1 ≤ c ∧ c ≤ maxLen
theorem TwE.below {base : Nat} {X Y : World} {g c : Nat} {es : List En} (h : TwE base X g c es) (hb : Below X.heap.size X Y) : TwE base Y g c es :=
  ⟨(RdB.below h.1 hb (Nat.le_refl _)).mono hb.size, (hb.cell (p := ⟨g, _, none⟩) h.2.2.2.1).trans h.2.1, h.2.2.1, Nat.lt_of_lt_of_le h.2.2.2.1 hb.size, h.2.2.2.2⟩
theorem TwF.below {base : Nat} {X Y : World} {g c : Nat} {es : List Sp} (h : TwF base X g c es) (hb : Below X.heap.size X Y) : TwF base Y g c es :=
  ⟨(RdB.below h.1 hb (Nat.le_refl _)).mono hb.size, (hb.cell (p := ⟨g, _, none⟩) h.2.2.2.1).trans h.2.1, h.2.2.1, Nat.lt_of_lt_of_le h.2.2.2.1 hb.size, h.2.2.2.2⟩
theorem es_cut {B : Nat} {w : World} {A : Option Addr} {n c : Nat} {es : List En} (h : EsB B w (.slice A n c) es) {i : Nat} (hi : i ≤ es.length) : EsB B w (.slice A i c) (es.take i) := by
  obtain ⟨A', c', hv, h2, h3, h4, h5⟩ := h
  injection hv with e1 _ e3
  subst e1 e3
  have hl : (es.take i).length = i := by simp [Nat.min_eq_left hi]
  refine ⟨A, c, by rw [hl], by omega, h3, fun e => ?_, fun h0 => ?_⟩
  · have := h4 e; omega
  · obtain ⟨b, o, rfl, hl', hc⟩ := h5 (by omega)
    refine ⟨b, o, rfl, hl', fun j x hj => hc j x ?_⟩
    have hf : (es.map En.l).flatten = ((es.take i).map En.l).flatten ++ ((es.drop i).map En.l).flatten := by
      rw [← List.flatten_append, ← List.map_append, List.take_append_drop]
    rw [hf, List.getElem?_append_left (List.getElem?_eq_some_iff.1 hj).1]
    exact hj
theorem fs_cut {B : Nat} {w : World} {A : Option Addr} {n c : Nat} {es : List Sp} (h : FdB B w (.slice A n c) es) {i : Nat} (hi : i ≤ es.length) : FdB B w (.slice A i c) (es.take i) := by
  obtain ⟨A', c', hv, h2, h3, h4, h5⟩ := h
  injection hv with e1 _ e3
  subst e1 e3
  have hl : (es.take i).length = i := by simp [Nat.min_eq_left hi]
  refine ⟨A, c, by rw [hl], by omega, h3, fun e => ?_, fun h0 => ?_⟩
  · have := h4 e; omega
  · obtain ⟨b, o, rfl, hl', hc⟩ := h5 (by omega)
    refine ⟨b, o, rfl, hl', fun j x hj => hc j x ?_⟩
    have hf : (es.map Sp.l).flatten = ((es.take i).map Sp.l).flatten ++ ((es.drop i).map Sp.l).flatten := by
      rw [← List.flatten_append, ← List.map_append, List.take_append_drop]
    rw [hf, List.getElem?_append_left (List.getElem?_eq_some_iff.1 hj).1]
    exact hj
theorem tw_own {w : World} {base : Nat} {v : Value} {es : List En} (h : w.ownsRow base 30 6 v (es.length + 1) (ecs es ++ ecs [e70])) (hl : es.length ≤ 90000) : ∃ g c, v = .slice (some ⟨g, 0, none⟩) (es.length + 1) c ∧ TwE base w g c es := by
  obtain ⟨g, c, rfl, hb, hg, hnc, hcm, _, hx⟩ := own_eshape h (by omega)
  have he := own_es (es := es ++ [e70]) (by rw [ecs_append]; simpa using h) (by simp; omega)
  refine ⟨g, c, rfl, by simpa using es_cut he (i := es.length) (by simp), ?_, hb, hg, hnc, hcm⟩
  rw [hx _ (by omega), List.getElem?_append_right (by rw [ecs_len]; exact Nat.le_refl _), ecs_len, Nat.sub_self]; rfl
theorem tw_ownf {w : World} {base : Nat} {v : Value} {es : List Sp} (h : w.ownsRow base 32 2 v (es.length + 1) (fcs es ++ fcs [f70])) (hl : es.length ≤ 90000) : ∃ g c, v = .slice (some ⟨g, 0, none⟩) (es.length + 1) c ∧ TwF base w g c es := by
  obtain ⟨g, c, rfl, hb, hg, hnc, hcm, _, hx⟩ := own_fshape h (by omega)
  have he := own_fs (es := es ++ [f70]) (by rw [fcs_append]; simpa using h) (by simp; omega)
  refine ⟨g, c, rfl, by simpa using fs_cut he (i := es.length) (by simp), ?_, hb, hg, hnc, hcm⟩
  rw [hx _ (by omega), List.getElem?_append_right (by rw [fcs_len]; omega), fcs_len, show es.length * 2 + 1 - es.length * 2 = 1 by omega]; rfl
theorem cell_at {X : World} {g i : Nat} {cs : Array Value} {t : TypeId} {fr : Nat × Nat} {v : Value} (h : X.heap[g]? = some (.cells cs t fr)) (hv : cs[i]? = some v) : X.cell? ⟨g, i, none⟩ = some v := by
  rw [Lib.cell_of_heap h]; exact hv
theorem keepR {X Y : World} {base n size : Nat} {t : TypeId} {v : Value} {xs : List Value} (hb : Below X.heap.size X Y) (h : X.ownsRow base t size v n xs) : Y.ownsRow base t size v n xs :=
  owns_foot h (below_foot hb : Foot (fun _ => False) X Y) fun _ _ e => e
theorem set_else {X : World} {a : Addr} {u : Value} {k : Nat} {o : Obj} (h : X.heap[k]? = some o) (hne : k ≠ a.block) : (X.setCell a u).heap[k]? = some o := (Below.heap_setCell _ _ _ _ hne).trans h
theorem cell_else {X : World} {a b : Addr} {u : Value} (hne : a.block ≠ b.block) : (X.setCell a u).cell? b = X.cell? b := World.cell?_setCell_far X a b u hne
theorem TwE.far {base : Nat} {X : World} {g c : Nat} {es : List En} {a : Addr} {u : Value} (h : TwE base X g c es) (hne : a.block < base) : TwE base (X.setCell a u) g c es := by
  obtain ⟨h1, h2, h3, h4, h5⟩ := h
  refine ⟨?_, (cell_else (by show a.block ≠ g; omega)).trans h2, h3, by simpa [World.setCell] using h4, h5⟩
  obtain ⟨A, c', hv, k1, k2, k3, k4⟩ := h1
  refine ⟨A, c', hv, k1, k2, k3, fun h0 => ?_⟩
  obtain ⟨b, o, rfl, kl, kc⟩ := k4 h0
  injection hv with e1 _ _
  injection e1 with e1
  injection e1 with e1 _ _
  exact ⟨b, o, rfl, by simpa [World.setCell] using kl, fun j x hx => (cell_else (by show a.block ≠ b; omega)).trans (kc j x hx)⟩
theorem TwF.far {base : Nat} {X : World} {g c : Nat} {es : List Sp} {a : Addr} {u : Value} (h : TwF base X g c es) (hne : a.block < base) : TwF base (X.setCell a u) g c es := by
  obtain ⟨h1, h2, h3, h4, h5⟩ := h
  refine ⟨?_, (cell_else (by show a.block ≠ g; omega)).trans h2, h3, by simpa [World.setCell] using h4, h5⟩
  obtain ⟨A, c', hv, k1, k2, k3, k4⟩ := h1
  refine ⟨A, c', hv, k1, k2, k3, fun h0 => ?_⟩
  obtain ⟨b, o, rfl, kl, kc⟩ := k4 h0
  injection hv with e1 _ _
  injection e1 with e1
  injection e1 with e1 _ _
  exact ⟨b, o, rfl, by simpa [World.setCell] using kl, fun j x hx => (cell_else (by show a.block ≠ b; omega)).trans (kc j x hx)⟩
theorem bld70_run (X : World) : (Instr.buildSlice 22 1 #[(0, .agg #[.int .i64 (-70), .int .i64 0, .int .i64 0, .int .i64 0, .int .i64 0, .int .i64 0])]).run Tryd.prog X = .ok (.slice (some ⟨X.heap.size, 0, none⟩) 1 1) (X.alloc (.cells #[.int .i64 (-70), .int .i64 0, .int .i64 0, .int .i64 0, .int .i64 0, .int .i64 0] 30)) := by kernel_rfl
theorem bld70f_run (X : World) : (Instr.buildSlice 23 1 #[(0, .agg #[.int .i64 0, .int .i64 (-70)])]).run Tryd.prog X = .ok (.slice (some ⟨X.heap.size, 0, none⟩) 1 1) (X.alloc (.cells #[.int .i64 0, .int .i64 (-70)] 32)) := by kernel_rfl
end Go.Proofs.YtkdnhfeamibmdaaDoor
namespace Go.Proofs.YtkdnhfeamibmdaaDoor
open Go.RowKit Go.Sort
theorem str_len {l : List UInt8} {S : ByteArray} (h : S = ⟨l.toArray⟩) : S.size = l.length := by
  rw [h]; show l.toArray.size = _; rw [List.size_toArray]
set_option maxRecDepth 100000 in
set_option maxHeartbeats 8000000 in
theorem rentries_any {es : List En} {v : Value} {w : World} (hE : EsB w.heap.size w v es) (hi : ∀ e ∈ es, IntsOk e.l) (hn : es.length ≤ 256) :
    Calls Tryd.prog 34 #[v] w (StrPost ⟨(markL (esL es)).toArray⟩ w) := by
  have HC := Lib.hid (fun X (hb : Below w.heap.size w X) k (hk : k < es.length) => EsB.cells (hE.below hb (Nat.le_refl _)) hk)
  have HI := Lib.hid hi
  have HLB := Lib.hid (esL_bd hi hn)
  obtain ⟨A, c, rfl, h1, h2, -⟩ := hE.len
  unfold maxLen at h2
  obtain ⟨w1, HX1⟩ : ∃ W : World, Hid (W = w.alloc (.cells #[.int .i64 (es.length : Int)] 3)) := ⟨_, Lib.hid rfl⟩
  have hb1 : Below w.heap.size w w1 := by rw [HX1.out]; exact (Below.refl _ _).alloc (Nat.le_refl _) _
  have hr : IntRow w1 w.heap.size [(es.length : Int)] := by rw [HX1.out]; exact heap_alloc_new _ _
  obtain ⟨S0, HS0⟩ : ∃ S : ByteArray, Hid (S = ⟨(markL [(es.length : Int)]).toArray⟩) := ⟨_, Lib.hid rfl⟩
  have G0 : Hid (Calls Tryd.prog 33 #[.slice (some ⟨w.heap.size, 0, none⟩) 1 1] w1 (StrPost S0 w1)) := by
    show Calls _ _ _ _ _
    rw [HS0.out]
    exact rints_any hr (by intro x hx; simp at hx; subst hx; omega) (by simp)
  have HB1 := Lib.hid hb1
  clear hE hi hn hb1 hr
  go_enter Tryd.func34, Tryd.ntmps34
  go_wp2_with (rw [← HX1.out])
  refine (G0.out).mono ?_
  rintro e w2 ⟨rfl, hb⟩
  have HB2 := Lib.hid (HB1.out.trans (hb.mono HB1.out.size))
  clear hb
  go_wp2_with fail
  go_loopw [3, 4] (fun s i wr => ∃ (k : Nat) (S : ByteArray), k ≤ es.length ∧ i = .int .i64 k ∧ s = .string S ∧ Hid (S = ⟨(markL ((es.length : Int) :: ((es.take k).map En.l).flatten)).toArray⟩) ∧ Hid (Below w.heap.size w wr)) (fun _ i _ => es.length - (intOf i).toNat)
  case atStart => exact ⟨0, S0, Nat.zero_le _, rfl, rfl, HS0, HB2⟩
  case round =>
    obtain ⟨k, S, hk, rfl, rfl, HS, HB⟩ := hrel
    by_cases hlt : k < es.length
    · obtain ⟨b1, o1, c1', hv, hbb1, x0, x1, x2, x3, x4, x5⟩ := HC.out wr HB.out k hlt
      injection hv with e1 e2 e3
      subst e1 e3
      clear e2
      have hii : (k : Int) < (es.length : Int) := by omega
      have HT := Lib.hid (esL_take hlt)
      have hs1 : S.size ≤ 20000 := by rw [str_len HS.out]; exact HLB.out k
      have hix := HI.out es[k] (List.getElem_mem hlt)
      have hwr := HB.out.size
      generalize es[k] = x at *
      obtain ⟨ep, oi, os_, oe, ok, oa⟩ := x
      simp only at x0 x1 x2 x3 x4 x5
      obtain ⟨S2, HS2⟩ : ∃ S : ByteArray, Hid (S = ⟨(markL (En.l ⟨ep, oi, os_, oe, ok, oa⟩)).toArray⟩) := ⟨_, Lib.hid rfl⟩
      have hs2 : S2.size ≤ 20000 := by
        rw [str_len HS2.out]
        have := (markL_len hix).2
        simp [En.l, Od.l] at this ⊢
        omega
      obtain ⟨w6, HX6⟩ : ∃ W : World, Hid (W = wr.alloc (.cells #[.int .i64 oi, .int .i64 os_, .int .i64 oe, .int .i64 ok, .int .i64 oa] 28)) := ⟨_, Lib.hid rfl⟩
      have hb6 : Below wr.heap.size wr w6 := by rw [HX6.out]; exact (Below.refl _ _).alloc (Nat.le_refl _) _
      have h_o6 : w6.heap[wr.heap.size]? = some (.cells #[.int .i64 oi, .int .i64 os_, .int .i64 oe, .int .i64 ok, .int .i64 oa] 28 (0, 0)) := by rw [HX6.out]; exact heap_alloc_new _ _
      have hz6 : wr.heap.size < w6.heap.size := by rw [HX6.out]; simp
      have HB6 := Lib.hid (HB.out.trans (hb6.mono hwr))
      have hbl : b1 < wr.heap.size := Nat.lt_of_lt_of_le hbb1 hwr
      have hbl6 : b1 < w6.heap.size := by omega
      have y0 := (hb6.cell (p := ⟨b1, o1 + k * 6, none⟩) hbl).trans x0
      have z0 : w6.cell? ⟨wr.heap.size, 0, none⟩ = some (.int .i64 oi) := by rw [Lib.cell_of_heap h_o6]; rfl
      have z1 : w6.cell? ⟨wr.heap.size, 1, none⟩ = some (.int .i64 os_) := by rw [Lib.cell_of_heap h_o6]; rfl
      have z2 : w6.cell? ⟨wr.heap.size, 2, none⟩ = some (.int .i64 oe) := by rw [Lib.cell_of_heap h_o6]; rfl
      have z3 : w6.cell? ⟨wr.heap.size, 3, none⟩ = some (.int .i64 ok) := by rw [Lib.cell_of_heap h_o6]; rfl
      have z4 : w6.cell? ⟨wr.heap.size, 4, none⟩ = some (.int .i64 oa) := by rw [Lib.cell_of_heap h_o6]; rfl
      obtain ⟨w7, HX7⟩ : ∃ W : World, Hid (W = (w6.alloc (.cells #[.int .i64 ep, .int .i64 oi, .int .i64 os_, .int .i64 oe, .int .i64 ok, .int .i64 oa] 3)).drew) := ⟨_, Lib.hid rfl⟩
      have hb7 : Below w6.heap.size w6 w7 := by rw [HX7.out]; exact ((Below.refl _ _).alloc (Nat.le_refl _) _).drew
      have hr7 : IntRow w7 w6.heap.size (En.l ⟨ep, oi, os_, oe, ok, oa⟩) := by rw [HX7.out]; exact heap_alloc_new w6 _
      have G7 : Hid (Calls Tryd.prog 33 #[.slice (some ⟨w6.heap.size, 0, none⟩) 6 6] w7 (StrPost S2 w7)) := by
        show Calls _ _ _ _ _
        rw [HS2.out]
        exact rints_any hr7 hix (by simp [En.l, Od.l])
      rw [HX7.out] at G7
      have HH7 := Lib.hid hb7
      have n0 := World.new_ne w6.drew ⟨b1, o1 + k * 6, none⟩ (u := .int .i64 ep) y0
      have n1 := World.new_ne w6.drew ⟨wr.heap.size, 0, none⟩ (u := .int .i64 oi) z0
      have hs3 : S.size + S2.size ≤ 9223372036854775807 := by omega
      have RS : ∀ X, (Op.stringOp .add S S2).run Tryd.prog X = .ok (.string (S ++ S2)) X := fun X => run_string_add_sum X S S2 hs3
      have hs4 : ¬ (S.size + S2.size > 9223372036854775807) := by omega
      clear hr7 hix h_o6 hb6 hb7
      go_wp2_with (rw [← HX6.out])
      go_region_held3 (fun X => X.cell? ⟨b1, o1 + k * 6, none⟩ = some (.int .i64 ep) ∧ X.cell? ⟨wr.heap.size, 0, none⟩ = some (.int .i64 oi) ∧ X.cell? ⟨wr.heap.size, 1, none⟩ = some (.int .i64 os_) ∧ X.cell? ⟨wr.heap.size, 2, none⟩ = some (.int .i64 oe) ∧ X.cell? ⟨wr.heap.size, 3, none⟩ = some (.int .i64 ok) ∧ X.cell? ⟨wr.heap.size, 4, none⟩ = some (.int .i64 oa))
        (first | exact hS | go_keep) ((go_at_call 33; (refine (G7.out).mono ?_); rintro e w8 ⟨rfl, hb⟩; have hB8 : Below w6.heap.size w6 w8 := (((Below.refl _ _).alloc (Nat.le_refl _) _).drew.trans (hb.mono (by simp))); have hS : w8.cell? ⟨b1, o1 + k * 6, none⟩ = some (.int .i64 ep) ∧ w8.cell? ⟨wr.heap.size, 0, none⟩ = some (.int .i64 oi) ∧ w8.cell? ⟨wr.heap.size, 1, none⟩ = some (.int .i64 os_) ∧ w8.cell? ⟨wr.heap.size, 2, none⟩ = some (.int .i64 oe) ∧ w8.cell? ⟨wr.heap.size, 3, none⟩ = some (.int .i64 ok) ∧ w8.cell? ⟨wr.heap.size, 4, none⟩ = some (.int .i64 oa) := ⟨(hB8.cell (p := ⟨b1, o1 + k * 6, none⟩) hbl6).trans y0, (hB8.cell (p := ⟨wr.heap.size, 0, none⟩) hz6).trans z0, (hB8.cell (p := ⟨wr.heap.size, 1, none⟩) hz6).trans z1, (hB8.cell (p := ⟨wr.heap.size, 2, none⟩) hz6).trans z2, (hB8.cell (p := ⟨wr.heap.size, 3, none⟩) hz6).trans z3, (hB8.cell (p := ⟨wr.heap.size, 4, none⟩) hz6).trans z4⟩))
      have HB8 := Lib.hid (HB6.out.trans (hB8.mono HB6.out.size))
      have HSS : Hid (S ++ S2 = ⟨(markL ((es.length : Int) :: ((es.take (k + 1)).map En.l).flatten)).toArray⟩) := by show _ = _; rw [HS.out, HS2.out, str_mk, HT.out]
      clear hB8 hS hb y0 z0 z1 z2 z3 z4 n0 n1 HS HS2
      go_wp2_with fail
      go_roundw
      case rel => exact ⟨k + 1, S ++ S2, by omega, by go_num, rfl, HSS, HB8⟩
      case measure => simp [intOf]; omega
    · have HX : Hid (S = ⟨(markL (esL es)).toArray⟩) := by show _ = _; rw [HS.out, List.take_of_length_le (by omega)]; rfl
      clear hk HS
      go_wp2_with fail
      go_ret
      exact ⟨by rw [← HX.out]; rfl, HB.out⟩
end Go.Proofs.YtkdnhfeamibmdaaDoor
namespace Go.Proofs.YtkdnhfeamibmdaaDoor
open Go.RowKit Go.Sort
set_option linter.unusedSimpArgs false in
theorem ml_may1 (fr tt st ep vi ba le sp n oi os oe ok oa ai ac av : Int) (es : List En) : Ml.may n ⟨1, fr, tt, st, ep, vi, ba, le, sp, es, ⟨oi, os, oe, ok, oa⟩, ai, ac, av⟩ = true ↔ 2 ≤ n ∧ n ≤ 7 ∧ 0 ≤ fr ∧ fr < n ∧ 0 ≤ tt ∧ tt < n ∧ 0 ≤ st ∧ st ≤ 3 ∧ 1 ≤ ep ∧ ep ≤ 1048576 ∧ vi = 0 ∧ ba = 0 ∧ le = 0 ∧ 0 ≤ sp ∧ sp ≤ 1073741824 ∧ es.length = 0 ∧ oi = 0 ∧ os = 0 ∧ oe = 0 ∧ ok = 0 ∧ oa = 0 ∧ ai = 0 ∧ ac = 0 ∧ av = 0 := by
  have hb : bitsK 1 ep = 35 := by unfold bitsK; simp
  simp only [hb, Ml.may, numsA, entsA, ordA, ansA, fld, inb, isSite, show Nat.testBit 35 0 = true from by decide, show Nat.testBit 35 1 = true from by decide, show Nat.testBit 35 2 = false from by decide, show Nat.testBit 35 3 = false from by decide, show Nat.testBit 35 4 = false from by decide, show Nat.testBit 35 5 = true from by decide, show Nat.testBit 35 6 = false from by decide, show Nat.testBit 35 7 = false from by decide, show Nat.testBit 35 8 = false from by decide, Bool.and_eq_true, Bool.or_eq_true, decide_eq_true_eq, viewR_may, Od.none, Od.mk.injEq, if_true, if_false, Bool.false_eq_true, eq_self, false_or, true_or, true_and, and_true]
  omega
set_option linter.unusedSimpArgs false in
theorem ml_may2 (fr tt st ep vi ba le sp n oi os oe ok oa ai ac av : Int) (es : List En) : Ml.may n ⟨2, fr, tt, st, ep, vi, ba, le, sp, es, ⟨oi, os, oe, ok, oa⟩, ai, ac, av⟩ = true ↔ 2 ≤ n ∧ n ≤ 7 ∧ 0 ≤ fr ∧ fr < n ∧ 0 ≤ tt ∧ tt < n ∧ 0 ≤ st ∧ st ≤ 3 ∧ 1 ≤ ep ∧ ep ≤ 1048576 ∧ 0 ≤ vi ∧ vi ≤ 1048576 ∧ ba = 0 ∧ 0 ≤ le ∧ le ≤ 64 ∧ 0 ≤ sp ∧ sp ≤ 1073741824 ∧ (decide ((es.length : Int) ≤ 64) && es.all (En.may st)) = true ∧ le ≤ (es.length : Int) ∧ oi = 0 ∧ os = 0 ∧ oe = 0 ∧ ok = 0 ∧ oa = 0 ∧ ai = 0 ∧ ac = 0 ∧ av = 0 := by
  have hb : bitsK 2 ep = 119 := by unfold bitsK; simp
  simp only [hb, Ml.may, numsA, entsA, ordA, ansA, fld, inb, isSite, show Nat.testBit 119 0 = true from by decide, show Nat.testBit 119 1 = true from by decide, show Nat.testBit 119 2 = true from by decide, show Nat.testBit 119 3 = false from by decide, show Nat.testBit 119 4 = true from by decide, show Nat.testBit 119 5 = true from by decide, show Nat.testBit 119 6 = true from by decide, show Nat.testBit 119 7 = false from by decide, show Nat.testBit 119 8 = false from by decide, Bool.and_eq_true, Bool.or_eq_true, decide_eq_true_eq, viewR_may, Od.none, Od.mk.injEq, if_true, if_false, Bool.false_eq_true, eq_self, false_or, true_or, true_and, and_true]
  generalize (es.all (En.may st)) = q
  cases q <;> simp only [Bool.false_eq_true, and_false, false_and, and_true, true_and, eq_self, iff_self] <;> omega
set_option linter.unusedSimpArgs false in
theorem ml_may3 (fr tt st ep vi ba le sp n oi os oe ok oa ai ac av : Int) (es : List En) : Ml.may n ⟨3, fr, tt, st, ep, vi, ba, le, sp, es, ⟨oi, os, oe, ok, oa⟩, ai, ac, av⟩ = true ↔ 2 ≤ n ∧ n ≤ 7 ∧ 0 ≤ fr ∧ fr < n ∧ 0 ≤ tt ∧ tt < n ∧ 0 ≤ st ∧ st ≤ 3 ∧ 0 ≤ ep ∧ ep ≤ 1048576 ∧ vi = 0 ∧ ba = 0 ∧ le = 0 ∧ sp = 0 ∧ es.length = 0 ∧ oi = 0 ∧ os = 0 ∧ oe = 0 ∧ ok = 0 ∧ oa = 0 ∧ ai = 0 ∧ ac = 0 ∧ av = 0 := by
  by_cases he : ep = 0
  · have hb : bitsK 3 ep = 1 := by unfold bitsK; simp [he]
    simp only [hb, Ml.may, numsA, entsA, ordA, ansA, fld, inb, isSite, show Nat.testBit 1 0 = true from by decide, show Nat.testBit 1 1 = false from by decide, show Nat.testBit 1 2 = false from by decide, show Nat.testBit 1 3 = false from by decide, show Nat.testBit 1 4 = false from by decide, show Nat.testBit 1 5 = false from by decide, show Nat.testBit 1 6 = false from by decide, show Nat.testBit 1 7 = false from by decide, show Nat.testBit 1 8 = false from by decide, Bool.and_eq_true, Bool.or_eq_true, decide_eq_true_eq, viewR_may, Od.none, Od.mk.injEq, if_true, if_false, Bool.false_eq_true, eq_self, false_or, true_or, true_and, and_true]
    omega
  · have hb : bitsK 3 ep = 3 := by unfold bitsK; simp [he]
    simp only [hb, Ml.may, numsA, entsA, ordA, ansA, fld, inb, isSite, show Nat.testBit 3 0 = true from by decide, show Nat.testBit 3 1 = true from by decide, show Nat.testBit 3 2 = false from by decide, show Nat.testBit 3 3 = false from by decide, show Nat.testBit 3 4 = false from by decide, show Nat.testBit 3 5 = false from by decide, show Nat.testBit 3 6 = false from by decide, show Nat.testBit 3 7 = false from by decide, show Nat.testBit 3 8 = false from by decide, Bool.and_eq_true, Bool.or_eq_true, decide_eq_true_eq, viewR_may, Od.none, Od.mk.injEq, if_true, if_false, Bool.false_eq_true, eq_self, false_or, true_or, true_and, and_true]
    omega
set_option linter.unusedSimpArgs false in
theorem ml_may4 (fr tt st ep vi ba le sp n oi os oe ok oa ai ac av : Int) (es : List En) : Ml.may n ⟨4, fr, tt, st, ep, vi, ba, le, sp, es, ⟨oi, os, oe, ok, oa⟩, ai, ac, av⟩ = true ↔ 2 ≤ n ∧ n ≤ 7 ∧ 0 ≤ fr ∧ fr < n ∧ 0 ≤ tt ∧ tt < n ∧ 0 ≤ st ∧ st ≤ 3 ∧ 1 ≤ ep ∧ ep ≤ 1048576 ∧ vi = 0 ∧ 0 ≤ ba ∧ ba ≤ 64 ∧ 0 ≤ le ∧ le ≤ 64 ∧ 0 ≤ sp ∧ sp ≤ 1073741824 ∧ (decide ((es.length : Int) ≤ 64 - ba) && es.all (En.may st)) = true ∧ oi = 0 ∧ os = 0 ∧ oe = 0 ∧ ok = 0 ∧ oa = 0 ∧ ai = 0 ∧ ac = 0 ∧ av = 0 := by
  have hb : bitsK 4 ep = 123 := by unfold bitsK; simp
  simp only [hb, Ml.may, numsA, entsA, ordA, ansA, fld, inb, isSite, show Nat.testBit 123 0 = true from by decide, show Nat.testBit 123 1 = true from by decide, show Nat.testBit 123 2 = false from by decide, show Nat.testBit 123 3 = true from by decide, show Nat.testBit 123 4 = true from by decide, show Nat.testBit 123 5 = true from by decide, show Nat.testBit 123 6 = true from by decide, show Nat.testBit 123 7 = false from by decide, show Nat.testBit 123 8 = false from by decide, Bool.and_eq_true, Bool.or_eq_true, decide_eq_true_eq, viewR_may, Od.none, Od.mk.injEq, if_true, if_false, Bool.false_eq_true, eq_self, false_or, true_or, true_and, and_true]
  generalize (es.all (En.may st)) = q
  cases q <;> simp only [Bool.false_eq_true, and_false, false_and, and_true, true_and, eq_self, iff_self] <;> omega
set_option linter.unusedSimpArgs false in
theorem ml_may5 (fr tt st ep vi ba le sp n oi os oe ok oa ai ac av : Int) (es : List En) : Ml.may n ⟨5, fr, tt, st, ep, vi, ba, le, sp, es, ⟨oi, os, oe, ok, oa⟩, ai, ac, av⟩ = true ↔ 2 ≤ n ∧ n ≤ 7 ∧ 0 ≤ fr ∧ fr < n ∧ 0 ≤ tt ∧ tt < n ∧ 0 ≤ st ∧ st ≤ 3 ∧ 1 ≤ ep ∧ ep ≤ 1048576 ∧ vi = 0 ∧ ba = 0 ∧ 0 ≤ le ∧ le ≤ 64 ∧ 0 ≤ sp ∧ sp ≤ 1073741824 ∧ es.length = 0 ∧ oi = 0 ∧ os = 0 ∧ oe = 0 ∧ ok = 0 ∧ oa = 0 ∧ ai = 0 ∧ ac = 0 ∧ av = 0 := by
  have hb : bitsK 5 ep = 51 := by unfold bitsK; simp
  simp only [hb, Ml.may, numsA, entsA, ordA, ansA, fld, inb, isSite, show Nat.testBit 51 0 = true from by decide, show Nat.testBit 51 1 = true from by decide, show Nat.testBit 51 2 = false from by decide, show Nat.testBit 51 3 = false from by decide, show Nat.testBit 51 4 = true from by decide, show Nat.testBit 51 5 = true from by decide, show Nat.testBit 51 6 = false from by decide, show Nat.testBit 51 7 = false from by decide, show Nat.testBit 51 8 = false from by decide, Bool.and_eq_true, Bool.or_eq_true, decide_eq_true_eq, viewR_may, Od.none, Od.mk.injEq, if_true, if_false, Bool.false_eq_true, eq_self, false_or, true_or, true_and, and_true]
  omega
set_option linter.unusedSimpArgs false in
theorem ml_may6 (fr tt st ep vi ba le sp n oi os oe ok oa ai ac av : Int) (es : List En) : Ml.may n ⟨6, fr, tt, st, ep, vi, ba, le, sp, es, ⟨oi, os, oe, ok, oa⟩, ai, ac, av⟩ = true ↔ 2 ≤ n ∧ n ≤ 7 ∧ 0 ≤ fr ∧ fr < n ∧ 0 ≤ tt ∧ tt < n ∧ 0 ≤ st ∧ st ≤ 3 ∧ 1 ≤ ep ∧ ep ≤ 1048576 ∧ vi = 0 ∧ ba = 0 ∧ 0 ≤ le ∧ le ≤ 64 ∧ sp = 0 ∧ es.length = 0 ∧ oi = 0 ∧ os = 0 ∧ oe = 0 ∧ ok = 0 ∧ oa = 0 ∧ ai = 0 ∧ ac = 0 ∧ av = 0 := by
  have hb : bitsK 6 ep = 19 := by unfold bitsK; simp
  simp only [hb, Ml.may, numsA, entsA, ordA, ansA, fld, inb, isSite, show Nat.testBit 19 0 = true from by decide, show Nat.testBit 19 1 = true from by decide, show Nat.testBit 19 2 = false from by decide, show Nat.testBit 19 3 = false from by decide, show Nat.testBit 19 4 = true from by decide, show Nat.testBit 19 5 = false from by decide, show Nat.testBit 19 6 = false from by decide, show Nat.testBit 19 7 = false from by decide, show Nat.testBit 19 8 = false from by decide, Bool.and_eq_true, Bool.or_eq_true, decide_eq_true_eq, viewR_may, Od.none, Od.mk.injEq, if_true, if_false, Bool.false_eq_true, eq_self, false_or, true_or, true_and, and_true]
  omega
set_option linter.unusedSimpArgs false in
theorem ml_may7 (fr tt st ep vi ba le sp n oi os oe ok oa ai ac av : Int) (es : List En) : Ml.may n ⟨7, fr, tt, st, ep, vi, ba, le, sp, es, ⟨oi, os, oe, ok, oa⟩, ai, ac, av⟩ = true ↔ 2 ≤ n ∧ n ≤ 7 ∧ 0 ≤ fr ∧ fr < n ∧ 0 ≤ tt ∧ tt < n ∧ 0 ≤ st ∧ st ≤ 3 ∧ st = 0 ∧ ep = 0 ∧ vi = 0 ∧ ba = 0 ∧ le = 0 ∧ sp = 0 ∧ es.length = 0 ∧ Od.may ⟨oi, os, oe, ok, oa⟩ = true ∧ ai = 0 ∧ ac = 0 ∧ av = 0 := by
  have hb : bitsK 7 ep = 128 := by unfold bitsK; simp
  simp only [hb, Ml.may, numsA, entsA, ordA, ansA, fld, inb, isSite, show Nat.testBit 128 0 = false from by decide, show Nat.testBit 128 1 = false from by decide, show Nat.testBit 128 2 = false from by decide, show Nat.testBit 128 3 = false from by decide, show Nat.testBit 128 4 = false from by decide, show Nat.testBit 128 5 = false from by decide, show Nat.testBit 128 6 = false from by decide, show Nat.testBit 128 7 = true from by decide, show Nat.testBit 128 8 = false from by decide, Bool.and_eq_true, Bool.or_eq_true, decide_eq_true_eq, viewR_may, Od.none, Od.mk.injEq, if_true, if_false, Bool.false_eq_true, eq_self, false_or, true_or, true_and, and_true]
  generalize Od.may ⟨oi, os, oe, ok, oa⟩ = q
  cases q <;> simp only [Bool.false_eq_true, and_false, false_and, and_true, true_and, eq_self, iff_self] <;> omega
set_option linter.unusedSimpArgs false in
theorem ml_may8 (fr tt st ep vi ba le sp n oi os oe ok oa ai ac av : Int) (es : List En) : Ml.may n ⟨8, fr, tt, st, ep, vi, ba, le, sp, es, ⟨oi, os, oe, ok, oa⟩, ai, ac, av⟩ = true ↔ 2 ≤ n ∧ n ≤ 7 ∧ 0 ≤ fr ∧ fr < n ∧ 0 ≤ tt ∧ tt < n ∧ 0 ≤ st ∧ st ≤ 3 ∧ ep = 0 ∧ vi = 0 ∧ ba = 0 ∧ le = 0 ∧ sp = 0 ∧ es.length = 0 ∧ oi = 0 ∧ os = 0 ∧ oe = 0 ∧ ok = 0 ∧ oa = 0 ∧ 1 ≤ ai ∧ ai ≤ 2147483647 ∧ 1 ≤ ac ∧ ac ≤ 7 ∧ 0 ≤ av ∧ av ≤ 64 := by
  have hb : bitsK 8 ep = 257 := by unfold bitsK; simp
  simp only [hb, Ml.may, numsA, entsA, ordA, ansA, fld, inb, isSite, show Nat.testBit 257 0 = true from by decide, show Nat.testBit 257 1 = false from by decide, show Nat.testBit 257 2 = false from by decide, show Nat.testBit 257 3 = false from by decide, show Nat.testBit 257 4 = false from by decide, show Nat.testBit 257 5 = false from by decide, show Nat.testBit 257 6 = false from by decide, show Nat.testBit 257 7 = false from by decide, show Nat.testBit 257 8 = true from by decide, Bool.and_eq_true, Bool.or_eq_true, decide_eq_true_eq, viewR_may, Od.none, Od.mk.injEq, if_true, if_false, Bool.false_eq_true, eq_self, false_or, true_or, true_and, and_true]
  omega
set_option linter.unusedSimpArgs false in
theorem ml_may9 (fr tt st ep vi ba le sp n oi os oe ok oa ai ac av : Int) (es : List En) : Ml.may n ⟨9, fr, tt, st, ep, vi, ba, le, sp, es, ⟨oi, os, oe, ok, oa⟩, ai, ac, av⟩ = true ↔ 2 ≤ n ∧ n ≤ 7 ∧ 0 ≤ fr ∧ fr < n ∧ 0 ≤ tt ∧ tt < n ∧ 0 ≤ st ∧ st ≤ 3 ∧ 1 ≤ ep ∧ ep ≤ 1048576 ∧ vi = 0 ∧ ba = 0 ∧ le = 0 ∧ sp = 0 ∧ es.length = 0 ∧ oi = 0 ∧ os = 0 ∧ oe = 0 ∧ ok = 0 ∧ oa = 0 ∧ ai = 0 ∧ ac = 0 ∧ av = 0 := by
  have hb : bitsK 9 ep = 3 := by unfold bitsK; simp
  simp only [hb, Ml.may, numsA, entsA, ordA, ansA, fld, inb, isSite, show Nat.testBit 3 0 = true from by decide, show Nat.testBit 3 1 = true from by decide, show Nat.testBit 3 2 = false from by decide, show Nat.testBit 3 3 = false from by decide, show Nat.testBit 3 4 = false from by decide, show Nat.testBit 3 5 = false from by decide, show Nat.testBit 3 6 = false from by decide, show Nat.testBit 3 7 = false from by decide, show Nat.testBit 3 8 = false from by decide, Bool.and_eq_true, Bool.or_eq_true, decide_eq_true_eq, viewR_may, Od.none, Od.mk.injEq, if_true, if_false, Bool.false_eq_true, eq_self, false_or, true_or, true_and, and_true]
  omega
set_option linter.unusedSimpArgs false in
theorem ml_may10 (fr tt st ep vi ba le sp n oi os oe ok oa ai ac av : Int) (es : List En) : Ml.may n ⟨10, fr, tt, st, ep, vi, ba, le, sp, es, ⟨oi, os, oe, ok, oa⟩, ai, ac, av⟩ = true ↔ 2 ≤ n ∧ n ≤ 7 ∧ 0 ≤ fr ∧ fr < n ∧ 0 ≤ tt ∧ tt < n ∧ 0 ≤ st ∧ st ≤ 3 ∧ 1 ≤ ep ∧ ep ≤ 1048576 ∧ vi = 0 ∧ ba = 0 ∧ le = 0 ∧ sp = 0 ∧ es.length = 0 ∧ oi = 0 ∧ os = 0 ∧ oe = 0 ∧ ok = 0 ∧ oa = 0 ∧ ai = 0 ∧ ac = 0 ∧ av = 0 := by
  have hb : bitsK 10 ep = 3 := by unfold bitsK; simp
  simp only [hb, Ml.may, numsA, entsA, ordA, ansA, fld, inb, isSite, show Nat.testBit 3 0 = true from by decide, show Nat.testBit 3 1 = true from by decide, show Nat.testBit 3 2 = false from by decide, show Nat.testBit 3 3 = false from by decide, show Nat.testBit 3 4 = false from by decide, show Nat.testBit 3 5 = false from by decide, show Nat.testBit 3 6 = false from by decide, show Nat.testBit 3 7 = false from by decide, show Nat.testBit 3 8 = false from by decide, Bool.and_eq_true, Bool.or_eq_true, decide_eq_true_eq, viewR_may, Od.none, Od.mk.injEq, if_true, if_false, Bool.false_eq_true, eq_self, false_or, true_or, true_and, and_true]
  omega
set_option linter.unusedSimpArgs false in
/-- May of the document, of any message. -/
theorem rmayml_any (m : Ml) (n : Int) {v : Value} {w : World} (hE : EsB w.heap.size w v m.es) :
    Calls Tryd.prog 44 #[m.v v, .int .i64 n] w (NumPost (.bool (m.may n)) w) := by
  have hL : ∀ (X : World) (most : Int), Below w.heap.size w X → Calls Tryd.prog 72 #[m.v v, .int .i64 most] X (NumPost (.bool (decide ((m.es.length : Int) ≤ most) && m.es.all (En.may m.st))) X) :=
    fun X most hb => rlogm_any m X most ((RdB.below hE hb (Nat.le_refl _)).mono hb.size)
  obtain ⟨A, c, rfl, -⟩ := RdB.len hE
  clear hE
  obtain ⟨ki, fr, tt, st, ep, vi, ba, le, sp, es, ⟨oi, os, oe, ok, oa⟩, ai, ac, av⟩ := m
  simp only [Ml.v, Ml.cells, List.toArray] at hL ⊢
  by_cases h1 : ki = 1
  · subst h1
    exact rmay_m1 fr tt st ep vi ba le sp oi os oe ok oa ai ac av n es.length c A _ w (Lib.hid (ml_may1 fr tt st ep vi ba le sp n oi os oe ok oa ai ac av es))
  by_cases h2 : ki = 2
  · subst h2
    by_cases hba : ba = 0
    · subst hba
      refine rmay_m2a fr tt st ep vi le sp oi os oe ok oa ai ac av n es.length c A _ (decide ((es.length : Int) ≤ 64) && es.all (En.may st)) w (Lib.hid ?_) (Lib.hid fun X hX => hL X 64 hX)
      rw [ml_may2]; simp only [eq_self, true_and]
    · have hf : Ml.may n ⟨2, fr, tt, st, ep, vi, ba, le, sp, es, ⟨oi, os, oe, ok, oa⟩, ai, ac, av⟩ = false := by
        rw [Bool.eq_false_iff, Ne, ml_may2]; omega
      rw [hf]
      exact rmay_m2b fr tt st ep vi ba le sp oi os oe ok oa ai ac av n es.length c A w (by simp [hba]) (by simp [hba]) hba
  by_cases h3 : ki = 3
  · subst h3
    exact rmay_m3 fr tt st ep vi ba le sp oi os oe ok oa ai ac av n es.length c A _ w (Lib.hid (ml_may3 fr tt st ep vi ba le sp n oi os oe ok oa ai ac av es))
  by_cases h4 : ki = 4
  · subst h4
    cases hib : inb 0 64 ba
    · have hf : Ml.may n ⟨4, fr, tt, st, ep, vi, ba, le, sp, es, ⟨oi, os, oe, ok, oa⟩, ai, ac, av⟩ = false := by
        rw [Bool.eq_false_iff, Ne, ml_may4]
        simp only [inb, Bool.and_eq_false_iff, decide_eq_false_iff_not] at hib
        omega
      rw [hf]
      exact rmay_m4b fr tt st ep vi ba le sp oi os oe ok oa ai ac av n es.length c A w hib
    · have hi : 0 ≤ ba ∧ ba ≤ 64 := by simpa [inb] using hib
      refine rmay_m4a fr tt st ep vi ba le sp oi os oe ok oa ai ac av n es.length c A _ (decide ((es.length : Int) ≤ 64 - ba) && es.all (En.may st)) w (Lib.hid ?_) (Lib.hid fun X hX => hL X (64 - ba) hX) hib (IntWalk.i64_in _ (by omega))
      rw [ml_may4]
      generalize (decide ((es.length : Int) ≤ 64 - ba) && es.all (En.may st)) = q
      cases q <;> simp only [Bool.false_eq_true, and_false, false_and, and_true, true_and, eq_self] <;> omega
  by_cases h5 : ki = 5
  · subst h5
    exact rmay_m5 fr tt st ep vi ba le sp oi os oe ok oa ai ac av n es.length c A _ w (Lib.hid (ml_may5 fr tt st ep vi ba le sp n oi os oe ok oa ai ac av es))
  by_cases h6 : ki = 6
  · subst h6
    exact rmay_m6 fr tt st ep vi ba le sp oi os oe ok oa ai ac av n es.length c A _ w (Lib.hid (ml_may6 fr tt st ep vi ba le sp n oi os oe ok oa ai ac av es))
  by_cases h7 : ki = 7
  · subst h7
    exact rmay_m7 fr tt st ep vi ba le sp oi os oe ok oa ai ac av n es.length c A _ (Od.may ⟨oi, os, oe, ok, oa⟩) w (Lib.hid (ml_may7 fr tt st ep vi ba le sp n oi os oe ok oa ai ac av es)) (Lib.hid fun X => (rmay_any ⟨oi, os, oe, ok, oa⟩ X))
  by_cases h8 : ki = 8
  · subst h8
    exact rmay_m8 fr tt st ep vi ba le sp oi os oe ok oa ai ac av n es.length c A _ w (Lib.hid (ml_may8 fr tt st ep vi ba le sp n oi os oe ok oa ai ac av es))
  by_cases h9 : ki = 9
  · subst h9
    exact rmay_m9 fr tt st ep vi ba le sp oi os oe ok oa ai ac av n es.length c A _ w (Lib.hid (ml_may9 fr tt st ep vi ba le sp n oi os oe ok oa ai ac av es))
  by_cases h10 : ki = 10
  · subst h10
    exact rmay_m10 fr tt st ep vi ba le sp oi os oe ok oa ai ac av n es.length c A _ w (Lib.hid (ml_may10 fr tt st ep vi ba le sp n oi os oe ok oa ai ac av es))
  have hf : Ml.may n ⟨ki, fr, tt, st, ep, vi, ba, le, sp, es, ⟨oi, os, oe, ok, oa⟩, ai, ac, av⟩ = false := by
    rw [Bool.eq_false_iff, Ne]
    simp only [Ml.may, Bool.and_eq_true, decide_eq_true_eq]
    omega
  rw [hf]
  exact rmay_me ki fr tt st ep vi ba le sp oi os oe ok oa ai ac av n es.length c A w (by simp [h1]) (by simp [h2]) (by simp [h3]) (by simp [h4]) (by simp [h5]) (by simp [h6]) (by simp [h7]) (by simp [h8]) (by simp [h9]) (by simp [h10])
set_option maxRecDepth 100000 in
/-- Check of the document, of any message. -/
theorem rcheckml_any (m : Ml) (n : Int) {v : Value} {w : World} (hE : EsB w.heap.size w v m.es) :
    Calls Tryd.prog 19 #[m.v v, .int .i64 n] w (NumPost (.int .i64 (m.err n)) w) := by
  have HE : Hid (m.err n = if m.may n then 0 else 2) := rfl
  generalize m.err n = er at *
  obtain ⟨w0, HW0⟩ : ∃ w0, Hid (w.alloc (.cells (m.cells v).toArray 45) = w0) := ⟨_, Lib.hid rfl⟩
  have hb0 : Below w.heap.size w w0 := by rw [← HW0.out]; exact (Below.refl _ _).alloc (Nat.le_refl _) _
  have X0 : MlBox w0 w.heap.size m v := by rw [← HW0.out]; exact MlBox.new _ _ _
  have G := Lib.hid (rmayml_any m n ((RdB.below hE hb0 (Nat.le_refl _)).mono hb0.size))
  have hd0 := X0.load
  clear hE X0
  have HB0 := Lib.hid hb0
  clear hb0
  cases hmay : m.may n
  all_goals
    rw [hmay] at G HE
    simp only [Ml.v] at hd0 G ⊢
    go_enter Tryd.func19, Tryd.ntmps19
    go_wp2_with (first | rw [HW0.out] | (with_reducible refine wpList_load_run (by rfl) 45 _ (by rfl) ⟨w.heap.size, 0, none⟩ (by with_unfolding_all rfl) hd0 ?_))
    refine (G.out).mono ?_
    rintro e w1 ⟨rfl, hb1⟩
    have hb2 : Below w.heap.size w w1 := HB0.out.trans (hb1.mono HB0.out.size)
    go_wp2_with fail
    go_ret
    exact ⟨by rw [HE.out]; rfl, hb2⟩
end Go.Proofs.YtkdnhfeamibmdaaDoor
namespace Go.Proofs.YtkdnhfeamibmdaaDoor
open Go.RowKit Go.Sort
section
variable {P : Program} {ops : Array Oper} {o : Oper} {a : Act} {w : World} {K : Act → World → Prop} {Q : Exit → Act → World → Prop} {E : Prop}
/-- A variable that is made. -/
theorem step_alloc_new (hg : o.guard = none) (t : TypeId) (hop : o.op = Op.alloc t) (cs : Array Value) (hr : ∀ X : World, (Instr.alloc t true (.tuple #[])).run P X = .ok (.pointer (some ⟨X.heap.size, 0, none⟩)) (X.alloc (.cells cs t)))
    (hK : ∀ (g : Nat) (w' : World), w'.heap[g]? = some (.cells cs t (0, 0)) → w.heap.size ≤ g → Below w.heap.size w w' → K (a.put o.dst (.pointer (some ⟨g, 0, none⟩))) w') :
    if Region.wanted o (yielded ops a.tmps) = true then Oper.wp P o a w K Q else E := by
  rw [if_pos (by simp [Region.wanted, hg])]
  unfold Oper.wp
  simp only [execOp, hop, Sem.run_bind, Sem.run_pure]
  rw [hr]
  exact hK w.heap.size _ (heap_alloc_new w _) (Nat.le_refl _) ((Below.refl _ _).alloc (Nat.le_refl _) _)
end
theorem alloc_or (X : World) : (Instr.alloc 28 true (.tuple #[])).run Tryd.prog X = .ok (.pointer (some ⟨X.heap.size, 0, none⟩)) (X.alloc (.cells #[.int .i64 0, .int .i64 0, .int .i64 0, .int .i64 0, .int .i64 0] 28)) := by kernel_rfl
theorem alloc_an (X : World) : (Instr.alloc 43 true (.tuple #[])).run Tryd.prog X = .ok (.pointer (some ⟨X.heap.size, 0, none⟩)) (X.alloc (.cells #[.int .i64 0, .int .i64 0, .int .i64 0] 43)) := by kernel_rfl
theorem store_or {X : World} {g : Nat} {cs cs' : Array Value} (h : X.heap[g]? = some (.cells cs 28 (0, 0))) (hn : cs.size = cs'.size) (h1 : cs'.all (·.oneCell') = true) (h2 : cs'.size = 5 := by rfl) :
    ∃ Y, (storeVar 28 ⟨g, 0, none⟩ (.agg cs')).run Tryd.prog X = .ok () Y ∧ Y.heap[g]? = some (.cells cs' 28 (0, 0)) ∧ (∀ k o, X.heap[k]? = some o → k ≠ g → Y.heap[k]? = some o) ∧ (∀ (n : Nat) (W : World), Below n W X → n ≤ g → Below n W Y) :=
  ⟨_, run_storeVar_row (P := Tryd.prog) X g 28 28 cs cs' h (by rw [h2]; kernel_rfl) hn h1, setRow_heap X g _ _ _ _ h, fun k o ho hne => (Foot.row (fun j => j = g) X g cs' rfl).kept ho hne, fun n W hW hg => below_setRow hW hg _⟩
theorem store_an {X : World} {g : Nat} {cs cs' : Array Value} (h : X.heap[g]? = some (.cells cs 43 (0, 0))) (hn : cs.size = cs'.size) (h1 : cs'.all (·.oneCell') = true) (h2 : cs'.size = 3 := by rfl) :
    ∃ Y, (storeVar 43 ⟨g, 0, none⟩ (.agg cs')).run Tryd.prog X = .ok () Y ∧ Y.heap[g]? = some (.cells cs' 43 (0, 0)) ∧ (∀ k o, X.heap[k]? = some o → k ≠ g → Y.heap[k]? = some o) ∧ (∀ (n : Nat) (W : World), Below n W X → n ≤ g → Below n W Y) :=
  ⟨_, run_storeVar_row (P := Tryd.prog) X g 43 43 cs cs' h (by rw [h2]; kernel_rfl) hn h1, setRow_heap X g _ _ _ _ h, fun k o ho hne => (Foot.row (fun j => j = g) X g cs' rfl).kept ho hne, fun n W hW hg => below_setRow hW hg _⟩
theorem build9m_run (x0 x1 x2 x3 x4 x5 x6 x7 x8 : Int) (X : World) : (Instr.buildSlice 57 9 #[(0, .int .i64 x0), (1, .int .i64 x1), (2, .int .i64 x2), (3, .int .i64 x3), (4, .int .i64 x4), (5, .int .i64 x5), (6, .int .i64 x6), (7, .int .i64 x7), (8, .int .i64 x8)]).run Tryd.prog X = .ok (.slice (some ⟨X.heap.size, 0, none⟩) 9 9) (X.alloc (.cells #[.int .i64 x0, .int .i64 x1, .int .i64 x2, .int .i64 x3, .int .i64 x4, .int .i64 x5, .int .i64 x6, .int .i64 x7, .int .i64 x8] 3)) := by kernel_rfl
theorem build8m_run (x0 x1 x2 x3 x4 x5 x6 x7 : Int) (X : World) : (Instr.buildSlice 57 8 #[(0, .int .i64 x0), (1, .int .i64 x1), (2, .int .i64 x2), (3, .int .i64 x3), (4, .int .i64 x4), (5, .int .i64 x5), (6, .int .i64 x6), (7, .int .i64 x7)]).run Tryd.prog X = .ok (.slice (some ⟨X.heap.size, 0, none⟩) 8 8) (X.alloc (.cells #[.int .i64 x0, .int .i64 x1, .int .i64 x2, .int .i64 x3, .int .i64 x4, .int .i64 x5, .int .i64 x6, .int .i64 x7] 3)) := by kernel_rfl
theorem Ml.enc_parts (m : Ml) : m.enc = markL m.hd ++ (markL (esL m.es) ++ markL m.tl) := by simp only [Ml.enc, Ml.l, markL_append]
set_option maxRecDepth 100000 in
set_option maxHeartbeats 8000000 in
theorem rmEnc_no (m : Ml) (n : Int) {v : Value} {w : World} (hE : EsB w.heap.size w v m.es) (hmay : m.may n = false) :
    Calls Tryd.prog 17 #[m.v v, .int .i64 n] w (NumPost (.tuple #[.string ⟨#[]⟩, .int .i64 2]) w) := by
  obtain ⟨w0, HW0⟩ : ∃ w0, Hid (w.alloc (.cells (m.cells v).toArray 45) = w0) := ⟨_, Lib.hid rfl⟩
  have hb0 : Below w.heap.size w w0 := by rw [← HW0.out]; exact (Below.refl _ _).alloc (Nat.le_refl _) _
  have X0 : MlBox w0 w.heap.size m v := by rw [← HW0.out]; exact MlBox.new _ _ _
  have G := Lib.hid (rmayml_any m n ((RdB.below hE hb0 (Nat.le_refl _)).mono hb0.size))
  have hd0 := X0.load
  have HB0 := Lib.hid hb0
  clear hE X0 hb0
  rw [hmay] at G
  clear hmay
  simp only [Ml.v] at hd0 G ⊢
  go_enter Tryd.func17, Tryd.ntmps17
  go_wp2_with (first | rw [HW0.out] | (refine wpList_load_run rfl 45 _ rfl ⟨w.heap.size, 0, none⟩ rfl hd0 ?_))
  refine (G.out).mono ?_
  rintro e w1 ⟨rfl, hb1⟩
  have hb2 : Below w.heap.size w w1 := HB0.out.trans (hb1.mono HB0.out.size)
  go_wp2_with fail
  go_ret2
  exact ⟨rfl, hb2⟩
set_option maxRecDepth 100000 in
set_option maxHeartbeats 8000000 in
theorem rmEnc_yes (m : Ml) (n : Int) {v : Value} {w : World} (hE : EsB w.heap.size w v m.es) (hmay : m.may n = true) :
    Calls Tryd.prog 17 #[m.v v, .int .i64 n] w (NumPost (.tuple #[.string ⟨m.enc.toArray⟩, .int .i64 0]) w) := by
  obtain ⟨w0, HW0⟩ : ∃ w0, Hid (w.alloc (.cells (m.cells v).toArray 45) = w0) := ⟨_, Lib.hid rfl⟩
  have hb0 : Below w.heap.size w w0 := by rw [← HW0.out]; exact (Below.refl _ _).alloc (Nat.le_refl _) _
  have X0 : MlBox w0 w.heap.size m v := by rw [← HW0.out]; exact MlBox.new _ _ _
  have G := Lib.hid (rmayml_any m n ((RdB.below hE hb0 (Nat.le_refl _)).mono hb0.size))
  have hd0 := X0.load
  have HP := Lib.hid (Ml.enc_parts m)
  have hes := Ml.may_es hmay
  have hii := Ml.may_ints hmay
  have HIH := Lib.hid hii.1
  have HIT := Lib.hid hii.2.2
  have HLH := Lib.hid (markL_len hii.1).2
  have HLT := Lib.hid (markL_len hii.2.2).2
  have HLE := Lib.hid (esL_bd hii.2.1 (by omega) m.es.length)
  rw [List.take_length] at HLE
  have HC2 := Lib.hid (fun X (hX : Below w.heap.size w X) => rentries_any (w := X) ((RdB.below hE hX (Nat.le_refl _)).mono hX.size) hii.2.1 (by omega))
  have HB0 := Lib.hid hb0
  obtain ⟨A, c, rfl, hlA, hmA, -⟩ := RdB.len hE
  unfold maxLen at hmA
  have h_r0 : w0.heap[w.heap.size]? = some (.cells (m.cells (.slice A m.es.length c)).toArray 45 (0, 0)) := X0
  rw [hmay] at G
  clear hE X0 hb0 hmay hii
  generalize m.enc = L at *
  obtain ⟨ki, fr, tt, st, ep, vi, ba, le, sp, es, ⟨oi, os, oe, ok, oa⟩, ai, ac, av⟩ := m
  simp only [Ml.v, Ml.cells, List.toArray, Ml.hd, Ml.tl, Od.l, List.cons_append, List.nil_append] at *
  obtain ⟨S1, HS1⟩ : ∃ S : ByteArray, Hid (S = ⟨(markL [ki, fr, tt, st, ep, vi, ba, le, sp]).toArray⟩) := ⟨_, Lib.hid rfl⟩
  obtain ⟨S2, HS2⟩ : ∃ S : ByteArray, Hid (S = ⟨(markL (esL es)).toArray⟩) := ⟨_, Lib.hid rfl⟩
  obtain ⟨S3, HS3⟩ : ∃ S : ByteArray, Hid (S = ⟨(markL [oi, os, oe, ok, oa, ai, ac, av]).toArray⟩) := ⟨_, Lib.hid rfl⟩
  have hs1 : S1.size ≤ 90 := by rw [str_len HS1.out]; have := HLH.out; simpa using this
  have hs2 : S2.size ≤ 20000 := by rw [str_len HS2.out]; exact HLE.out
  have hs3 : S3.size ≤ 80 := by rw [str_len HS3.out]; have := HLT.out; simpa using this
  have HC1 : Hid (∀ X g, X.heap[g]? = some (.cells #[.int .i64 ki, .int .i64 fr, .int .i64 tt, .int .i64 st, .int .i64 ep, .int .i64 vi, .int .i64 ba, .int .i64 le, .int .i64 sp] 3 (0, 0)) → Calls Tryd.prog 33 #[.slice (some ⟨g, 0, none⟩) 9 9] X (StrPost S1 X)) := Lib.hid fun X g h => by
    rw [HS1.out]
    exact rints_any (ns := [ki, fr, tt, st, ep, vi, ba, le, sp]) h HIH.out (by simp)
  have HC3 : Hid (∀ X g, X.heap[g]? = some (.cells #[.int .i64 oi, .int .i64 os, .int .i64 oe, .int .i64 ok, .int .i64 oa, .int .i64 ai, .int .i64 ac, .int .i64 av] 3 (0, 0)) → Calls Tryd.prog 33 #[.slice (some ⟨g, 0, none⟩) 8 8] X (StrPost S3 X)) := Lib.hid fun X g h => by
    rw [HS3.out]
    exact rints_any (ns := [oi, os, oe, ok, oa, ai, ac, av]) h HIT.out (by simp)
  rw [← HS2.out] at HC2
  unfold StrPost at HC1 HC2 HC3
  have hs12 : S1.size + S2.size ≤ 9223372036854775807 := by omega
  have hs12s : (S1 ++ S2).size = S1.size + S2.size := by simp
  have hs23 : (S1 ++ S2).size + S3.size ≤ 9223372036854775807 := by omega
  have RS1 : ∀ X, (Op.stringOp .add S1 S2).run Tryd.prog X = .ok (.string (S1 ++ S2)) X := fun X => run_string_add_sum X S1 S2 hs12
  have RS2 : ∀ X, (Op.stringOp .add (S1 ++ S2) S3).run Tryd.prog X = .ok (.string (S1 ++ S2 ++ S3)) X := fun X => run_string_add_sum X (S1 ++ S2) S3 hs23
  have hz12 : ¬ (S1.size + S2.size > 9223372036854775807) := by omega
  have hz23 : ¬ ((S1 ++ S2).size + S3.size > 9223372036854775807) := by omega
  have HEND : Hid (S1 ++ S2 ++ S3 = ⟨L.toArray⟩) := by
    show _ = _
    rw [HP.out, HS1.out, HS2.out, HS3.out, str_mk, str_mk, List.append_assoc]
  have HFS : Hid (∀ X : World, X.heap[w.heap.size]? = some (.cells #[.int .i64 ki, .int .i64 fr, .int .i64 tt, .int .i64 st, .int .i64 ep, .int .i64 vi, .int .i64 ba, .int .i64 le, .int .i64 sp, .slice A es.length c, .int .i64 oi, .int .i64 os, .int .i64 oe, .int .i64 ok, .int .i64 oa, .int .i64 ai, .int .i64 ac, .int .i64 av] 45 (0, 0)) → X.cell? ⟨w.heap.size, 10, none⟩ = some (.int .i64 oi) ∧ X.cell? ⟨w.heap.size, 11, none⟩ = some (.int .i64 os) ∧ X.cell? ⟨w.heap.size, 12, none⟩ = some (.int .i64 oe) ∧ X.cell? ⟨w.heap.size, 13, none⟩ = some (.int .i64 ok) ∧ X.cell? ⟨w.heap.size, 14, none⟩ = some (.int .i64 oa) ∧ X.cell? ⟨w.heap.size, 15, none⟩ = some (.int .i64 ai) ∧ X.cell? ⟨w.heap.size, 16, none⟩ = some (.int .i64 ac) ∧ X.cell? ⟨w.heap.size, 17, none⟩ = some (.int .i64 av)) := Lib.hid fun X h => by
    refine ⟨?_, ?_, ?_, ?_, ?_, ?_, ?_, ?_⟩ <;> (rw [Lib.cell_of_heap h]; rfl)
  have HX0 := Lib.hid h_r0
  clear h_r0 HP HLH HLT HLE HIH HIT HS1 HS2 HS3
  go_enter Tryd.func17, Tryd.ntmps17
  go_wp2_with (first | rw [HW0.out] | (refine wpList_load_run rfl 45 _ rfl ⟨w.heap.size, 0, none⟩ rfl hd0 ?_))
  refine (G.out).mono ?_
  rintro e w2 ⟨rfl, hb⟩
  have hB2 := keepB HB0.out hb
  have h_r2 := keepH hb HX0.out
  clear hb hd0 HX0 HB0 HW0 G
  go_upto_region 3 with fail
  go_cut [6, 7] (fun u6 u7 wx => ∃ gP gQ : Nat, u6 = .pointer (some ⟨gP, 0, none⟩) ∧ u7 = .pointer (some ⟨gQ, 0, none⟩) ∧ Hid (wx.heap[w.heap.size]? = some (.cells #[.int .i64 ki, .int .i64 fr, .int .i64 tt, .int .i64 st, .int .i64 ep, .int .i64 vi, .int .i64 ba, .int .i64 le, .int .i64 sp, .slice A es.length c, .int .i64 oi, .int .i64 os, .int .i64 oe, .int .i64 ok, .int .i64 oa, .int .i64 ai, .int .i64 ac, .int .i64 av] 45 (0, 0))) ∧ Hid (wx.heap[gP]? = some (.cells #[.int .i64 oi, .int .i64 os, .int .i64 oe, .int .i64 ok, .int .i64 oa] 28 (0, 0))) ∧ Hid (wx.heap[gQ]? = some (.cells #[.int .i64 ai, .int .i64 ac, .int .i64 av] 43 (0, 0))) ∧ Hid (Below w.heap.size w wx))
  case first =>
    have hW : Below w.heap.size w w2.drew := hB2.drew
    have hX : w2.drew.heap[w.heap.size]? = some (.cells #[.int .i64 ki, .int .i64 fr, .int .i64 tt, .int .i64 st, .int .i64 ep, .int .i64 vi, .int .i64 ba, .int .i64 le, .int .i64 sp, .slice A es.length c, .int .i64 oi, .int .i64 os, .int .i64 oe, .int .i64 ok, .int .i64 oa, .int .i64 ai, .int .i64 ac, .int .i64 av] 45 (0, 0)) := h_r2
    have hS' := HFS
    have hH := hS'.out _ hX
    clear HFS HC1 HC2 HC3 RS1 RS2 hs1 hs2 hs3 hs12 hs12s hs23 hz12 hz23 HEND
    refine wp_region_held_drew (S := fun X => X.cell? ⟨w.heap.size, 10, none⟩ = some (.int .i64 oi) ∧ X.cell? ⟨w.heap.size, 11, none⟩ = some (.int .i64 os) ∧ X.cell? ⟨w.heap.size, 12, none⟩ = some (.int .i64 oe) ∧ X.cell? ⟨w.heap.size, 13, none⟩ = some (.int .i64 ok) ∧ X.cell? ⟨w.heap.size, 14, none⟩ = some (.int .i64 oa) ∧ X.cell? ⟨w.heap.size, 15, none⟩ = some (.int .i64 ai) ∧ X.cell? ⟨w.heap.size, 16, none⟩ = some (.int .i64 ac) ∧ X.cell? ⟨w.heap.size, 17, none⟩ = some (.int .i64 av)) (by kernel_rfl) hH (fun hHeld => ?_)
    clear hH
    refine wpAnyH_take (i := 0) (v := ?_) rfl (by kernel_rfl) (by kernel_rfl) (by kernel_rfl) (fun _ _ _ h => h) (Or.inl ⟨by rfl, ?_⟩) (by assumption) ?_
    rotate_left
    · intro X hX
      go_simp
      try with_reducible rfl
    try simp only [List.getElem_toArray, List.getElem_cons_zero]
    try simp only [Act.put, List.setIfInBounds_toArray, List.set_cons_zero, List.set_cons_succ]
    refine wpAnyH_take (i := 1) (v := .agg #[.int .i64 oi, .int .i64 os, .int .i64 oe, .int .i64 ok, .int .i64 oa]) rfl (by kernel_rfl) (by kernel_rfl) (by kernel_rfl) (fun _ _ _ h => h) (Or.inl ⟨by rfl, ?_⟩) (by assumption) ?_
    · intro X hX
      obtain ⟨c10, c11, c12, c13, c14, c15, c16, c17⟩ := hX
      go_simp
    try simp only [List.getElem_toArray, List.getElem_cons_succ, List.getElem_cons_zero]
    try simp only [Act.put, List.setIfInBounds_toArray, List.set_cons_zero, List.set_cons_succ]
    refine wpAnyH_take (i := 2) (v := ?_) rfl (by kernel_rfl) (by kernel_rfl) (by kernel_rfl) (fun _ _ _ h => h) (Or.inl ⟨by rfl, ?_⟩) (by assumption) ?_
    rotate_left
    · intro X hX
      go_simp
      try with_reducible rfl
    try simp only [List.getElem_toArray, List.getElem_cons_succ, List.getElem_cons_zero]
    try simp only [Act.put, List.setIfInBounds_toArray, List.set_cons_zero, List.set_cons_succ]
    refine wpAnyH_take (i := 3) (v := .agg #[.int .i64 ai, .int .i64 ac, .int .i64 av]) rfl (by kernel_rfl) (by kernel_rfl) (by kernel_rfl) (fun _ _ _ h => h) (Or.inl ⟨by rfl, ?_⟩) (by assumption) ?_
    · intro X hX
      obtain ⟨c10, c11, c12, c13, c14, c15, c16, c17⟩ := hX
      go_simp
    try simp only [List.getElem_toArray, List.getElem_cons_succ, List.getElem_cons_zero]
    try simp only [Act.put, List.setIfInBounds_toArray, List.set_cons_zero, List.set_cons_succ]
    refine wpAnyH_ready (rs := [4,5]) (by kernel_rfl) (by simp) (AllReadyH.cons rfl (fun K hK => ?_) (AllReadyH.cons rfl (fun K hK => ?_) AllReadyH.nil))
    · refine step_alloc_new rfl 28 rfl #[.int .i64 0, .int .i64 0, .int .i64 0, .int .i64 0, .int .i64 0] (fun X => alloc_or X) ?_
      intro gP wn hP hgP hb
      have hLP : w.heap.size < gP := Nat.lt_of_lt_of_le (heap_lt hX) hgP
      replace hX := keepH hb hX
      replace hW := keepB hW hb
      clear hb hgP
      have hH := hS'.out _ hX
      refine hK.out _ _ ?_ (fun hHeld => ?_)
      · with_reducible exact hH
      clear hK K hH
      try simp only [List.getElem_toArray, List.getElem_cons_succ, List.getElem_cons_zero]
      try simp only [Act.put, List.setIfInBounds_toArray, List.set_cons_zero, List.set_cons_succ]
      refine wpAnyH_ready (rs := [5]) (by kernel_rfl) (by simp) (AllReadyH.cons rfl (fun K hK => ?_) AllReadyH.nil)
      · refine step_alloc_new rfl 43 rfl #[.int .i64 0, .int .i64 0, .int .i64 0] (fun X => alloc_an X) ?_
        intro gQ wn hQ hgQ hb
        have hLQ : w.heap.size < gQ := Nat.lt_of_lt_of_le (heap_lt hX) hgQ
        have hPQ : gP ≠ gQ := by have := heap_lt hP; omega
        replace hX := keepH hb hX
        replace hW := keepB hW hb
        replace hP := keepH hb hP
        clear hb hgQ
        have hH := hS'.out _ hX
        refine hK.out _ _ ?_ (fun hHeld => ?_)
        · with_reducible exact hH
        clear hK K hH
        try simp only [List.getElem_toArray, List.getElem_cons_succ, List.getElem_cons_zero]
        try simp only [Act.put, List.setIfInBounds_toArray, List.set_cons_zero, List.set_cons_succ]
        refine wpAnyH_ready (rs := [6]) (by kernel_rfl) (by simp) (AllReadyH.cons rfl (fun K hK => ?_) AllReadyH.nil)
        · obtain ⟨wm, hr, hN, hO, hBl⟩ := store_or (cs' := #[.int .i64 oi, .int .i64 os, .int .i64 oe, .int .i64 ok, .int .i64 oa]) hP rfl (by simp [Value.oneCell'])
          refine step_store_known rfl 28 _ _ rfl ⟨gP, 0, none⟩ (.agg #[.int .i64 oi, .int .i64 os, .int .i64 oe, .int .i64 ok, .int .i64 oa]) (by simp [Act.eval]) (by simp [Act.eval]) hr ?_
          replace hX := hO _ _ hX (by omega)
          replace hQ := hO _ _ hQ (by omega)
          replace hW := hBl _ _ hW (by omega)
          clear hP hr hO hBl
          have hP := hN
          clear hN
          have hH := hS'.out _ hX
          refine hK.out _ _ ?_ (fun hHeld => ?_)
          · with_reducible exact hH
          clear hK K hH
          try simp only [List.getElem_toArray, List.getElem_cons_succ, List.getElem_cons_zero]
          try simp only [Act.put]
          refine wpAnyH_ready (rs := [7]) (by kernel_rfl) (by simp) (AllReadyH.cons rfl (fun K hK => ?_) AllReadyH.nil)
          · obtain ⟨wm, hr, hN, hO, hBl⟩ := store_an (cs' := #[.int .i64 ai, .int .i64 ac, .int .i64 av]) hQ rfl (by simp [Value.oneCell'])
            refine step_store_known rfl 43 _ _ rfl ⟨gQ, 0, none⟩ (.agg #[.int .i64 ai, .int .i64 ac, .int .i64 av]) (by simp [Act.eval]) (by simp [Act.eval]) hr ?_
            replace hX := hO _ _ hX (by omega)
            replace hP := hO _ _ hP (by omega)
            replace hW := hBl _ _ hW (by omega)
            clear hQ hr hO hBl
            have hQ := hN
            clear hN
            have hH := hS'.out _ hX
            refine hK.out _ _ ?_ (fun hHeld => ?_)
            · with_reducible exact hH
            clear hK K hH
            try simp only [List.getElem_toArray, List.getElem_cons_succ, List.getElem_cons_zero]
            try simp only [Act.put]
            refine wpAnyH_done (by kernel_rfl) ?_ _
            go_wp2_with fail
            go_meet
            case rel => exact ⟨gP, gQ, rfl, rfl, Lib.hid hX, Lib.hid hP, Lib.hid hQ, Lib.hid hW⟩
    · refine step_alloc_new rfl 43 rfl #[.int .i64 0, .int .i64 0, .int .i64 0] (fun X => alloc_an X) ?_
      intro gQ wn hQ hgQ hb
      have hLQ : w.heap.size < gQ := Nat.lt_of_lt_of_le (heap_lt hX) hgQ
      replace hX := keepH hb hX
      replace hW := keepB hW hb
      clear hb hgQ
      have hH := hS'.out _ hX
      refine hK.out _ _ ?_ (fun hHeld => ?_)
      · with_reducible exact hH
      clear hK K hH
      try simp only [List.getElem_toArray, List.getElem_cons_succ, List.getElem_cons_zero]
      try simp only [Act.put, List.setIfInBounds_toArray, List.set_cons_zero, List.set_cons_succ]
      refine wpAnyH_ready (rs := [4]) (by kernel_rfl) (by simp) (AllReadyH.cons rfl (fun K hK => ?_) AllReadyH.nil)
      · refine step_alloc_new rfl 28 rfl #[.int .i64 0, .int .i64 0, .int .i64 0, .int .i64 0, .int .i64 0] (fun X => alloc_or X) ?_
        intro gP wn hP hgP hb
        have hLP : w.heap.size < gP := Nat.lt_of_lt_of_le (heap_lt hX) hgP
        have hPQ : gP ≠ gQ := by have := heap_lt hQ; omega
        replace hX := keepH hb hX
        replace hW := keepB hW hb
        replace hQ := keepH hb hQ
        clear hb hgP
        have hH := hS'.out _ hX
        refine hK.out _ _ ?_ (fun hHeld => ?_)
        · with_reducible exact hH
        clear hK K hH
        try simp only [List.getElem_toArray, List.getElem_cons_succ, List.getElem_cons_zero]
        try simp only [Act.put, List.setIfInBounds_toArray, List.set_cons_zero, List.set_cons_succ]
        refine wpAnyH_ready (rs := [6]) (by kernel_rfl) (by simp) (AllReadyH.cons rfl (fun K hK => ?_) AllReadyH.nil)
        · obtain ⟨wm, hr, hN, hO, hBl⟩ := store_or (cs' := #[.int .i64 oi, .int .i64 os, .int .i64 oe, .int .i64 ok, .int .i64 oa]) hP rfl (by simp [Value.oneCell'])
          refine step_store_known rfl 28 _ _ rfl ⟨gP, 0, none⟩ (.agg #[.int .i64 oi, .int .i64 os, .int .i64 oe, .int .i64 ok, .int .i64 oa]) (by simp [Act.eval]) (by simp [Act.eval]) hr ?_
          replace hX := hO _ _ hX (by omega)
          replace hQ := hO _ _ hQ (by omega)
          replace hW := hBl _ _ hW (by omega)
          clear hP hr hO hBl
          have hP := hN
          clear hN
          have hH := hS'.out _ hX
          refine hK.out _ _ ?_ (fun hHeld => ?_)
          · with_reducible exact hH
          clear hK K hH
          try simp only [List.getElem_toArray, List.getElem_cons_succ, List.getElem_cons_zero]
          try simp only [Act.put]
          refine wpAnyH_ready (rs := [7]) (by kernel_rfl) (by simp) (AllReadyH.cons rfl (fun K hK => ?_) AllReadyH.nil)
          · obtain ⟨wm, hr, hN, hO, hBl⟩ := store_an (cs' := #[.int .i64 ai, .int .i64 ac, .int .i64 av]) hQ rfl (by simp [Value.oneCell'])
            refine step_store_known rfl 43 _ _ rfl ⟨gQ, 0, none⟩ (.agg #[.int .i64 ai, .int .i64 ac, .int .i64 av]) (by simp [Act.eval]) (by simp [Act.eval]) hr ?_
            replace hX := hO _ _ hX (by omega)
            replace hP := hO _ _ hP (by omega)
            replace hW := hBl _ _ hW (by omega)
            clear hQ hr hO hBl
            have hQ := hN
            clear hN
            have hH := hS'.out _ hX
            refine hK.out _ _ ?_ (fun hHeld => ?_)
            · with_reducible exact hH
            clear hK K hH
            try simp only [List.getElem_toArray, List.getElem_cons_succ, List.getElem_cons_zero]
            try simp only [Act.put]
            refine wpAnyH_done (by kernel_rfl) ?_ _
            go_wp2_with fail
            go_meet
            case rel => exact ⟨gP, gQ, rfl, rfl, Lib.hid hX, Lib.hid hP, Lib.hid hQ, Lib.hid hW⟩
  case rest =>
  obtain ⟨gP, gQ, rfl, rfl, hXc, hPc, hQc, hWc⟩ := hcut
  obtain ⟨w3, he⟩ : ∃ W : World, W = wc := ⟨_, rfl⟩
  subst he
  clear HFS h_r2 hB2
  have d0 : w3.cell? ⟨w.heap.size, 0, none⟩ = some (.int .i64 ki) := (by rw [Lib.cell_of_heap hXc.out]; rfl)
  have d1 : w3.cell? ⟨w.heap.size, 1, none⟩ = some (.int .i64 fr) := (by rw [Lib.cell_of_heap hXc.out]; rfl)
  have d2 : w3.cell? ⟨w.heap.size, 2, none⟩ = some (.int .i64 tt) := (by rw [Lib.cell_of_heap hXc.out]; rfl)
  have d3 : w3.cell? ⟨w.heap.size, 3, none⟩ = some (.int .i64 st) := (by rw [Lib.cell_of_heap hXc.out]; rfl)
  have d4 : w3.cell? ⟨w.heap.size, 4, none⟩ = some (.int .i64 ep) := (by rw [Lib.cell_of_heap hXc.out]; rfl)
  have d5 : w3.cell? ⟨w.heap.size, 5, none⟩ = some (.int .i64 vi) := (by rw [Lib.cell_of_heap hXc.out]; rfl)
  have d6 : w3.cell? ⟨w.heap.size, 6, none⟩ = some (.int .i64 ba) := (by rw [Lib.cell_of_heap hXc.out]; rfl)
  have d7 : w3.cell? ⟨w.heap.size, 7, none⟩ = some (.int .i64 le) := (by rw [Lib.cell_of_heap hXc.out]; rfl)
  have d8 : w3.cell? ⟨w.heap.size, 8, none⟩ = some (.int .i64 sp) := (by rw [Lib.cell_of_heap hXc.out]; rfl)
  go_wp2_with fail
  refine (HC1.out _ _ (heap_alloc_new _ _)).mono ?_
  rintro e w4 ⟨rfl, hb⟩
  replace hb : Below w3.heap.size w3 w4 := ((Below.refl _ _).alloc (Nat.le_refl _) _).trans (hb.mono (by simp))
  have hB4 := keepB hWc.out hb
  have hX4 := keepH hb hXc.out
  have hP4 := keepH hb hPc.out
  have hQ4 := keepH hb hQc.out
  clear hb hXc hPc hQc hWc d0 d1 d2 d3 d4 d5 d6 d7 d8
  have d9 : w4.cell? ⟨w.heap.size, 9, none⟩ = some (.slice A es.length c) := (by rw [Lib.cell_of_heap hX4]; rfl)
  go_wp2_with fail
  refine (HC2.out _ hB4).mono ?_
  rintro e w5 ⟨rfl, hb⟩
  have hB5 := keepB hB4 hb
  have hP5 := keepH hb hP4
  have hQ5 := keepH hb hQ4
  clear hb hX4 hP4 hQ4 d9 HC1
  have p0 : w5.cell? ⟨gP, 0, none⟩ = some (.int .i64 oi) := (by rw [Lib.cell_of_heap hP5]; rfl)
  have p1 : w5.cell? ⟨gP, 1, none⟩ = some (.int .i64 os) := (by rw [Lib.cell_of_heap hP5]; rfl)
  have p2 : w5.cell? ⟨gP, 2, none⟩ = some (.int .i64 oe) := (by rw [Lib.cell_of_heap hP5]; rfl)
  have p3 : w5.cell? ⟨gP, 3, none⟩ = some (.int .i64 ok) := (by rw [Lib.cell_of_heap hP5]; rfl)
  have p4 : w5.cell? ⟨gP, 4, none⟩ = some (.int .i64 oa) := (by rw [Lib.cell_of_heap hP5]; rfl)
  have q0 : w5.cell? ⟨gQ, 0, none⟩ = some (.int .i64 ai) := (by rw [Lib.cell_of_heap hQ5]; rfl)
  have q1 : w5.cell? ⟨gQ, 1, none⟩ = some (.int .i64 ac) := (by rw [Lib.cell_of_heap hQ5]; rfl)
  have q2 : w5.cell? ⟨gQ, 2, none⟩ = some (.int .i64 av) := (by rw [Lib.cell_of_heap hQ5]; rfl)
  go_wp2_with fail
  refine (HC3.out _ _ (heap_alloc_new _ _)).mono ?_
  rintro e w6 ⟨rfl, hb⟩
  replace hb : Below w5.heap.size w5 w6 := ((Below.refl _ _).alloc (Nat.le_refl _) _).trans (hb.mono (by simp))
  have hB6 := keepB hB5 hb
  clear hb
  go_wp2_with fail
  go_ret2
  exact ⟨by rw [← HEND.out]; rfl, hB6⟩
theorem rmEnc_any (m : Ml) (n : Int) {v : Value} {w : World} (hE : EsB w.heap.size w v m.es) :
    Calls Tryd.prog 17 #[m.v v, .int .i64 n] w (NumPost (m.encR n) w) := by
  unfold Ml.encR
  cases hmay : m.may n
  · exact rmEnc_no m n hE hmay
  · exact rmEnc_yes m n hE hmay
end Go.Proofs.YtkdnhfeamibmdaaDoor
namespace Go.Proofs.YtkdnhfeamibmdaaDoor
open Go.RowKit Go.Sort
theorem tl_inj {a b : ByteArray} (h : a.toList = b.toList) : a = b := by
  rw [Lib.toList_data, Lib.toList_data] at h
  exact ByteArray.ext (Array.toList_inj.1 h)
theorem keep_new {X Y : World} {o : Obj} {n : Nat} (hn : X.heap.size = n) (hb : Below (X.alloc o).heap.size (X.alloc o) Y) : Y.heap[n]? = some o := by
  subst hn; exact (hb.block _ (by simp)).trans (heap_alloc_new X o)
theorem set_far {X : World} {a : Addr} {u : Value} {k : Nat} {o : Obj} (h : X.heap[k]? = some o) (hne : k ≠ a.block) : (X.setCell a u).heap[k]? = some o := (Below.heap_setCell _ _ _ _ hne).trans h
theorem ris_len (l : List UInt8) : ∀ (k a : Nat) (f : Bool), (ris l k a f).1.length = k
  | 0, _, _ => rfl
  | k + 1, a, f => by simp only [ris, List.length_cons, ris_len l k]
theorem rrows_row (l : List UInt8) (per : Nat) : ∀ (c a : Nat) (f : Bool), ∀ r ∈ (rrows l per c a f).1, r.length = per
  | 0, _, _, r, hr => by cases hr
  | c + 1, a, f, r, hr => by
    unfold rrows at hr
    cases f
    · simp only [Bool.false_eq_true, if_false, List.mem_cons] at hr
      rcases hr with rfl | hr
      · exact ris_len _ _ _ _
      · exact rrows_row l per c _ _ r hr
    · simp at hr
theorem rlst_row (l : List UInt8) (per a : Nat) (f : Bool) : ∀ r ∈ (rlst l per a f).1, r.length = per := rrows_row l per _ _ _
theorem rrows_end {l : List UInt8} {per : Nat} : ∀ {c a : Nat} {f : Bool}, a ≤ l.length → (rrows l per c a f).2.1 ≤ l.length
  | 0, _, _, h => h
  | c + 1, a, f, h => by
    unfold rrows
    cases f
    · simp only [Bool.false_eq_true, if_false]
      exact rrows_end (ris_bd h).2.1
    · simpa using h
theorem rlst_end {s : ByteArray} {a a' per : Nat} {f f' : Bool} {R : List (List Int)} (h : rlst (bytesOf s) per a f = (R, a', f')) (ha : a ≤ s.size) : a' ≤ s.size := by
  have h1 := (ri_bd (l := bytesOf s) (f := f) (a := a) (by rw [bytes_len]; exact ha)).2.1
  have h2 := rrows_end (l := bytesOf s) (per := per) (c := (ri (bytesOf s) a f).1.toNat) (f := (ri (bytesOf s) a f).2.2) h1
  unfold rlst at h
  rw [h, bytes_len] at h2
  exact h2
theorem own_slice {w : World} {base : Nat} {e : TypeId} {size n : Nat} {v : Value} {xs : List Value} (h : w.ownsRow base e size v n xs) : ∃ A c, v = .slice A n c := by
  rcases h.2 with ⟨rfl, rfl⟩ | ⟨g, cap, cur, rfl, _⟩
  · exact ⟨none, 0, rfl⟩
  · exact ⟨_, _, rfl⟩
theorem row_bel {w w' : World} {base : Nat} {e : TypeId} {size n : Nat} {v : Value} {xs : List Value} (h : w.ownsRow base e size v n xs) (hb : Below w.heap.size w w') : w'.ownsRow base e size v n xs :=
  owns_foot h (below_foot hb : Foot (fun _ => False) w w') fun _ _ e => e
theorem row_far {w : World} {base : Nat} {e : TypeId} {size n : Nat} {v : Value} {xs : List Value} {a : Addr} {u : Value} (h : w.ownsRow base e size v n xs) (hlt : a.block < base) : (w.setCell a u).ownsRow base e size v n xs :=
  owns_foot h (Foot.set (fun j => j = a.block) _ _ _ rfl) fun j hj e => by have := (World.ownsRow.lt h j hj).1; omega
theorem row_foot {m : Nat} {w w' : World} {base : Nat} {e : TypeId} {size n : Nat} {v : Value} {xs : List Value} (h : w.ownsRow base e size v n xs) (hf : Foot (fun j => j = m) w w') (hlt : m < base) : w'.ownsRow base e size v n xs :=
  owns_foot h hf fun j hj e => by have := (World.ownsRow.lt h j hj).1; omega
theorem row_set {w : World} {base g : Nat} {e : TypeId} {size n : Nat} {v : Value} {xs : List Value} {bs : Array Value} (h : w.ownsRow base e size v n xs) (hne : ∀ j, v.ownBlock = some j → j ≠ g) : (w.setRow g bs).ownsRow base e size v n xs :=
  owns_foot h (Foot.row (fun j => j = g) _ _ _ rfl) fun j hj e => hne j hj e
/-- A message of nothing, as it is built. -/
theorem wpList_zero_ml {ops : Array Oper} {rest : List Oper} {o : Oper} {a : Act} {w : World} {Q : Exit → Act → World → Prop} (hg : o.guard = none) (ho : o.op = .build 45 #[]) (h : wpList Tryd.prog ops Q rest (a.put o.dst (.agg #[.int .i64 0, .int .i64 0, .int .i64 0, .int .i64 0, .int .i64 0, .int .i64 0, .int .i64 0, .int .i64 0, .int .i64 0, .slice none 0 0, .int .i64 0, .int .i64 0, .int .i64 0, .int .i64 0, .int .i64 0, .int .i64 0, .int .i64 0, .int .i64 0])) w) : wpList Tryd.prog ops Q (o :: rest) a w := by
  have hb : Program.built Tryd.prog 45 [] = some #[.int .i64 0, .int .i64 0, .int .i64 0, .int .i64 0, .int .i64 0, .int .i64 0, .int .i64 0, .int .i64 0, .int .i64 0, .slice none 0 0, .int .i64 0, .int .i64 0, .int .i64 0, .int .i64 0, .int .i64 0, .int .i64 0, .int .i64 0, .int .i64 0] := by kernel_rfl
  exact wpList_build hg 45 #[] ho (by simp [hb]) (by simpa [hb] using h)
theorem ml0_v : ml0.v (.slice none 0 0) = .agg #[.int .i64 0, .int .i64 0, .int .i64 0, .int .i64 0, .int .i64 0, .int .i64 0, .int .i64 0, .int .i64 0, .int .i64 0, .slice none 0 0, .int .i64 0, .int .i64 0, .int .i64 0, .int .i64 0, .int .i64 0, .int .i64 0, .int .i64 0, .int .i64 0] := rfl
/-- What is read of a message's bytes is the message. -/
theorem rm_of {l : List UInt8} {y0 y1 y2 y3 y4 y5 y6 y7 y8 o0 o1 o2 o3 o4 z0 z1 z2 n : Int} {es : List En} {a9 a10 a15 a18 : Nat} {f9 f10 f15 f18 : Bool}
    (h9 : ris l 9 0 false = ([y0, y1, y2, y3, y4, y5, y6, y7, y8], a9, f9)) (hL : rlst l 6 a9 f9 = (es.map En.l, a10, f10)) (hO : ris l 5 a10 f10 = ([o0, o1, o2, o3, o4], a15, f15)) (hA : ris l 3 a15 f15 = ([z0, z1, z2], a18, f18))
    {m : Ml} (hm : m.may n = true) (he : m.enc = l) : m = ⟨y0, y1, y2, y3, y4, y5, y6, y7, y8, es, ⟨o0, o1, o2, o3, o4⟩, z0, z1, z2⟩ ∧ f18 = false := by
  subst he
  have hes := Ml.may_es hm
  have hi := Ml.ints_l (Ml.may_ints hm) (by omega)
  have hw := Rds.whole.2 ⟨hi, rfl⟩
  obtain ⟨a, w1, w2⟩ := Rds.split (ns := m.hd) hw
  obtain ⟨b, w3, w4⟩ := Rds.split (ns := esL m.es) w2
  obtain ⟨c, w5, w6⟩ := Rds.split (ns := m.o.l) w4
  have e1 := ris_of w1
  have e2 := rlst_of (rows := m.es.map En.l) (per := 6) (fun x hx => by obtain ⟨e, _, rfl⟩ := List.mem_map.1 hx; rfl) (by simpa [esL] using w3)
  have e3 := ris_of w5
  have e4 := ris_of w6
  rw [show m.hd.length = 9 from rfl] at e1
  rw [show m.o.l.length = 5 from rfl] at e3
  rw [show ([m.ai, m.ac, m.av] : List Int).length = 3 from rfl] at e4
  have k1 := h9.symm.trans e1
  simp only [Prod.mk.injEq] at k1
  obtain ⟨k1, rfl, rfl⟩ := k1
  have k2 := hL.symm.trans e2
  simp only [Prod.mk.injEq] at k2
  obtain ⟨k2, rfl, rfl⟩ := k2
  have k3 := hO.symm.trans e3
  simp only [Prod.mk.injEq] at k3
  obtain ⟨k3, rfl, rfl⟩ := k3
  have k4 := hA.symm.trans e4
  simp only [Prod.mk.injEq] at k4
  obtain ⟨k4, rfl, rfl⟩ := k4
  refine ⟨?_, rfl⟩
  obtain ⟨ki, fr, tt, st, ep, vi, ba, le, sp, es', ⟨q0, q1, q2, q3, q4⟩, ai, ac, av⟩ := m
  simp only [Ml.hd, Od.l, List.cons.injEq, and_true] at k1 k3 k4
  obtain ⟨rfl, rfl, rfl, rfl, rfl, rfl, rfl, rfl, rfl⟩ := k1
  obtain ⟨rfl, rfl, rfl, rfl, rfl⟩ := k3
  obtain ⟨rfl, rfl, rfl⟩ := k4
  have k5 : es = es' := by
    have h := congrArg (List.map enOf) k2
    simpa [enOf_l, Function.comp_def] using h
  subst k5
  rfl
set_option maxRecDepth 100000 in
set_option maxHeartbeats 16000000 in
theorem rmDec_any {s : ByteArray} (hs : s.size ≤ 1000000) (n : Int) (w : World) : Calls Tryd.prog 23 #[.string s, .int .i64 n] w (MlDecPost (bytesOf s) n w) := by
  obtain ⟨⟨y0, a1, f1⟩, h0⟩ : ∃ N, ri (bytesOf s) 0 false = N := ⟨_, rfl⟩
  obtain ⟨⟨y1, a2, f2⟩, h1⟩ : ∃ N, ri (bytesOf s) a1 f1 = N := ⟨_, rfl⟩
  obtain ⟨⟨y2, a3, f3⟩, h2⟩ : ∃ N, ri (bytesOf s) a2 f2 = N := ⟨_, rfl⟩
  obtain ⟨⟨y3, a4, f4⟩, h3⟩ : ∃ N, ri (bytesOf s) a3 f3 = N := ⟨_, rfl⟩
  obtain ⟨⟨y4, a5, f5⟩, h4⟩ : ∃ N, ri (bytesOf s) a4 f4 = N := ⟨_, rfl⟩
  obtain ⟨⟨y5, a6, f6⟩, h5⟩ : ∃ N, ri (bytesOf s) a5 f5 = N := ⟨_, rfl⟩
  obtain ⟨⟨y6, a7, f7⟩, h6⟩ : ∃ N, ri (bytesOf s) a6 f6 = N := ⟨_, rfl⟩
  obtain ⟨⟨y7, a8, f8⟩, h7⟩ : ∃ N, ri (bytesOf s) a7 f7 = N := ⟨_, rfl⟩
  obtain ⟨⟨y8, a9, f9⟩, h8⟩ : ∃ N, ri (bytesOf s) a8 f8 = N := ⟨_, rfl⟩
  have HN : Hid (ris (bytesOf s) 9 0 false = ([y0, y1, y2, y3, y4, y5, y6, y7, y8], a9, f9)) := by show _ = _; simp [ris, h0, h1, h2, h3, h4, h5, h6, h7, h8]
  have ha9 : a9 ≤ s.size := by have h := (ris_bd (l := bytesOf s) (k := 9) (a := 0) (f := false) (Nat.zero_le _)).2.1; rw [HN.out, bytes_len] at h; exact h
  have K0 := Lib.hid h0
  have K1 := Lib.hid h1
  have K2 := Lib.hid h2
  have K3 := Lib.hid h3
  have K4 := Lib.hid h4
  have K5 := Lib.hid h5
  have K6 := Lib.hid h6
  have K7 := Lib.hid h7
  have K8 := Lib.hid h8
  clear h0 h1 h2 h3 h4 h5 h6 h7 h8
  obtain ⟨⟨R, a10, f10⟩, hL⟩ : ∃ N, rlst (bytesOf s) 6 a9 f9 = N := ⟨_, rfl⟩
  have hR6 := rlst_row (bytesOf s) 6 a9 f9
  rw [hL] at hR6
  obtain ⟨es, rfl⟩ : ∃ es : List En, R = es.map En.l := ⟨R.map enOf, (map_enOf hR6).symm⟩
  clear hR6
  have KL := Lib.hid hL
  clear hL
  obtain ⟨⟨RO, a15, f15⟩, hO⟩ : ∃ N, ris (bytesOf s) 5 a10 f10 = N := ⟨_, rfl⟩
  have KO := Lib.hid hO
  clear hO
  obtain ⟨⟨z0, a16, f16⟩, h0⟩ : ∃ N, ri (bytesOf s) a15 f15 = N := ⟨_, rfl⟩
  obtain ⟨⟨z1, a17, f17⟩, h1⟩ : ∃ N, ri (bytesOf s) a16 f16 = N := ⟨_, rfl⟩
  obtain ⟨⟨z2, a18, f18⟩, h2⟩ : ∃ N, ri (bytesOf s) a17 f17 = N := ⟨_, rfl⟩
  have HA : Hid (ris (bytesOf s) 3 a15 f15 = ([z0, z1, z2], a18, f18)) := by show _ = _; simp [ris, h0, h1, h2]
  have J0 := Lib.hid h0
  have J1 := Lib.hid h1
  have J2 := Lib.hid h2
  clear h0 h1 h2
  obtain ⟨w1, HX1⟩ : ∃ W : World, Hid (W = ((w.alloc (.cells #[.int .i64 0, .int .i64 0, .int .i64 0, .int .i64 0, .int .i64 0, .int .i64 0, .int .i64 0, .int .i64 0, .int .i64 0, .slice none 0 0, .int .i64 0, .int .i64 0, .int .i64 0, .int .i64 0, .int .i64 0, .int .i64 0, .int .i64 0, .int .i64 0] 45)).alloc (.cells #[.string s, .int .i64 0, .bool false] 84)).alloc (.cells #[.int .i64 0, .int .i64 0, .int .i64 0, .int .i64 0, .int .i64 0, .int .i64 0, .int .i64 0, .int .i64 0, .int .i64 0, .slice none 0 0, .int .i64 0, .int .i64 0, .int .i64 0, .int .i64 0, .int .i64 0, .int .i64 0, .int .i64 0, .int .i64 0] 45)) := ⟨_, Lib.hid rfl⟩
  have hB : Below w.heap.size w w1 := by rw [HX1.out]; exact (((Below.refl _ _).alloc (Nat.le_refl _) _).alloc (by simp) _).alloc (by simp <;> omega) _
  have hG : w1.heap[w.heap.size]? = some (.cells #[.int .i64 0, .int .i64 0, .int .i64 0, .int .i64 0, .int .i64 0, .int .i64 0, .int .i64 0, .int .i64 0, .int .i64 0, .slice none 0 0, .int .i64 0, .int .i64 0, .int .i64 0, .int .i64 0, .int .i64 0, .int .i64 0, .int .i64 0, .int .i64 0] 45 (0, 0)) := by rw [HX1.out]; exact keep_new rfl (((Below.refl _ _).alloc (Nat.le_refl _) _).alloc (by simp) _)
  have hR : RrAt w1 (w.heap.size + 1) s 0 false := by rw [HX1.out]; exact keep_new (by simp) ((Below.refl _ _).alloc (Nat.le_refl _) _)
  have hX : w1.heap[w.heap.size + 1 + 1]? = some (.cells #[.int .i64 0, .int .i64 0, .int .i64 0, .int .i64 0, .int .i64 0, .int .i64 0, .int .i64 0, .int .i64 0, .int .i64 0, .slice none 0 0, .int .i64 0, .int .i64 0, .int .i64 0, .int .i64 0, .int .i64 0, .int .i64 0, .int .i64 0, .int .i64 0] 45 (0, 0)) := by rw [HX1.out]; exact keep_new (by simp) (Below.refl _ _)
  have hz : w.heap.size + 1 + 1 < w1.heap.size := heap_lt hX
  go_enter Tryd.func23, Tryd.ntmps23
  go_wp2_with (rw [← HX1.out])
  clear HX1
  refine (rint_any hs hR).mono ?_
  rintro e w2 hp
  unfold IntPost at hp
  rw [K0.out] at hp
  obtain ⟨rfl, hr, hf⟩ := hp
  dsimp only at hr ⊢
  replace hR := hr
  replace hB := hB.trans (hf.below (B := w.heap.size) fun j hj => ⟨by omega, by omega⟩)
  replace hG := hf.kept hG (by omega)
  replace hX := hf.kept hX (by omega)
  replace hz : w.heap.size + 1 + 1 < w2.heap.size := heap_lt hX
  have q : w2.cell? ⟨w.heap.size + 1 + 1, 0, none⟩ = some (.int .i64 0) := by rw [Lib.cell_of_heap hX]; rfl
  have fz : w2.frozen? ⟨w.heap.size + 1 + 1, 0, none⟩ = false := Lib.frozen_of_heap hX _
  obtain ⟨w3, HW⟩ : ∃ W : World, Hid (W = w2.setCell ⟨w.heap.size + 1 + 1, 0, none⟩ (.int .i64 y0)) := ⟨_, Lib.hid rfl⟩
  replace hX : w3.heap[w.heap.size + 1 + 1]? = some (.cells #[.int .i64 y0, .int .i64 0, .int .i64 0, .int .i64 0, .int .i64 0, .int .i64 0, .int .i64 0, .int .i64 0, .int .i64 0, .slice none 0 0, .int .i64 0, .int .i64 0, .int .i64 0, .int .i64 0, .int .i64 0, .int .i64 0, .int .i64 0, .int .i64 0] 45 (0, 0)) := by
    have h := heap_set (i := 0) (.int .i64 y0) hX
    simp only [Array.set!_eq_setIfInBounds, List.setIfInBounds_toArray, List.set_cons_zero] at h
    rw [HW.out]; exact h
  replace hR : RrAt w3 (w.heap.size + 1) s a1 f1 := by rw [HW.out]; exact set_far hR (by show _ ≠ w.heap.size + 1 + 1; omega)
  replace hG : w3.heap[w.heap.size]? = some (.cells #[.int .i64 0, .int .i64 0, .int .i64 0, .int .i64 0, .int .i64 0, .int .i64 0, .int .i64 0, .int .i64 0, .int .i64 0, .slice none 0 0, .int .i64 0, .int .i64 0, .int .i64 0, .int .i64 0, .int .i64 0, .int .i64 0, .int .i64 0, .int .i64 0] 45 (0, 0)) := by rw [HW.out]; exact set_far hG (by show _ ≠ w.heap.size + 1 + 1; omega)
  replace hB : Below w.heap.size w w3 := by rw [HW.out]; exact hB.setCell (by show _ ≤ w.heap.size + 1 + 1; omega) _
  replace hz : w.heap.size + 1 + 1 < w3.heap.size := heap_lt hX
  clear hr hf K0
  go_wp2_with (rw [← HW.out])
  clear q fz HW
  refine (rint_any hs hR).mono ?_
  rintro e w4 hp
  unfold IntPost at hp
  rw [K1.out] at hp
  obtain ⟨rfl, hr, hf⟩ := hp
  dsimp only at hr ⊢
  replace hR := hr
  replace hB := hB.trans (hf.below (B := w.heap.size) fun j hj => ⟨by omega, by omega⟩)
  replace hG := hf.kept hG (by omega)
  replace hX := hf.kept hX (by omega)
  replace hz : w.heap.size + 1 + 1 < w4.heap.size := heap_lt hX
  have q : w4.cell? ⟨w.heap.size + 1 + 1, 1, none⟩ = some (.int .i64 0) := by rw [Lib.cell_of_heap hX]; rfl
  have fz : w4.frozen? ⟨w.heap.size + 1 + 1, 1, none⟩ = false := Lib.frozen_of_heap hX _
  obtain ⟨w5, HW⟩ : ∃ W : World, Hid (W = w4.setCell ⟨w.heap.size + 1 + 1, 1, none⟩ (.int .i64 y1)) := ⟨_, Lib.hid rfl⟩
  replace hX : w5.heap[w.heap.size + 1 + 1]? = some (.cells #[.int .i64 y0, .int .i64 y1, .int .i64 0, .int .i64 0, .int .i64 0, .int .i64 0, .int .i64 0, .int .i64 0, .int .i64 0, .slice none 0 0, .int .i64 0, .int .i64 0, .int .i64 0, .int .i64 0, .int .i64 0, .int .i64 0, .int .i64 0, .int .i64 0] 45 (0, 0)) := by
    have h := heap_set (i := 1) (.int .i64 y1) hX
    simp only [Array.set!_eq_setIfInBounds, List.setIfInBounds_toArray, List.set_cons_zero, List.set_cons_succ] at h
    rw [HW.out]; exact h
  replace hR : RrAt w5 (w.heap.size + 1) s a2 f2 := by rw [HW.out]; exact set_far hR (by show _ ≠ w.heap.size + 1 + 1; omega)
  replace hG : w5.heap[w.heap.size]? = some (.cells #[.int .i64 0, .int .i64 0, .int .i64 0, .int .i64 0, .int .i64 0, .int .i64 0, .int .i64 0, .int .i64 0, .int .i64 0, .slice none 0 0, .int .i64 0, .int .i64 0, .int .i64 0, .int .i64 0, .int .i64 0, .int .i64 0, .int .i64 0, .int .i64 0] 45 (0, 0)) := by rw [HW.out]; exact set_far hG (by show _ ≠ w.heap.size + 1 + 1; omega)
  replace hB : Below w.heap.size w w5 := by rw [HW.out]; exact hB.setCell (by show _ ≤ w.heap.size + 1 + 1; omega) _
  replace hz : w.heap.size + 1 + 1 < w5.heap.size := heap_lt hX
  clear hr hf K1
  go_wp2_with (rw [← HW.out])
  clear q fz HW
  refine (rint_any hs hR).mono ?_
  rintro e w6 hp
  unfold IntPost at hp
  rw [K2.out] at hp
  obtain ⟨rfl, hr, hf⟩ := hp
  dsimp only at hr ⊢
  replace hR := hr
  replace hB := hB.trans (hf.below (B := w.heap.size) fun j hj => ⟨by omega, by omega⟩)
  replace hG := hf.kept hG (by omega)
  replace hX := hf.kept hX (by omega)
  replace hz : w.heap.size + 1 + 1 < w6.heap.size := heap_lt hX
  have q : w6.cell? ⟨w.heap.size + 1 + 1, 2, none⟩ = some (.int .i64 0) := by rw [Lib.cell_of_heap hX]; rfl
  have fz : w6.frozen? ⟨w.heap.size + 1 + 1, 2, none⟩ = false := Lib.frozen_of_heap hX _
  obtain ⟨w7, HW⟩ : ∃ W : World, Hid (W = w6.setCell ⟨w.heap.size + 1 + 1, 2, none⟩ (.int .i64 y2)) := ⟨_, Lib.hid rfl⟩
  replace hX : w7.heap[w.heap.size + 1 + 1]? = some (.cells #[.int .i64 y0, .int .i64 y1, .int .i64 y2, .int .i64 0, .int .i64 0, .int .i64 0, .int .i64 0, .int .i64 0, .int .i64 0, .slice none 0 0, .int .i64 0, .int .i64 0, .int .i64 0, .int .i64 0, .int .i64 0, .int .i64 0, .int .i64 0, .int .i64 0] 45 (0, 0)) := by
    have h := heap_set (i := 2) (.int .i64 y2) hX
    simp only [Array.set!_eq_setIfInBounds, List.setIfInBounds_toArray, List.set_cons_zero, List.set_cons_succ] at h
    rw [HW.out]; exact h
  replace hR : RrAt w7 (w.heap.size + 1) s a3 f3 := by rw [HW.out]; exact set_far hR (by show _ ≠ w.heap.size + 1 + 1; omega)
  replace hG : w7.heap[w.heap.size]? = some (.cells #[.int .i64 0, .int .i64 0, .int .i64 0, .int .i64 0, .int .i64 0, .int .i64 0, .int .i64 0, .int .i64 0, .int .i64 0, .slice none 0 0, .int .i64 0, .int .i64 0, .int .i64 0, .int .i64 0, .int .i64 0, .int .i64 0, .int .i64 0, .int .i64 0] 45 (0, 0)) := by rw [HW.out]; exact set_far hG (by show _ ≠ w.heap.size + 1 + 1; omega)
  replace hB : Below w.heap.size w w7 := by rw [HW.out]; exact hB.setCell (by show _ ≤ w.heap.size + 1 + 1; omega) _
  replace hz : w.heap.size + 1 + 1 < w7.heap.size := heap_lt hX
  clear hr hf K2
  go_wp2_with (rw [← HW.out])
  clear q fz HW
  refine (rint_any hs hR).mono ?_
  rintro e w8 hp
  unfold IntPost at hp
  rw [K3.out] at hp
  obtain ⟨rfl, hr, hf⟩ := hp
  dsimp only at hr ⊢
  replace hR := hr
  replace hB := hB.trans (hf.below (B := w.heap.size) fun j hj => ⟨by omega, by omega⟩)
  replace hG := hf.kept hG (by omega)
  replace hX := hf.kept hX (by omega)
  replace hz : w.heap.size + 1 + 1 < w8.heap.size := heap_lt hX
  have q : w8.cell? ⟨w.heap.size + 1 + 1, 3, none⟩ = some (.int .i64 0) := by rw [Lib.cell_of_heap hX]; rfl
  have fz : w8.frozen? ⟨w.heap.size + 1 + 1, 3, none⟩ = false := Lib.frozen_of_heap hX _
  obtain ⟨w9, HW⟩ : ∃ W : World, Hid (W = w8.setCell ⟨w.heap.size + 1 + 1, 3, none⟩ (.int .i64 y3)) := ⟨_, Lib.hid rfl⟩
  replace hX : w9.heap[w.heap.size + 1 + 1]? = some (.cells #[.int .i64 y0, .int .i64 y1, .int .i64 y2, .int .i64 y3, .int .i64 0, .int .i64 0, .int .i64 0, .int .i64 0, .int .i64 0, .slice none 0 0, .int .i64 0, .int .i64 0, .int .i64 0, .int .i64 0, .int .i64 0, .int .i64 0, .int .i64 0, .int .i64 0] 45 (0, 0)) := by
    have h := heap_set (i := 3) (.int .i64 y3) hX
    simp only [Array.set!_eq_setIfInBounds, List.setIfInBounds_toArray, List.set_cons_zero, List.set_cons_succ] at h
    rw [HW.out]; exact h
  replace hR : RrAt w9 (w.heap.size + 1) s a4 f4 := by rw [HW.out]; exact set_far hR (by show _ ≠ w.heap.size + 1 + 1; omega)
  replace hG : w9.heap[w.heap.size]? = some (.cells #[.int .i64 0, .int .i64 0, .int .i64 0, .int .i64 0, .int .i64 0, .int .i64 0, .int .i64 0, .int .i64 0, .int .i64 0, .slice none 0 0, .int .i64 0, .int .i64 0, .int .i64 0, .int .i64 0, .int .i64 0, .int .i64 0, .int .i64 0, .int .i64 0] 45 (0, 0)) := by rw [HW.out]; exact set_far hG (by show _ ≠ w.heap.size + 1 + 1; omega)
  replace hB : Below w.heap.size w w9 := by rw [HW.out]; exact hB.setCell (by show _ ≤ w.heap.size + 1 + 1; omega) _
  replace hz : w.heap.size + 1 + 1 < w9.heap.size := heap_lt hX
  clear hr hf K3
  go_wp2_with (rw [← HW.out])
  clear q fz HW
  refine (rint_any hs hR).mono ?_
  rintro e w10 hp
  unfold IntPost at hp
  rw [K4.out] at hp
  obtain ⟨rfl, hr, hf⟩ := hp
  dsimp only at hr ⊢
  replace hR := hr
  replace hB := hB.trans (hf.below (B := w.heap.size) fun j hj => ⟨by omega, by omega⟩)
  replace hG := hf.kept hG (by omega)
  replace hX := hf.kept hX (by omega)
  replace hz : w.heap.size + 1 + 1 < w10.heap.size := heap_lt hX
  have q : w10.cell? ⟨w.heap.size + 1 + 1, 4, none⟩ = some (.int .i64 0) := by rw [Lib.cell_of_heap hX]; rfl
  have fz : w10.frozen? ⟨w.heap.size + 1 + 1, 4, none⟩ = false := Lib.frozen_of_heap hX _
  obtain ⟨w11, HW⟩ : ∃ W : World, Hid (W = w10.setCell ⟨w.heap.size + 1 + 1, 4, none⟩ (.int .i64 y4)) := ⟨_, Lib.hid rfl⟩
  replace hX : w11.heap[w.heap.size + 1 + 1]? = some (.cells #[.int .i64 y0, .int .i64 y1, .int .i64 y2, .int .i64 y3, .int .i64 y4, .int .i64 0, .int .i64 0, .int .i64 0, .int .i64 0, .slice none 0 0, .int .i64 0, .int .i64 0, .int .i64 0, .int .i64 0, .int .i64 0, .int .i64 0, .int .i64 0, .int .i64 0] 45 (0, 0)) := by
    have h := heap_set (i := 4) (.int .i64 y4) hX
    simp only [Array.set!_eq_setIfInBounds, List.setIfInBounds_toArray, List.set_cons_zero, List.set_cons_succ] at h
    rw [HW.out]; exact h
  replace hR : RrAt w11 (w.heap.size + 1) s a5 f5 := by rw [HW.out]; exact set_far hR (by show _ ≠ w.heap.size + 1 + 1; omega)
  replace hG : w11.heap[w.heap.size]? = some (.cells #[.int .i64 0, .int .i64 0, .int .i64 0, .int .i64 0, .int .i64 0, .int .i64 0, .int .i64 0, .int .i64 0, .int .i64 0, .slice none 0 0, .int .i64 0, .int .i64 0, .int .i64 0, .int .i64 0, .int .i64 0, .int .i64 0, .int .i64 0, .int .i64 0] 45 (0, 0)) := by rw [HW.out]; exact set_far hG (by show _ ≠ w.heap.size + 1 + 1; omega)
  replace hB : Below w.heap.size w w11 := by rw [HW.out]; exact hB.setCell (by show _ ≤ w.heap.size + 1 + 1; omega) _
  replace hz : w.heap.size + 1 + 1 < w11.heap.size := heap_lt hX
  clear hr hf K4
  go_wp2_with (rw [← HW.out])
  clear q fz HW
  refine (rint_any hs hR).mono ?_
  rintro e w12 hp
  unfold IntPost at hp
  rw [K5.out] at hp
  obtain ⟨rfl, hr, hf⟩ := hp
  dsimp only at hr ⊢
  replace hR := hr
  replace hB := hB.trans (hf.below (B := w.heap.size) fun j hj => ⟨by omega, by omega⟩)
  replace hG := hf.kept hG (by omega)
  replace hX := hf.kept hX (by omega)
  replace hz : w.heap.size + 1 + 1 < w12.heap.size := heap_lt hX
  have q : w12.cell? ⟨w.heap.size + 1 + 1, 5, none⟩ = some (.int .i64 0) := by rw [Lib.cell_of_heap hX]; rfl
  have fz : w12.frozen? ⟨w.heap.size + 1 + 1, 5, none⟩ = false := Lib.frozen_of_heap hX _
  obtain ⟨w13, HW⟩ : ∃ W : World, Hid (W = w12.setCell ⟨w.heap.size + 1 + 1, 5, none⟩ (.int .i64 y5)) := ⟨_, Lib.hid rfl⟩
  replace hX : w13.heap[w.heap.size + 1 + 1]? = some (.cells #[.int .i64 y0, .int .i64 y1, .int .i64 y2, .int .i64 y3, .int .i64 y4, .int .i64 y5, .int .i64 0, .int .i64 0, .int .i64 0, .slice none 0 0, .int .i64 0, .int .i64 0, .int .i64 0, .int .i64 0, .int .i64 0, .int .i64 0, .int .i64 0, .int .i64 0] 45 (0, 0)) := by
    have h := heap_set (i := 5) (.int .i64 y5) hX
    simp only [Array.set!_eq_setIfInBounds, List.setIfInBounds_toArray, List.set_cons_zero, List.set_cons_succ] at h
    rw [HW.out]; exact h
  replace hR : RrAt w13 (w.heap.size + 1) s a6 f6 := by rw [HW.out]; exact set_far hR (by show _ ≠ w.heap.size + 1 + 1; omega)
  replace hG : w13.heap[w.heap.size]? = some (.cells #[.int .i64 0, .int .i64 0, .int .i64 0, .int .i64 0, .int .i64 0, .int .i64 0, .int .i64 0, .int .i64 0, .int .i64 0, .slice none 0 0, .int .i64 0, .int .i64 0, .int .i64 0, .int .i64 0, .int .i64 0, .int .i64 0, .int .i64 0, .int .i64 0] 45 (0, 0)) := by rw [HW.out]; exact set_far hG (by show _ ≠ w.heap.size + 1 + 1; omega)
  replace hB : Below w.heap.size w w13 := by rw [HW.out]; exact hB.setCell (by show _ ≤ w.heap.size + 1 + 1; omega) _
  replace hz : w.heap.size + 1 + 1 < w13.heap.size := heap_lt hX
  clear hr hf K5
  go_wp2_with (rw [← HW.out])
  clear q fz HW
  refine (rint_any hs hR).mono ?_
  rintro e w14 hp
  unfold IntPost at hp
  rw [K6.out] at hp
  obtain ⟨rfl, hr, hf⟩ := hp
  dsimp only at hr ⊢
  replace hR := hr
  replace hB := hB.trans (hf.below (B := w.heap.size) fun j hj => ⟨by omega, by omega⟩)
  replace hG := hf.kept hG (by omega)
  replace hX := hf.kept hX (by omega)
  replace hz : w.heap.size + 1 + 1 < w14.heap.size := heap_lt hX
  have q : w14.cell? ⟨w.heap.size + 1 + 1, 6, none⟩ = some (.int .i64 0) := by rw [Lib.cell_of_heap hX]; rfl
  have fz : w14.frozen? ⟨w.heap.size + 1 + 1, 6, none⟩ = false := Lib.frozen_of_heap hX _
  obtain ⟨w15, HW⟩ : ∃ W : World, Hid (W = w14.setCell ⟨w.heap.size + 1 + 1, 6, none⟩ (.int .i64 y6)) := ⟨_, Lib.hid rfl⟩
  replace hX : w15.heap[w.heap.size + 1 + 1]? = some (.cells #[.int .i64 y0, .int .i64 y1, .int .i64 y2, .int .i64 y3, .int .i64 y4, .int .i64 y5, .int .i64 y6, .int .i64 0, .int .i64 0, .slice none 0 0, .int .i64 0, .int .i64 0, .int .i64 0, .int .i64 0, .int .i64 0, .int .i64 0, .int .i64 0, .int .i64 0] 45 (0, 0)) := by
    have h := heap_set (i := 6) (.int .i64 y6) hX
    simp only [Array.set!_eq_setIfInBounds, List.setIfInBounds_toArray, List.set_cons_zero, List.set_cons_succ] at h
    rw [HW.out]; exact h
  replace hR : RrAt w15 (w.heap.size + 1) s a7 f7 := by rw [HW.out]; exact set_far hR (by show _ ≠ w.heap.size + 1 + 1; omega)
  replace hG : w15.heap[w.heap.size]? = some (.cells #[.int .i64 0, .int .i64 0, .int .i64 0, .int .i64 0, .int .i64 0, .int .i64 0, .int .i64 0, .int .i64 0, .int .i64 0, .slice none 0 0, .int .i64 0, .int .i64 0, .int .i64 0, .int .i64 0, .int .i64 0, .int .i64 0, .int .i64 0, .int .i64 0] 45 (0, 0)) := by rw [HW.out]; exact set_far hG (by show _ ≠ w.heap.size + 1 + 1; omega)
  replace hB : Below w.heap.size w w15 := by rw [HW.out]; exact hB.setCell (by show _ ≤ w.heap.size + 1 + 1; omega) _
  replace hz : w.heap.size + 1 + 1 < w15.heap.size := heap_lt hX
  clear hr hf K6
  go_wp2_with (rw [← HW.out])
  clear q fz HW
  refine (rint_any hs hR).mono ?_
  rintro e w16 hp
  unfold IntPost at hp
  rw [K7.out] at hp
  obtain ⟨rfl, hr, hf⟩ := hp
  dsimp only at hr ⊢
  replace hR := hr
  replace hB := hB.trans (hf.below (B := w.heap.size) fun j hj => ⟨by omega, by omega⟩)
  replace hG := hf.kept hG (by omega)
  replace hX := hf.kept hX (by omega)
  replace hz : w.heap.size + 1 + 1 < w16.heap.size := heap_lt hX
  have q : w16.cell? ⟨w.heap.size + 1 + 1, 7, none⟩ = some (.int .i64 0) := by rw [Lib.cell_of_heap hX]; rfl
  have fz : w16.frozen? ⟨w.heap.size + 1 + 1, 7, none⟩ = false := Lib.frozen_of_heap hX _
  obtain ⟨w17, HW⟩ : ∃ W : World, Hid (W = w16.setCell ⟨w.heap.size + 1 + 1, 7, none⟩ (.int .i64 y7)) := ⟨_, Lib.hid rfl⟩
  replace hX : w17.heap[w.heap.size + 1 + 1]? = some (.cells #[.int .i64 y0, .int .i64 y1, .int .i64 y2, .int .i64 y3, .int .i64 y4, .int .i64 y5, .int .i64 y6, .int .i64 y7, .int .i64 0, .slice none 0 0, .int .i64 0, .int .i64 0, .int .i64 0, .int .i64 0, .int .i64 0, .int .i64 0, .int .i64 0, .int .i64 0] 45 (0, 0)) := by
    have h := heap_set (i := 7) (.int .i64 y7) hX
    simp only [Array.set!_eq_setIfInBounds, List.setIfInBounds_toArray, List.set_cons_zero, List.set_cons_succ] at h
    rw [HW.out]; exact h
  replace hR : RrAt w17 (w.heap.size + 1) s a8 f8 := by rw [HW.out]; exact set_far hR (by show _ ≠ w.heap.size + 1 + 1; omega)
  replace hG : w17.heap[w.heap.size]? = some (.cells #[.int .i64 0, .int .i64 0, .int .i64 0, .int .i64 0, .int .i64 0, .int .i64 0, .int .i64 0, .int .i64 0, .int .i64 0, .slice none 0 0, .int .i64 0, .int .i64 0, .int .i64 0, .int .i64 0, .int .i64 0, .int .i64 0, .int .i64 0, .int .i64 0] 45 (0, 0)) := by rw [HW.out]; exact set_far hG (by show _ ≠ w.heap.size + 1 + 1; omega)
  replace hB : Below w.heap.size w w17 := by rw [HW.out]; exact hB.setCell (by show _ ≤ w.heap.size + 1 + 1; omega) _
  replace hz : w.heap.size + 1 + 1 < w17.heap.size := heap_lt hX
  clear hr hf K7
  go_wp2_with (rw [← HW.out])
  clear q fz HW
  refine (rint_any hs hR).mono ?_
  rintro e w18 hp
  unfold IntPost at hp
  rw [K8.out] at hp
  obtain ⟨rfl, hr, hf⟩ := hp
  dsimp only at hr ⊢
  replace hR := hr
  replace hB := hB.trans (hf.below (B := w.heap.size) fun j hj => ⟨by omega, by omega⟩)
  replace hG := hf.kept hG (by omega)
  replace hX := hf.kept hX (by omega)
  replace hz : w.heap.size + 1 + 1 < w18.heap.size := heap_lt hX
  have q : w18.cell? ⟨w.heap.size + 1 + 1, 8, none⟩ = some (.int .i64 0) := by rw [Lib.cell_of_heap hX]; rfl
  have fz : w18.frozen? ⟨w.heap.size + 1 + 1, 8, none⟩ = false := Lib.frozen_of_heap hX _
  obtain ⟨w19, HW⟩ : ∃ W : World, Hid (W = w18.setCell ⟨w.heap.size + 1 + 1, 8, none⟩ (.int .i64 y8)) := ⟨_, Lib.hid rfl⟩
  replace hX : w19.heap[w.heap.size + 1 + 1]? = some (.cells #[.int .i64 y0, .int .i64 y1, .int .i64 y2, .int .i64 y3, .int .i64 y4, .int .i64 y5, .int .i64 y6, .int .i64 y7, .int .i64 y8, .slice none 0 0, .int .i64 0, .int .i64 0, .int .i64 0, .int .i64 0, .int .i64 0, .int .i64 0, .int .i64 0, .int .i64 0] 45 (0, 0)) := by
    have h := heap_set (i := 8) (.int .i64 y8) hX
    simp only [Array.set!_eq_setIfInBounds, List.setIfInBounds_toArray, List.set_cons_zero, List.set_cons_succ] at h
    rw [HW.out]; exact h
  replace hR : RrAt w19 (w.heap.size + 1) s a9 f9 := by rw [HW.out]; exact set_far hR (by show _ ≠ w.heap.size + 1 + 1; omega)
  replace hG : w19.heap[w.heap.size]? = some (.cells #[.int .i64 0, .int .i64 0, .int .i64 0, .int .i64 0, .int .i64 0, .int .i64 0, .int .i64 0, .int .i64 0, .int .i64 0, .slice none 0 0, .int .i64 0, .int .i64 0, .int .i64 0, .int .i64 0, .int .i64 0, .int .i64 0, .int .i64 0, .int .i64 0] 45 (0, 0)) := by rw [HW.out]; exact set_far hG (by show _ ≠ w.heap.size + 1 + 1; omega)
  replace hB : Below w.heap.size w w19 := by rw [HW.out]; exact hB.setCell (by show _ ≤ w.heap.size + 1 + 1; omega) _
  replace hz : w.heap.size + 1 + 1 < w19.heap.size := heap_lt hX
  clear hr hf K8
  go_wp2_with (rw [← HW.out])
  clear q fz HW
  refine (rlog_any hs hR ha9).mono ?_
  rintro e w20 hp
  unfold LogPost at hp
  rw [KL.out] at hp
  obtain ⟨v, rfl, hE, hr, hf⟩ := hp
  dsimp only at hr hE ⊢
  simp only [List.length_map] at hE
  obtain ⟨A, c, rfl⟩ := own_slice hE
  replace hE := owns_weaken hE (show w.heap.size + 1 + 1 + 1 ≤ _ by omega)
  replace hR := hr
  replace hB := hB.trans (hf.below (B := w.heap.size) fun j hj => ⟨by omega, by omega⟩)
  replace hG := hf.kept hG (by omega)
  replace hX := hf.kept hX (by omega)
  replace hz : w.heap.size + 1 + 1 < w20.heap.size := heap_lt hX
  have q : w20.cell? ⟨w.heap.size + 1 + 1, 9, none⟩ = some (.slice none 0 0) := by rw [Lib.cell_of_heap hX]; rfl
  have fz : w20.frozen? ⟨w.heap.size + 1 + 1, 9, none⟩ = false := Lib.frozen_of_heap hX _
  obtain ⟨w21, HW⟩ : ∃ W : World, Hid (W = w20.setCell ⟨w.heap.size + 1 + 1, 9, none⟩ (.slice A es.length c)) := ⟨_, Lib.hid rfl⟩
  replace hX : w21.heap[w.heap.size + 1 + 1]? = some (.cells #[.int .i64 y0, .int .i64 y1, .int .i64 y2, .int .i64 y3, .int .i64 y4, .int .i64 y5, .int .i64 y6, .int .i64 y7, .int .i64 y8, .slice A es.length c, .int .i64 0, .int .i64 0, .int .i64 0, .int .i64 0, .int .i64 0, .int .i64 0, .int .i64 0, .int .i64 0] 45 (0, 0)) := by
    have h := heap_set (i := 9) (.slice A es.length c) hX
    simp only [Array.set!_eq_setIfInBounds, List.setIfInBounds_toArray, List.set_cons_zero, List.set_cons_succ] at h
    rw [HW.out]; exact h
  replace hR : RrAt w21 (w.heap.size + 1) s a10 f10 := by rw [HW.out]; exact set_far hR (by show _ ≠ w.heap.size + 1 + 1; omega)
  replace hG : w21.heap[w.heap.size]? = some (.cells #[.int .i64 0, .int .i64 0, .int .i64 0, .int .i64 0, .int .i64 0, .int .i64 0, .int .i64 0, .int .i64 0, .int .i64 0, .slice none 0 0, .int .i64 0, .int .i64 0, .int .i64 0, .int .i64 0, .int .i64 0, .int .i64 0, .int .i64 0, .int .i64 0] 45 (0, 0)) := by rw [HW.out]; exact set_far hG (by show _ ≠ w.heap.size + 1 + 1; omega)
  replace hB : Below w.heap.size w w21 := by rw [HW.out]; exact hB.setCell (by show _ ≤ w.heap.size + 1 + 1; omega) _
  replace hE : w21.ownsRow (w.heap.size + 1 + 1 + 1) 30 6 (.slice A es.length c) es.length ((es.map En.l).flatten.map (Value.int .i64)) := by rw [HW.out]; exact row_far hE (by show w.heap.size + 1 + 1 < _; omega)
  replace hz : w.heap.size + 1 + 1 < w21.heap.size := heap_lt hX
  clear hr hf
  go_wp2_with (rw [← HW.out])
  clear q fz HW
  refine (rorder_any hs hR).mono ?_
  rintro e w22 hp
  unfold OrdPost at hp
  rw [KO.out] at hp
  obtain ⟨o0, o1, o2, o3, o4, he, rfl, hr, hf⟩ := hp
  dsimp only at hr he ⊢
  subst he
  replace hR := hr
  replace hB := hB.trans (hf.below (B := w.heap.size) fun j hj => ⟨by omega, by omega⟩)
  replace hG := hf.kept hG (by omega)
  replace hX := hf.kept hX (by omega)
  replace hE := row_foot hE hf (by omega)
  replace hz : w.heap.size + 1 + 1 < w22.heap.size := heap_lt hX
  have q0 : w22.cell? ⟨w.heap.size + 1 + 1, 10, none⟩ = some (.int .i64 0) := by rw [Lib.cell_of_heap hX]; rfl
  have fz0 : w22.frozen? ⟨w.heap.size + 1 + 1, 10, none⟩ = false := Lib.frozen_of_heap hX _
  have q1 : w22.cell? ⟨w.heap.size + 1 + 1, 11, none⟩ = some (.int .i64 0) := by rw [Lib.cell_of_heap hX]; rfl
  have fz1 : w22.frozen? ⟨w.heap.size + 1 + 1, 11, none⟩ = false := Lib.frozen_of_heap hX _
  have q2 : w22.cell? ⟨w.heap.size + 1 + 1, 12, none⟩ = some (.int .i64 0) := by rw [Lib.cell_of_heap hX]; rfl
  have fz2 : w22.frozen? ⟨w.heap.size + 1 + 1, 12, none⟩ = false := Lib.frozen_of_heap hX _
  have q3 : w22.cell? ⟨w.heap.size + 1 + 1, 13, none⟩ = some (.int .i64 0) := by rw [Lib.cell_of_heap hX]; rfl
  have fz3 : w22.frozen? ⟨w.heap.size + 1 + 1, 13, none⟩ = false := Lib.frozen_of_heap hX _
  have q4 : w22.cell? ⟨w.heap.size + 1 + 1, 14, none⟩ = some (.int .i64 0) := by rw [Lib.cell_of_heap hX]; rfl
  have fz4 : w22.frozen? ⟨w.heap.size + 1 + 1, 14, none⟩ = false := Lib.frozen_of_heap hX _
  obtain ⟨w23, HW⟩ : ∃ W : World, Hid (W = (((((w22).setCell ⟨w.heap.size + 1 + 1, 10, none⟩ (.int .i64 o0)).setCell ⟨w.heap.size + 1 + 1, 11, none⟩ (.int .i64 o1)).setCell ⟨w.heap.size + 1 + 1, 12, none⟩ (.int .i64 o2)).setCell ⟨w.heap.size + 1 + 1, 13, none⟩ (.int .i64 o3)).setCell ⟨w.heap.size + 1 + 1, 14, none⟩ (.int .i64 o4)) := ⟨_, Lib.hid rfl⟩
  replace hX : w23.heap[w.heap.size + 1 + 1]? = some (.cells #[.int .i64 y0, .int .i64 y1, .int .i64 y2, .int .i64 y3, .int .i64 y4, .int .i64 y5, .int .i64 y6, .int .i64 y7, .int .i64 y8, .slice A es.length c, .int .i64 o0, .int .i64 o1, .int .i64 o2, .int .i64 o3, .int .i64 o4, .int .i64 0, .int .i64 0, .int .i64 0] 45 (0, 0)) := by
    have h := heap_set (i := 14) (.int .i64 o4) (heap_set (i := 13) (.int .i64 o3) (heap_set (i := 12) (.int .i64 o2) (heap_set (i := 11) (.int .i64 o1) (heap_set (i := 10) (.int .i64 o0) hX))))
    simp only [Array.set!_eq_setIfInBounds, List.setIfInBounds_toArray, List.set_cons_zero, List.set_cons_succ] at h
    rw [HW.out]; exact h
  replace hR : RrAt w23 (w.heap.size + 1) s a15 f15 := by rw [HW.out]; exact set_far (set_far (set_far (set_far (set_far (hR) (by show _ ≠ w.heap.size + 1 + 1; omega)) (by show _ ≠ w.heap.size + 1 + 1; omega)) (by show _ ≠ w.heap.size + 1 + 1; omega)) (by show _ ≠ w.heap.size + 1 + 1; omega)) (by show _ ≠ w.heap.size + 1 + 1; omega)
  replace hG : w23.heap[w.heap.size]? = some (.cells #[.int .i64 0, .int .i64 0, .int .i64 0, .int .i64 0, .int .i64 0, .int .i64 0, .int .i64 0, .int .i64 0, .int .i64 0, .slice none 0 0, .int .i64 0, .int .i64 0, .int .i64 0, .int .i64 0, .int .i64 0, .int .i64 0, .int .i64 0, .int .i64 0] 45 (0, 0)) := by rw [HW.out]; exact set_far (set_far (set_far (set_far (set_far (hG) (by show _ ≠ w.heap.size + 1 + 1; omega)) (by show _ ≠ w.heap.size + 1 + 1; omega)) (by show _ ≠ w.heap.size + 1 + 1; omega)) (by show _ ≠ w.heap.size + 1 + 1; omega)) (by show _ ≠ w.heap.size + 1 + 1; omega)
  replace hB : Below w.heap.size w w23 := by rw [HW.out]; exact (((((hB).setCell (by show _ ≤ w.heap.size + 1 + 1; omega) _).setCell (by show _ ≤ w.heap.size + 1 + 1; omega) _).setCell (by show _ ≤ w.heap.size + 1 + 1; omega) _).setCell (by show _ ≤ w.heap.size + 1 + 1; omega) _).setCell (by show _ ≤ w.heap.size + 1 + 1; omega) _
  replace hE : w23.ownsRow (w.heap.size + 1 + 1 + 1) 30 6 (.slice A es.length c) es.length ((es.map En.l).flatten.map (Value.int .i64)) := by rw [HW.out]; exact row_far (row_far (row_far (row_far (row_far (hE) (by show w.heap.size + 1 + 1 < _; omega)) (by show w.heap.size + 1 + 1 < _; omega)) (by show w.heap.size + 1 + 1 < _; omega)) (by show w.heap.size + 1 + 1 < _; omega)) (by show w.heap.size + 1 + 1 < _; omega)
  replace hz : w.heap.size + 1 + 1 < w23.heap.size := heap_lt hX
  clear hr hf
  go_wp2_with (rw [← HW.out])
  clear HW q0 fz0 q1 fz1 q2 fz2 q3 fz3 q4 fz4
  refine (rint_any hs hR).mono ?_
  rintro e w24 hp
  unfold IntPost at hp
  rw [J0.out] at hp
  obtain ⟨rfl, hr, hf⟩ := hp
  dsimp only at hr ⊢
  replace hR := hr
  replace hB := hB.trans (hf.below (B := w.heap.size) fun j hj => ⟨by omega, by omega⟩)
  replace hG := hf.kept hG (by omega)
  replace hX := hf.kept hX (by omega)
  replace hE := row_foot hE hf (by omega)
  replace hz : w.heap.size + 1 + 1 < w24.heap.size := heap_lt hX
  have q : w24.cell? ⟨w.heap.size + 1 + 1, 15, none⟩ = some (.int .i64 0) := by rw [Lib.cell_of_heap hX]; rfl
  have fz : w24.frozen? ⟨w.heap.size + 1 + 1, 15, none⟩ = false := Lib.frozen_of_heap hX _
  obtain ⟨w25, HW⟩ : ∃ W : World, Hid (W = w24.setCell ⟨w.heap.size + 1 + 1, 15, none⟩ (.int .i64 z0)) := ⟨_, Lib.hid rfl⟩
  replace hX : w25.heap[w.heap.size + 1 + 1]? = some (.cells #[.int .i64 y0, .int .i64 y1, .int .i64 y2, .int .i64 y3, .int .i64 y4, .int .i64 y5, .int .i64 y6, .int .i64 y7, .int .i64 y8, .slice A es.length c, .int .i64 o0, .int .i64 o1, .int .i64 o2, .int .i64 o3, .int .i64 o4, .int .i64 z0, .int .i64 0, .int .i64 0] 45 (0, 0)) := by
    have h := heap_set (i := 15) (.int .i64 z0) hX
    simp only [Array.set!_eq_setIfInBounds, List.setIfInBounds_toArray, List.set_cons_zero, List.set_cons_succ] at h
    rw [HW.out]; exact h
  replace hR : RrAt w25 (w.heap.size + 1) s a16 f16 := by rw [HW.out]; exact set_far hR (by show _ ≠ w.heap.size + 1 + 1; omega)
  replace hG : w25.heap[w.heap.size]? = some (.cells #[.int .i64 0, .int .i64 0, .int .i64 0, .int .i64 0, .int .i64 0, .int .i64 0, .int .i64 0, .int .i64 0, .int .i64 0, .slice none 0 0, .int .i64 0, .int .i64 0, .int .i64 0, .int .i64 0, .int .i64 0, .int .i64 0, .int .i64 0, .int .i64 0] 45 (0, 0)) := by rw [HW.out]; exact set_far hG (by show _ ≠ w.heap.size + 1 + 1; omega)
  replace hB : Below w.heap.size w w25 := by rw [HW.out]; exact hB.setCell (by show _ ≤ w.heap.size + 1 + 1; omega) _
  replace hE : w25.ownsRow (w.heap.size + 1 + 1 + 1) 30 6 (.slice A es.length c) es.length ((es.map En.l).flatten.map (Value.int .i64)) := by rw [HW.out]; exact row_far hE (by show w.heap.size + 1 + 1 < _; omega)
  replace hz : w.heap.size + 1 + 1 < w25.heap.size := heap_lt hX
  clear hr hf J0
  go_wp2_with (rw [← HW.out])
  clear q fz HW
  refine (rint_any hs hR).mono ?_
  rintro e w26 hp
  unfold IntPost at hp
  rw [J1.out] at hp
  obtain ⟨rfl, hr, hf⟩ := hp
  dsimp only at hr ⊢
  replace hR := hr
  replace hB := hB.trans (hf.below (B := w.heap.size) fun j hj => ⟨by omega, by omega⟩)
  replace hG := hf.kept hG (by omega)
  replace hX := hf.kept hX (by omega)
  replace hE := row_foot hE hf (by omega)
  replace hz : w.heap.size + 1 + 1 < w26.heap.size := heap_lt hX
  have q : w26.cell? ⟨w.heap.size + 1 + 1, 16, none⟩ = some (.int .i64 0) := by rw [Lib.cell_of_heap hX]; rfl
  have fz : w26.frozen? ⟨w.heap.size + 1 + 1, 16, none⟩ = false := Lib.frozen_of_heap hX _
  obtain ⟨w27, HW⟩ : ∃ W : World, Hid (W = w26.setCell ⟨w.heap.size + 1 + 1, 16, none⟩ (.int .i64 z1)) := ⟨_, Lib.hid rfl⟩
  replace hX : w27.heap[w.heap.size + 1 + 1]? = some (.cells #[.int .i64 y0, .int .i64 y1, .int .i64 y2, .int .i64 y3, .int .i64 y4, .int .i64 y5, .int .i64 y6, .int .i64 y7, .int .i64 y8, .slice A es.length c, .int .i64 o0, .int .i64 o1, .int .i64 o2, .int .i64 o3, .int .i64 o4, .int .i64 z0, .int .i64 z1, .int .i64 0] 45 (0, 0)) := by
    have h := heap_set (i := 16) (.int .i64 z1) hX
    simp only [Array.set!_eq_setIfInBounds, List.setIfInBounds_toArray, List.set_cons_zero, List.set_cons_succ] at h
    rw [HW.out]; exact h
  replace hR : RrAt w27 (w.heap.size + 1) s a17 f17 := by rw [HW.out]; exact set_far hR (by show _ ≠ w.heap.size + 1 + 1; omega)
  replace hG : w27.heap[w.heap.size]? = some (.cells #[.int .i64 0, .int .i64 0, .int .i64 0, .int .i64 0, .int .i64 0, .int .i64 0, .int .i64 0, .int .i64 0, .int .i64 0, .slice none 0 0, .int .i64 0, .int .i64 0, .int .i64 0, .int .i64 0, .int .i64 0, .int .i64 0, .int .i64 0, .int .i64 0] 45 (0, 0)) := by rw [HW.out]; exact set_far hG (by show _ ≠ w.heap.size + 1 + 1; omega)
  replace hB : Below w.heap.size w w27 := by rw [HW.out]; exact hB.setCell (by show _ ≤ w.heap.size + 1 + 1; omega) _
  replace hE : w27.ownsRow (w.heap.size + 1 + 1 + 1) 30 6 (.slice A es.length c) es.length ((es.map En.l).flatten.map (Value.int .i64)) := by rw [HW.out]; exact row_far hE (by show w.heap.size + 1 + 1 < _; omega)
  replace hz : w.heap.size + 1 + 1 < w27.heap.size := heap_lt hX
  clear hr hf J1
  go_wp2_with (rw [← HW.out])
  clear q fz HW
  refine (rint_any hs hR).mono ?_
  rintro e w28 hp
  unfold IntPost at hp
  rw [J2.out] at hp
  obtain ⟨rfl, hr, hf⟩ := hp
  dsimp only at hr ⊢
  replace hR := hr
  replace hB := hB.trans (hf.below (B := w.heap.size) fun j hj => ⟨by omega, by omega⟩)
  replace hG := hf.kept hG (by omega)
  replace hX := hf.kept hX (by omega)
  replace hE := row_foot hE hf (by omega)
  replace hz : w.heap.size + 1 + 1 < w28.heap.size := heap_lt hX
  have q : w28.cell? ⟨w.heap.size + 1 + 1, 17, none⟩ = some (.int .i64 0) := by rw [Lib.cell_of_heap hX]; rfl
  have fz : w28.frozen? ⟨w.heap.size + 1 + 1, 17, none⟩ = false := Lib.frozen_of_heap hX _
  obtain ⟨w29, HW⟩ : ∃ W : World, Hid (W = w28.setCell ⟨w.heap.size + 1 + 1, 17, none⟩ (.int .i64 z2)) := ⟨_, Lib.hid rfl⟩
  replace hX : w29.heap[w.heap.size + 1 + 1]? = some (.cells #[.int .i64 y0, .int .i64 y1, .int .i64 y2, .int .i64 y3, .int .i64 y4, .int .i64 y5, .int .i64 y6, .int .i64 y7, .int .i64 y8, .slice A es.length c, .int .i64 o0, .int .i64 o1, .int .i64 o2, .int .i64 o3, .int .i64 o4, .int .i64 z0, .int .i64 z1, .int .i64 z2] 45 (0, 0)) := by
    have h := heap_set (i := 17) (.int .i64 z2) hX
    simp only [Array.set!_eq_setIfInBounds, List.setIfInBounds_toArray, List.set_cons_zero, List.set_cons_succ] at h
    rw [HW.out]; exact h
  replace hR : RrAt w29 (w.heap.size + 1) s a18 f18 := by rw [HW.out]; exact set_far hR (by show _ ≠ w.heap.size + 1 + 1; omega)
  replace hG : w29.heap[w.heap.size]? = some (.cells #[.int .i64 0, .int .i64 0, .int .i64 0, .int .i64 0, .int .i64 0, .int .i64 0, .int .i64 0, .int .i64 0, .int .i64 0, .slice none 0 0, .int .i64 0, .int .i64 0, .int .i64 0, .int .i64 0, .int .i64 0, .int .i64 0, .int .i64 0, .int .i64 0] 45 (0, 0)) := by rw [HW.out]; exact set_far hG (by show _ ≠ w.heap.size + 1 + 1; omega)
  replace hB : Below w.heap.size w w29 := by rw [HW.out]; exact hB.setCell (by show _ ≤ w.heap.size + 1 + 1; omega) _
  replace hE : w29.ownsRow (w.heap.size + 1 + 1 + 1) 30 6 (.slice A es.length c) es.length ((es.map En.l).flatten.map (Value.int .i64)) := by rw [HW.out]; exact row_far hE (by show w.heap.size + 1 + 1 < _; omega)
  replace hz : w.heap.size + 1 + 1 < w29.heap.size := heap_lt hX
  clear hr hf J2
  go_upto_region 17 with (rw [← HW.out])
  clear q fz HW
  obtain ⟨mm, hmm⟩ : ∃ mm : Ml, mm = ⟨y0, y1, y2, y3, y4, y5, y6, y7, y8, es, ⟨o0, o1, o2, o3, o4⟩, z0, z1, z2⟩ := ⟨_, rfl⟩
  have HDEC : Hid (∀ m' : Ml, m'.may n = true → m'.enc = bytesOf s → m' = mm ∧ f18 = false) := Lib.hid fun m' h1 h2 => by
    have := rm_of HN.out KL.out KO.out HA.out h1 h2
    rw [hmm]; exact this
  have hes : EsB w29.heap.size w29 (.slice A es.length c) mm.es := by rw [hmm]; exact own_rd hE
  have HEN := Lib.hid (rmEnc_any mm n hes)
  have hmv : mm.v (.slice A es.length c) = .agg #[.int .i64 y0, .int .i64 y1, .int .i64 y2, .int .i64 y3, .int .i64 y4, .int .i64 y5, .int .i64 y6, .int .i64 y7, .int .i64 y8, .slice A es.length c, .int .i64 o0, .int .i64 o1, .int .i64 o2, .int .i64 o3, .int .i64 o4, .int .i64 z0, .int .i64 z1, .int .i64 z2] := by rw [hmm]; rfl
  rw [hmv] at HEN
  have HER : ∃ (T : ByteArray) (er : Int), mm.encR n = .tuple #[.string T, .int .i64 er] ∧ ((er = 0 ∧ mm.may n = true ∧ T = ⟨mm.enc.toArray⟩) ∨ (er = 2 ∧ mm.may n = false)) := by
    unfold Ml.encR
    cases mm.may n
    · exact ⟨_, _, rfl, .inr ⟨rfl, rfl⟩⟩
    · exact ⟨_, _, rfl, .inl ⟨rfl, rfl, rfl⟩⟩
  obtain ⟨T, er, hER, hcase⟩ := HER
  rw [hER] at HEN
  have HOE : Hid (OwnE w29 w.heap.size (.slice A es.length c) es) := Lib.hid (owns_weaken hE (by omega))
  have HNE : Hid (∀ j, (Value.slice A es.length c).ownBlock = some j → j ≠ w.heap.size) := Lib.hid fun j hj => by have := (World.ownsRow.lt hE j hj).1; omega
  have HM0 := Lib.hid hmm
  have HLD := Lib.hid (run_loadVar_row (P := Tryd.prog) w29 (w.heap.size + 1 + 1) 45 _ #[.int .i64 y0, .int .i64 y1, .int .i64 y2, .int .i64 y3, .int .i64 y4, .int .i64 y5, .int .i64 y6, .int .i64 y7, .int .i64 y8, .slice A es.length c, .int .i64 o0, .int .i64 o1, .int .i64 o2, .int .i64 o3, .int .i64 o4, .int .i64 z0, .int .i64 z1, .int .i64 z2] _ _ hX Tryd.underlying45 rfl (by kernel_rfl))
  have HX := Lib.hid hX
  have HG := Lib.hid hG
  have HR := Lib.hid hR
  have HB := Lib.hid hB
  clear hes hmv hmm hER HN KL KO HA hE hX hG hR hB
  go_wp2_with (refine wpList_load_run rfl 45 _ rfl ⟨w.heap.size + 1 + 1, 0, none⟩ rfl HLD.out ?_)
  refine (HEN.out).mono ?_
  rintro e w2' ⟨rfl, hb⟩
  have HX2 := Lib.hid (keepH hb HX.out)
  have HG2 := Lib.hid (keepH hb HG.out)
  have HR2 := Lib.hid (keepH hb HR.out)
  have HB2 := Lib.hid (keepB HB.out hb)
  have HOE2 := Lib.hid (HOE.out.below hb)
  have HLD2 := Lib.hid (run_loadVar_row (P := Tryd.prog) w2' (w.heap.size + 1 + 1) 45 _ #[.int .i64 y0, .int .i64 y1, .int .i64 y2, .int .i64 y3, .int .i64 y4, .int .i64 y5, .int .i64 y6, .int .i64 y7, .int .i64 y8, .slice A es.length c, .int .i64 o0, .int .i64 o1, .int .i64 o2, .int .i64 o3, .int .i64 o4, .int .i64 z0, .int .i64 z1, .int .i64 z2] _ _ HX2.out Tryd.underlying45 rfl (by kernel_rfl))
  have c2 : w2'.cell? ⟨w.heap.size + 1, 2, none⟩ = some (.bool f18) := by rw [Lib.cell_of_heap HR2.out]; rfl
  have HSE : Hid ((storeVar 45 ⟨w.heap.size, 0, none⟩ (.agg #[.int .i64 0, .int .i64 0, .int .i64 0, .int .i64 0, .int .i64 0, .int .i64 0, .int .i64 0, .int .i64 0, .int .i64 0, .slice none 0 0, .int .i64 0, .int .i64 0, .int .i64 0, .int .i64 0, .int .i64 0, .int .i64 0, .int .i64 0, .int .i64 0])).run Tryd.prog w2' = .ok () (w2'.setRow w.heap.size #[.int .i64 0, .int .i64 0, .int .i64 0, .int .i64 0, .int .i64 0, .int .i64 0, .int .i64 0, .int .i64 0, .int .i64 0, .slice none 0 0, .int .i64 0, .int .i64 0, .int .i64 0, .int .i64 0, .int .i64 0, .int .i64 0, .int .i64 0, .int .i64 0])) := Lib.hid (run_storeVar_row (P := Tryd.prog) w2' w.heap.size 45 45 _ #[.int .i64 0, .int .i64 0, .int .i64 0, .int .i64 0, .int .i64 0, .int .i64 0, .int .i64 0, .int .i64 0, .int .i64 0, .slice none 0 0, .int .i64 0, .int .i64 0, .int .i64 0, .int .i64 0, .int .i64 0, .int .i64 0, .int .i64 0, .int .i64 0] HG2.out (by kernel_rfl) rfl (by simp [Value.oneCell']))
  have HSO : Hid ((storeVar 45 ⟨w.heap.size, 0, none⟩ (.agg #[.int .i64 y0, .int .i64 y1, .int .i64 y2, .int .i64 y3, .int .i64 y4, .int .i64 y5, .int .i64 y6, .int .i64 y7, .int .i64 y8, .slice A es.length c, .int .i64 o0, .int .i64 o1, .int .i64 o2, .int .i64 o3, .int .i64 o4, .int .i64 z0, .int .i64 z1, .int .i64 z2])).run Tryd.prog w2' = .ok () (w2'.setRow w.heap.size #[.int .i64 y0, .int .i64 y1, .int .i64 y2, .int .i64 y3, .int .i64 y4, .int .i64 y5, .int .i64 y6, .int .i64 y7, .int .i64 y8, .slice A es.length c, .int .i64 o0, .int .i64 o1, .int .i64 o2, .int .i64 o3, .int .i64 o4, .int .i64 z0, .int .i64 z1, .int .i64 z2])) := Lib.hid (run_storeVar_row (P := Tryd.prog) w2' w.heap.size 45 45 _ #[.int .i64 y0, .int .i64 y1, .int .i64 y2, .int .i64 y3, .int .i64 y4, .int .i64 y5, .int .i64 y6, .int .i64 y7, .int .i64 y8, .slice A es.length c, .int .i64 o0, .int .i64 o1, .int .i64 o2, .int .i64 o3, .int .i64 o4, .int .i64 z0, .int .i64 z1, .int .i64 z2] HG2.out (by kernel_rfl) rfl (by simp [Value.oneCell']))
  clear hb HEN HX HG HR HB HOE HLD hz
  by_cases hgood : f18 = false ∧ mm.may n = true ∧ T = s
  · obtain ⟨rfl, hm, rfl⟩ := hgood
    obtain ⟨rfl, -, hT⟩ : er = 0 ∧ mm.may n = true ∧ T = ⟨mm.enc.toArray⟩ := by
      rcases hcase with h | h
      · exact h
      · rw [hm] at h; exact absurd h.2 (by simp)
    have HOK : Hid (mm.may n = true ∧ mm.enc = bytesOf T) := Lib.hid ⟨hm, by rw [hT]; simp [bytesOf]⟩
    clear hm hT hcase HDEC HX2 HR2 HSE
    go_upto_region 20 with fail
    go_wp2_with (first | (with_reducible refine wpList_load_run (by rfl) 45 _ (by rfl) ⟨w.heap.size + 1 + 1, 0, none⟩ (by with_unfolding_all rfl) HLD2.out ?_) | (with_reducible refine wpList_store_known (by rfl) 45 _ _ (by rfl) ⟨w.heap.size, 0, none⟩ _ (by with_unfolding_all rfl) (by with_unfolding_all rfl) HSO.out ?_))
    (try simp only [Exit.inBlock, Exit.then]); refine bodyPost_ret (v := .tuple #[.agg #[.int .i64 y0, .int .i64 y1, .int .i64 y2, .int .i64 y3, .int .i64 y4, .int .i64 y5, .int .i64 y6, .int .i64 y7, .int .i64 y8, .slice A es.length c, .int .i64 o0, .int .i64 o1, .int .i64 o2, .int .i64 o3, .int .i64 o4, .int .i64 z0, .int .i64 z1, .int .i64 z2], .int .i64 0]) (by rw [results_row_one (u := 5) rfl _ _ w.heap.size 45 #[.int .i64 y0, .int .i64 y1, .int .i64 y2, .int .i64 y3, .int .i64 y4, .int .i64 y5, .int .i64 y6, .int .i64 y7, .int .i64 y8, .slice A es.length c, .int .i64 o0, .int .i64 o1, .int .i64 o2, .int .i64 o3, .int .i64 o4, .int .i64 z0, .int .i64 z1, .int .i64 z2] (0, 0) _ rfl (setRow_heap _ _ _ _ _ _ HG2.out) Tryd.underlying45 rfl (by kernel_rfl)]; rfl) rfl ?_
    refine ⟨below_setRow HB2.out (Nat.le_refl _) _, .inl ⟨⟨y0, y1, y2, y3, y4, y5, y6, y7, y8, es, ⟨o0, o1, o2, o3, o4⟩, z0, z1, z2⟩, A, c, by rw [← HM0.out]; exact HOK.out.1, by rw [← HM0.out]; exact HOK.out.2, rfl, row_set HOE2.out HNE.out⟩⟩
  · have HNONE : Hid (∀ m' : Ml, m'.may n = true → m'.enc ≠ bytesOf s) := Lib.hid fun m' h1 h2 => by
      obtain ⟨rfl, hf⟩ := HDEC.out m' h1 h2
      refine hgood ⟨hf, h1, ?_⟩
      rcases hcase with h | h
      · rw [h.2.2, h2]; exact ByteArray.ext (by simp [bytesOf])
      · rw [h1] at h; exact absurd h.2 (by simp)
    have HBAD : Hid (f18 = true ∨ er = 2 ∨ (er = 0 ∧ (T.toList == s.toList) = false)) := by
      show _ ∨ _
      cases f18
      · rcases hcase with h | h
        · refine .inr (.inr ⟨h.1, ?_⟩)
          rw [beq_eq_false_iff_ne]
          exact fun e => hgood ⟨rfl, h.2.1, tl_inj e⟩
        · exact .inr (.inl h.1)
      · exact .inl rfl
    clear hcase hgood HDEC HX2 HR2 HSO HLD2 HOE2 HNE HM0
    cases f18
    · rcases HBAD.out with h | rfl | ⟨rfl, hts⟩
      · cases h
      · clear HBAD
        go_upto_region 19 with fail
        go_wp2_with (first | (with_reducible refine wpList_zero_ml (by rfl) (by rfl) ?_) | (with_reducible refine wpList_store_known (by rfl) 45 _ _ (by rfl) ⟨w.heap.size, 0, none⟩ _ (by with_unfolding_all rfl) (by with_unfolding_all rfl) HSE.out ?_))
        (try simp only [Exit.inBlock, Exit.then]); refine bodyPost_ret (v := .tuple #[.agg #[.int .i64 0, .int .i64 0, .int .i64 0, .int .i64 0, .int .i64 0, .int .i64 0, .int .i64 0, .int .i64 0, .int .i64 0, .slice none 0 0, .int .i64 0, .int .i64 0, .int .i64 0, .int .i64 0, .int .i64 0, .int .i64 0, .int .i64 0, .int .i64 0], .int .i64 30]) (by rw [results_row_one (u := 5) rfl _ _ w.heap.size 45 #[.int .i64 0, .int .i64 0, .int .i64 0, .int .i64 0, .int .i64 0, .int .i64 0, .int .i64 0, .int .i64 0, .int .i64 0, .slice none 0 0, .int .i64 0, .int .i64 0, .int .i64 0, .int .i64 0, .int .i64 0, .int .i64 0, .int .i64 0, .int .i64 0] (0, 0) _ rfl (setRow_heap _ _ _ _ _ _ HG2.out) Tryd.underlying45 rfl (by kernel_rfl)]; rfl) rfl ?_
        exact ⟨below_setRow HB2.out (Nat.le_refl _) _, .inr ⟨HNONE.out, by rw [ml0_v]⟩⟩
      · clear HBAD
        go_upto_region 19 with fail
        go_wp2_with (first | (with_reducible refine wpList_zero_ml (by rfl) (by rfl) ?_) | (with_reducible refine wpList_store_known (by rfl) 45 _ _ (by rfl) ⟨w.heap.size, 0, none⟩ _ (by with_unfolding_all rfl) (by with_unfolding_all rfl) HSE.out ?_))
        (try simp only [Exit.inBlock, Exit.then]); refine bodyPost_ret (v := .tuple #[.agg #[.int .i64 0, .int .i64 0, .int .i64 0, .int .i64 0, .int .i64 0, .int .i64 0, .int .i64 0, .int .i64 0, .int .i64 0, .slice none 0 0, .int .i64 0, .int .i64 0, .int .i64 0, .int .i64 0, .int .i64 0, .int .i64 0, .int .i64 0, .int .i64 0], .int .i64 30]) (by rw [results_row_one (u := 5) rfl _ _ w.heap.size 45 #[.int .i64 0, .int .i64 0, .int .i64 0, .int .i64 0, .int .i64 0, .int .i64 0, .int .i64 0, .int .i64 0, .int .i64 0, .slice none 0 0, .int .i64 0, .int .i64 0, .int .i64 0, .int .i64 0, .int .i64 0, .int .i64 0, .int .i64 0, .int .i64 0] (0, 0) _ rfl (setRow_heap _ _ _ _ _ _ HG2.out) Tryd.underlying45 rfl (by kernel_rfl)]; rfl) rfl ?_
        exact ⟨below_setRow HB2.out (Nat.le_refl _) _, .inr ⟨HNONE.out, by rw [ml0_v]⟩⟩
    · clear HBAD
      go_upto_region 19 with fail
      go_wp2_with (first | (with_reducible refine wpList_zero_ml (by rfl) (by rfl) ?_) | (with_reducible refine wpList_store_known (by rfl) 45 _ _ (by rfl) ⟨w.heap.size, 0, none⟩ _ (by with_unfolding_all rfl) (by with_unfolding_all rfl) HSE.out ?_))
      (try simp only [Exit.inBlock, Exit.then]); refine bodyPost_ret (v := .tuple #[.agg #[.int .i64 0, .int .i64 0, .int .i64 0, .int .i64 0, .int .i64 0, .int .i64 0, .int .i64 0, .int .i64 0, .int .i64 0, .slice none 0 0, .int .i64 0, .int .i64 0, .int .i64 0, .int .i64 0, .int .i64 0, .int .i64 0, .int .i64 0, .int .i64 0], .int .i64 30]) (by rw [results_row_one (u := 5) rfl _ _ w.heap.size 45 #[.int .i64 0, .int .i64 0, .int .i64 0, .int .i64 0, .int .i64 0, .int .i64 0, .int .i64 0, .int .i64 0, .int .i64 0, .slice none 0 0, .int .i64 0, .int .i64 0, .int .i64 0, .int .i64 0, .int .i64 0, .int .i64 0, .int .i64 0, .int .i64 0] (0, 0) _ rfl (setRow_heap _ _ _ _ _ _ HG2.out) Tryd.underlying45 rfl (by kernel_rfl)]; rfl) rfl ?_
      exact ⟨below_setRow HB2.out (Nat.le_refl _) _, .inr ⟨HNONE.out, by rw [ml0_v]⟩⟩
end Go.Proofs.YtkdnhfeamibmdaaDoor
