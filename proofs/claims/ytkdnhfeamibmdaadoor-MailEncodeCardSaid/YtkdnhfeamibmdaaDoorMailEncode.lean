/-
  Regions that draw their order and make memory, for records and mail: each operation by a law that names the world behind it. Twins of entries and spots: rows of one's own, with room behind, put together in regions that draw. Entries of the document's records: their marks. May and Check of the document's mail. Encode of the document's mail. The walk of the law MailEncode: it returns true and writes nothing that was there. The law MailEncode: for every input the call returns true, and each argument reads afterwards as it read before. No condition.
-/
import Derived.Test.YtkdnhfeamibmdaaDoorRcPutAll
import Derived.Deep.RegionHeld3
import Derived.Maps.AppendAt
import Derived.Deep.Upon
import Derived.Test.YtkdnhfeamibmdaaDoorRcDec
import Derived.Deep.AppendSrc
import Derived.ArgAppend
import Derived.OwnWalk
import Derived.Test.YtkdnhfeamibmdaaDoorMmHas
import Derived.Test.YtkdnhfeamibmdaaDoorMmP
import Derived.Test.YtkdnhfeamibmdaaDoorMmR
import Derived.Test.YtkdnhfeamibmdaaDoorMmQ
import Derived.Test.YtkdnhfeamibmdaaDoorORMay
import Derived.Test.YtkdnhfeamibmdaaDoorMlMem
import Derived.Test.YtkdnhfeamibmdaaDoorMlEnc
import Derived.Test.YtkdnhfeamibmdaaDoorMlMofM
import Derived.Deep.DeepCutAuto
import Derived.Test.YtkdnhfeamibmdaaDoorMmWo
import Derived.Lib.QuietBelow
import Derived.BigQuiet
import Derived.Test.YtkdnhfeamibmdaaDoorCards
import Derived.Test.YtkdnhfeamibmdaaDoorTie
import Derived.Test.YtkdnhfeamibmdaaDoorMmLaid
import Derived.WalkKit
import Derived.Deep.DeepHandedRow
import Derived.Lib.LaidTab
import Derived.ProofKit
import Derived.OpenShut
import Derived.ShutString
namespace Go.Proofs.YtkdnhfeamibmdaaDoor
open Go.RowKit
theorem keepH {X Y : World} {g : Nat} {o : Obj} (hb : Below X.heap.size X Y) (h : X.heap[g]? = some o) : Y.heap[g]? = some o := (hb.block g (Array.getElem?_eq_some_iff.1 h).1).trans h
theorem keepG {X Y : World} {g : Nat} {o : Obj} {row : Option Nat} (hg : X.grownBy Y row) (h : X.heap[g]? = some o) (hne : row ≠ some g) : Y.heap[g]? = some o := (hg.block g (Array.getElem?_eq_some_iff.1 h).1 (fun e => hne e.symm)).trans h
theorem ne_heap {X : World} {a b : Nat} {o o' : Obj} (h : X.heap[a]? = some o) (h' : X.heap[b]? = some o') (hne : o ≠ o') : a ≠ b := fun e => by subst e; rw [h] at h'; exact hne (Option.some.inj h')
theorem keepB {W X Y : World} (h : Below W.heap.size W X) (hb : Below X.heap.size X Y) : Below W.heap.size W Y := h.trans (hb.mono h.size)
theorem below_grow {w w' : World} {row : Option Nat} {B : Nat} (h : w.grownBy w' row) (hB : ∀ q, q < B → row ≠ some q) (hz : B ≤ w.heap.size) : Below B w w' :=
  ⟨h.os, h.tape, h.output, h.size, fun q hq => h.block q (by omega) (fun e => hB q hq e.symm)⟩
theorem heap_lt {w : World} {b : Nat} {o : Obj} (h : w.heap[b]? = some o) : b < w.heap.size := (Array.getElem?_eq_some_iff.1 h).1
section
variable {P : Program} {ops : Array Oper} {o : Oper} {a : Act} {w : World} {K : Act → World → Prop} {Q : Exit → Act → World → Prop} {E : Prop}
/-- A slice that is built of parts, in new memory. -/
theorem step_build_new (hg : o.guard = none) (t : TypeId) (n : Nat) (parts : Array (Nat × Operand)) (ps : Array (Nat × Value)) (hop : o.op = Op.buildSlice t n parts)
    (hp : parts.map (fun (i, x) => (i, a.eval x)) = ps) (cs : Array Value) (T : TypeId) (hr : ∀ X : World, (Instr.buildSlice t n ps).run P X = .ok (.slice (some ⟨X.heap.size, 0, none⟩) n n) (X.alloc (.cells cs T)))
    (hK : ∀ (g : Nat) (w' : World), w'.heap[g]? = some (.cells cs T (0, 0)) → w.heap.size ≤ g → Below w.heap.size w w' → K (a.put o.dst (.slice (some ⟨g, 0, none⟩) n n)) w') :
    if Region.wanted o (yielded ops a.tmps) = true then Oper.wp P o a w K Q else E := by
  rw [if_pos (by simp [Region.wanted, hg])]
  unfold Oper.wp
  simp only [execOp, hop, Sem.run_bind, Sem.run_pure]
  rw [hp, hr]
  exact hK w.heap.size _ (heap_alloc_new w _) (Nat.le_refl _) ((Below.refl _ _).alloc (Nat.le_refl _) _)
/-- A row that is made, in new memory. -/
theorem step_make_new (hg : o.guard = none) (t : TypeId) (x y : Operand) (hop : o.op = Op.makeSlice t x y) (n : Nat) (hx : a.eval x = .int .i64 0) (hy : a.eval y = .int .i64 (n : Int)) (cs : Array Value) (T : TypeId)
    (hr : ∀ X : World, (Instr.makeSlice t (.int .i64 0) (.int .i64 (n : Int))).run P X = .ok (.slice (some ⟨X.heap.size, 0, none⟩) 0 n) (X.alloc (.cells cs T)))
    (hK : ∀ (g : Nat) (w' : World), w'.heap[g]? = some (.cells cs T (0, 0)) → w.heap.size ≤ g → Below w.heap.size w w' → K (a.put o.dst (.slice (some ⟨g, 0, none⟩) 0 n)) w') :
    if Region.wanted o (yielded ops a.tmps) = true then Oper.wp P o a w K Q else E := by
  rw [if_pos (by simp [Region.wanted, hg])]
  unfold Oper.wp
  simp only [execOp, hop, Sem.run_bind, Sem.run_pure]
  rw [hx, hy, hr]
  exact hK w.heap.size _ (heap_alloc_new w _) (Nat.le_refl _) ((Below.refl _ _).alloc (Nat.le_refl _) _)
/-- A store whose run is known. -/
theorem step_store_known (hg : o.guard = none) (ty : TypeId) (x y : Operand) (hop : o.op = .store ty x y) (ad : Addr) (v : Value) (hx : a.eval x = .pointer (some ad)) (hy : a.eval y = v) {w' : World} (hr : (storeVar ty ad v).run P w = .ok () w') (hK : K (a.put o.dst undef) w') :
    if Region.wanted o (yielded ops a.tmps) = true then Oper.wp P o a w K Q else E := by
  rw [if_pos (by simp [Region.wanted, hg])]
  unfold Oper.wp execOp
  simp only [hop, hx, hy, Instr.storeAt, Instr.sureAddr, Sem.run_bind, Sem.run_pure, Result.andThen_ok, hr]
  exact hK
theorem step_app_known (hg : o.guard = none) (d x : Operand) (dT sT : TypeId) (hop : o.op = Op.call { callee := Callee.builtin Builtin.append, args := #[d, x], argTypes := #[dT, sT] })
    (v u : Value) (hd : a.eval d = v) (hx : a.eval x = u) {v' : Value} {w' : World} (hr : (Builtin.append_ #[dT, sT] o.type #[v, u]).run P w = .ok v' w') (hK : K (a.put o.dst v') w') :
    if Region.wanted o (yielded ops a.tmps) = true then Oper.wp P o a w K Q else E := by
  rw [if_pos (by simp [Region.wanted, hg])]
  unfold Oper.wp
  simp [execOp, hop, resolve, invoke, builtin, hd, hx, hr, Result.andThen]
  exact hK
end
end Go.Proofs.YtkdnhfeamibmdaaDoor
namespace Go.Proofs.YtkdnhfeamibmdaaDoor
open Go.RowKit Go.Sort Go.Maps
def ecs (es : List En) : List Value := (es.map En.l).flatten.map (Value.int .i64)
theorem ecs_append (a b : List En) : ecs (a ++ b) = ecs a ++ ecs b := by simp [ecs]
theorem en_flat (es : List En) : (es.map En.l).flatten.length = es.length * 6 := by
  rw [flatten_len (k := 6) (fun x hx => by obtain ⟨e, _, rfl⟩ := List.mem_map.1 hx; rfl), List.length_map]
theorem ecs_len (es : List En) : (ecs es).length = es.length * 6 := by rw [ecs, List.length_map, en_flat]
theorem ecs_one (es : List En) : ∀ u ∈ ecs es, u.oneCell' = true := by
  intro u hu
  obtain ⟨n, _, rfl⟩ := List.mem_map.1 hu
  rfl
theorem Tryd.info_rentry : (Tryd.prog.info? 30).map (fun i => (i.zero, i.size, i.bytes)) = some (some (.agg #[.int .i64 0, .int .i64 0, .int .i64 0, .int .i64 0, .int .i64 0, .int .i64 0]), 6, 48) := by kernel_rfl
theorem own_is_slice {w : World} {base : Nat} {e : TypeId} {size n : Nat} {v : Value} {xs : List Value} (h : w.ownsRow base e size v n xs) : ∃ A c, v = .slice A n c ∧ n ≤ c := by
  rcases h.2 with ⟨rfl, rfl⟩ | ⟨g, cap, cur, rfl, _, _, hnc, _⟩
  · exact ⟨none, 0, rfl, Nat.le_refl _⟩
  · exact ⟨_, _, rfl, hnc⟩
/-- 'append' of entries, whosever, to a row of one's own. -/
theorem run_append_es {w : World} {B base n : Nat} {v ka : Value} {xs : List Value} {es : List En} (ho : w.ownsRow base 30 6 v n xs) (hk : EsB B w ka es) (hb : base ≤ w.heap.size) (hnl : n + es.length ≤ 1000000) :
    ∃ A c w', (Builtin.append_ #[22, 22] 22 #[v, ka]).run Tryd.prog w = .ok (.slice A (n + es.length) c) w' ∧ w'.ownsRow base 30 6 (.slice A (n + es.length) c) (n + es.length) (xs ++ ecs es) ∧ w.grownBy w' v.ownBlock ∧ ((Value.slice A (n + es.length) c).ownBlock = v.ownBlock ∨ (Value.slice A (n + es.length) c).ownBlock = some w.heap.size) := by
  obtain ⟨i0, hi0, hz0, hz1, hz2⟩ := info_parts Tryd.info_rentry
  obtain ⟨KA, kc, rfl, h1, h2, h3, h4⟩ := hk
  rcases es with _ | ⟨y, l⟩
  · obtain ⟨A, c, rfl, hac⟩ := own_is_slice ho
    have hs : Src Tryd.prog i0.size 22 (.slice KA 0 kc) 0 [] w := by
      rcases KA with _ | a
      · exact Src.ofNil w Tryd.underlying22 kc
      · exact Src.ofSlice w Tryd.underlying22 a 0 kc [] (by simp) (fun j u h => by simp at h) (fun u h => by simp at h)
    refine ⟨A, c, w, run_append_nothing w _ _ _ 30 i0 Tryd.underlying22 hi0 A n c hac _ hs, ?_, World.grownBy.refl w _, .inl rfl⟩
    simpa [ecs] using ho
  · obtain ⟨b, off, rfl, hbl, hc⟩ := h4 (by simp)
    obtain ⟨v', w', hr, ho', hg, _, hat⟩ := run_append_own_at (P := Tryd.prog) w base 22 22 30 i0 _ 6 48 Tryd.underlying22 hi0 hz0 hz1 hz2 rfl (by decide) v n xs ho ⟨b, off, none⟩ (y :: l).length kc (ecs (y :: l)) (ecs_len _)
      (fun j u hu => by
        rw [ecs, List.getElem?_map] at hu
        obtain ⟨x, hx, rfl⟩ := Option.map_eq_some_iff.1 hu
        rw [Addr.add_lit]; exact hc j x hx) (ecs_one _) (Nat.le_trans hnl (by decide)) (by omega) hb
    obtain ⟨A, c, rfl, _⟩ := own_is_slice ho'
    exact ⟨A, c, w', hr, ho', hg, hat⟩
/-- A row of one's own of entries reads so. -/
theorem own_eshape {w : World} {base n : Nat} {v : Value} {xs : List Value} (h : w.ownsRow base 30 6 v n xs) (hn : 0 < n) : ∃ g c, v = .slice (some ⟨g, 0, none⟩) n c ∧ base ≤ g ∧ g < w.heap.size ∧ n ≤ c ∧ c ≤ maxLen ∧ (∀ i, w.frozen? ⟨g, i, none⟩ = false) ∧ ∀ j, j < n * 6 → w.cell? ⟨g, j, none⟩ = xs[j]? := by
  rcases h.2 with ⟨_, h0⟩ | ⟨g, cap, cur, hv, hb, hg, hnc, hcm, hcs, ht⟩
  · omega
  · have hr := h
    rw [hv] at hr
    exact ⟨g, cap, hv, hb, lt_of_block hg, hnc, hcm, fun i => Lib.frozen_of_heap hg i, fun j hj => World.ownsRow.cellAt hr j hj⟩
theorem own_es {w : World} {base : Nat} {v : Value} {es : List En} (h : w.ownsRow base 30 6 v es.length (ecs es)) (hl : es.length ≤ 1000000) : EsB w.heap.size w v es := by
  by_cases h0 : es.length = 0
  · obtain rfl : es = [] := List.eq_nil_of_length_eq_zero h0
    rcases h.2 with ⟨rfl, _⟩ | ⟨g, cap, cur, rfl, hb, hg, hnc, hcm, _⟩
    · exact ⟨none, 0, rfl, Nat.le_refl _, Nat.zero_le _, fun _ => ⟨rfl, rfl⟩, fun h => by simp at h⟩
    · exact ⟨_, cap, rfl, Nat.zero_le _, hcm, (fun e => by cases e), fun h => by simp at h⟩
  · obtain ⟨g, c, rfl, hb, hg, hnc, hcm, _, hx⟩ := own_eshape h (by omega)
    refine ⟨_, c, rfl, hnc, hcm, (fun e => by cases e), fun _ => ⟨g, 0, rfl, hg, fun j x hj => ?_⟩⟩
    have hjl : j < es.length * 6 := by rw [← en_flat]; exact (List.getElem?_eq_some_iff.1 hj).1
    rw [Nat.zero_add, hx j hjl, ecs, List.getElem?_map, hj]; rfl
def ezs (n : Nat) : Array Value := madeCells (Value.agg #[.int .i64 0, .int .i64 0, .int .i64 0, .int .i64 0, .int .i64 0, .int .i64 0]).cells (n * 6)
theorem emade_run (X : World) (n : Nat) (hn : n ≤ 100000) : (Instr.makeSlice 22 (.int .i64 0) (.int .i64 (n : Int))).run Tryd.prog X = .ok (.slice (some ⟨X.heap.size, 0, none⟩) 0 n) (X.alloc (.cells (ezs n) 30)) := by
  obtain ⟨i0, hi0, hz0, hz1, hz2⟩ := info_parts Tryd.info_rentry
  have h := run_makeSlice (P := Tryd.prog) X 22 30 i0 _ Tryd.underlying22 hi0 hz0 .i64 .i64 0 (n : Int) (Int.le_refl _) (by omega) (by rw [hz1]; omega) (by rw [hz2]; omega) (by omega)
  rw [hz1] at h
  exact h
theorem emade_own (X : World) {n : Nat} (hn : n ≤ 100000) : (X.alloc (.cells (ezs n) 30)).ownsRow X.heap.size 30 6 (.slice (some ⟨X.heap.size, 0, none⟩) 0 n) 0 [] := by
  refine ⟨rfl, .inr ⟨X.heap.size, n, ezs n, rfl, Nat.le_refl _, heap_alloc_new X _, Nat.zero_le _, Nat.le_trans hn (by decide), ?_, rfl⟩⟩
  simp [ezs, madeCells]
def fcs (es : List Sp) : List Value := (es.map Sp.l).flatten.map (Value.int .i64)
theorem fcs_append (a b : List Sp) : fcs (a ++ b) = fcs a ++ fcs b := by simp [fcs]
theorem sp_flat (es : List Sp) : (es.map Sp.l).flatten.length = es.length * 2 := by
  rw [flatten_len (k := 2) (fun x hx => by obtain ⟨e, _, rfl⟩ := List.mem_map.1 hx; rfl), List.length_map]
theorem fcs_len (es : List Sp) : (fcs es).length = es.length * 2 := by rw [fcs, List.length_map, sp_flat]
theorem fcs_one (es : List Sp) : ∀ u ∈ fcs es, u.oneCell' = true := by
  intro u hu
  obtain ⟨n, _, rfl⟩ := List.mem_map.1 hu
  rfl
theorem Tryd.info_rspot : (Tryd.prog.info? 32).map (fun i => (i.zero, i.size, i.bytes)) = some (some (.agg #[.int .i64 0, .int .i64 0]), 2, 16) := by kernel_rfl
/-- 'append' of entries, whosever, to a row of one's own. -/
theorem run_append_fs {w : World} {B base n : Nat} {v ka : Value} {xs : List Value} {es : List Sp} (ho : w.ownsRow base 32 2 v n xs) (hk : FdB B w ka es) (hb : base ≤ w.heap.size) (hnl : n + es.length ≤ 1000000) :
    ∃ A c w', (Builtin.append_ #[23, 23] 23 #[v, ka]).run Tryd.prog w = .ok (.slice A (n + es.length) c) w' ∧ w'.ownsRow base 32 2 (.slice A (n + es.length) c) (n + es.length) (xs ++ fcs es) ∧ w.grownBy w' v.ownBlock ∧ ((Value.slice A (n + es.length) c).ownBlock = v.ownBlock ∨ (Value.slice A (n + es.length) c).ownBlock = some w.heap.size) := by
  obtain ⟨i0, hi0, hz0, hz1, hz2⟩ := info_parts Tryd.info_rspot
  obtain ⟨KA, kc, rfl, h1, h2, h3, h4⟩ := hk
  rcases es with _ | ⟨y, l⟩
  · obtain ⟨A, c, rfl, hac⟩ := own_is_slice ho
    have hs : Src Tryd.prog i0.size 23 (.slice KA 0 kc) 0 [] w := by
      rcases KA with _ | a
      · exact Src.ofNil w Tryd.underlying23 kc
      · exact Src.ofSlice w Tryd.underlying23 a 0 kc [] (by simp) (fun j u h => by simp at h) (fun u h => by simp at h)
    refine ⟨A, c, w, run_append_nothing w _ _ _ 32 i0 Tryd.underlying23 hi0 A n c hac _ hs, ?_, World.grownBy.refl w _, .inl rfl⟩
    simpa [fcs] using ho
  · obtain ⟨b, off, rfl, hbl, hc⟩ := h4 (by simp)
    obtain ⟨v', w', hr, ho', hg, _, hat⟩ := run_append_own_at (P := Tryd.prog) w base 23 23 32 i0 _ 2 16 Tryd.underlying23 hi0 hz0 hz1 hz2 rfl (by decide) v n xs ho ⟨b, off, none⟩ (y :: l).length kc (fcs (y :: l)) (fcs_len _)
      (fun j u hu => by
        rw [fcs, List.getElem?_map] at hu
        obtain ⟨x, hx, rfl⟩ := Option.map_eq_some_iff.1 hu
        rw [Addr.add_lit]; exact hc j x hx) (fcs_one _) (Nat.le_trans hnl (by decide)) (by omega) hb
    obtain ⟨A, c, rfl, _⟩ := own_is_slice ho'
    exact ⟨A, c, w', hr, ho', hg, hat⟩
/-- A row of one's own of entries reads so. -/
theorem own_fshape {w : World} {base n : Nat} {v : Value} {xs : List Value} (h : w.ownsRow base 32 2 v n xs) (hn : 0 < n) : ∃ g c, v = .slice (some ⟨g, 0, none⟩) n c ∧ base ≤ g ∧ g < w.heap.size ∧ n ≤ c ∧ c ≤ maxLen ∧ (∀ i, w.frozen? ⟨g, i, none⟩ = false) ∧ ∀ j, j < n * 2 → w.cell? ⟨g, j, none⟩ = xs[j]? := by
  rcases h.2 with ⟨_, h0⟩ | ⟨g, cap, cur, hv, hb, hg, hnc, hcm, hcs, ht⟩
  · omega
  · have hr := h
    rw [hv] at hr
    exact ⟨g, cap, hv, hb, lt_of_block hg, hnc, hcm, fun i => Lib.frozen_of_heap hg i, fun j hj => World.ownsRow.cellAt hr j hj⟩
theorem own_fs {w : World} {base : Nat} {v : Value} {es : List Sp} (h : w.ownsRow base 32 2 v es.length (fcs es)) (hl : es.length ≤ 1000000) : FdB w.heap.size w v es := by
  by_cases h0 : es.length = 0
  · obtain rfl : es = [] := List.eq_nil_of_length_eq_zero h0
    rcases h.2 with ⟨rfl, _⟩ | ⟨g, cap, cur, rfl, hb, hg, hnc, hcm, _⟩
    · exact ⟨none, 0, rfl, Nat.le_refl _, Nat.zero_le _, fun _ => ⟨rfl, rfl⟩, fun h => by simp at h⟩
    · exact ⟨_, cap, rfl, Nat.zero_le _, hcm, (fun e => by cases e), fun h => by simp at h⟩
  · obtain ⟨g, c, rfl, hb, hg, hnc, hcm, _, hx⟩ := own_fshape h (by omega)
    refine ⟨_, c, rfl, hnc, hcm, (fun e => by cases e), fun _ => ⟨g, 0, rfl, hg, fun j x hj => ?_⟩⟩
    have hjl : j < es.length * 2 := by rw [← sp_flat]; exact (List.getElem?_eq_some_iff.1 hj).1
    rw [Nat.zero_add, hx j hjl, fcs, List.getElem?_map, hj]; rfl
def fzs (n : Nat) : Array Value := madeCells (Value.agg #[.int .i64 0, .int .i64 0]).cells (n * 2)
theorem fmade_run (X : World) (n : Nat) (hn : n ≤ 100000) : (Instr.makeSlice 23 (.int .i64 0) (.int .i64 (n : Int))).run Tryd.prog X = .ok (.slice (some ⟨X.heap.size, 0, none⟩) 0 n) (X.alloc (.cells (fzs n) 32)) := by
  obtain ⟨i0, hi0, hz0, hz1, hz2⟩ := info_parts Tryd.info_rspot
  have h := run_makeSlice (P := Tryd.prog) X 23 32 i0 _ Tryd.underlying23 hi0 hz0 .i64 .i64 0 (n : Int) (Int.le_refl _) (by omega) (by rw [hz1]; omega) (by rw [hz2]; omega) (by omega)
  rw [hz1] at h
  exact h
theorem fmade_own (X : World) {n : Nat} (hn : n ≤ 100000) : (X.alloc (.cells (fzs n) 32)).ownsRow X.heap.size 32 2 (.slice (some ⟨X.heap.size, 0, none⟩) 0 n) 0 [] := by
  refine ⟨rfl, .inr ⟨X.heap.size, n, fzs n, rfl, Nat.le_refl _, heap_alloc_new X _, Nat.zero_le _, Nat.le_trans hn (by decide), ?_, rfl⟩⟩
  simp [fzs, madeCells]
def e70 : En := ⟨-70, ⟨0, 0, 0, 0, 0⟩⟩
def f70 : Sp := ⟨0, -70⟩
theorem emade_heap {X : World} {g base n : Nat} (h : X.heap[g]? = some (.cells (ezs n) 30 (0, 0))) (hb : base ≤ g) (hn : n ≤ 100000) : X.ownsRow base 30 6 (.slice (some ⟨g, 0, none⟩) 0 n) 0 [] := by
  refine ⟨rfl, .inr ⟨g, n, ezs n, rfl, hb, h, Nat.zero_le _, Nat.le_trans hn (by decide), ?_, rfl⟩⟩
  simp [ezs, madeCells]
theorem fmade_heap {X : World} {g base n : Nat} (h : X.heap[g]? = some (.cells (fzs n) 32 (0, 0))) (hb : base ≤ g) (hn : n ≤ 100000) : X.ownsRow base 32 2 (.slice (some ⟨g, 0, none⟩) 0 n) 0 [] := by
  refine ⟨rfl, .inr ⟨g, n, fzs n, rfl, hb, h, Nat.zero_le _, Nat.le_trans hn (by decide), ?_, rfl⟩⟩
  simp [fzs, madeCells]
theorem es_heap {X : World} {g : Nat} {es : List En} {cs : Array Value} (h : X.heap[g]? = some (.cells cs 30 (0, 0))) (hc : cs.toList = ecs es) (hl : es.length ≤ 1000) : EsB X.heap.size X (.slice (some ⟨g, 0, none⟩) es.length es.length) es := by
  refine ⟨_, es.length, rfl, Nat.le_refl _, by unfold maxLen; omega, (fun e => by cases e), fun _ => ⟨g, 0, rfl, heap_lt h, fun j x hj => ?_⟩⟩
  rw [Nat.zero_add, Lib.cell_of_heap h, ← Array.getElem?_toList, hc, ecs, List.getElem?_map, hj]; rfl
theorem fs_heap {X : World} {g : Nat} {es : List Sp} {cs : Array Value} (h : X.heap[g]? = some (.cells cs 32 (0, 0))) (hc : cs.toList = fcs es) (hl : es.length ≤ 1000) : FdB X.heap.size X (.slice (some ⟨g, 0, none⟩) es.length es.length) es := by
  refine ⟨_, es.length, rfl, Nat.le_refl _, by unfold maxLen; omega, (fun e => by cases e), fun _ => ⟨g, 0, rfl, heap_lt h, fun j x hj => ?_⟩⟩
  rw [Nat.zero_add, Lib.cell_of_heap h, ← Array.getElem?_toList, hc, fcs, List.getElem?_map, hj]; rfl
/-- A twin of entries, with what stands behind it. -/
def TwE (base : Nat) (X : World) (g c : Nat) (es : List En) : Prop := EsB X.heap.size X (.slice (some ⟨g, 0, none⟩) es.length c) es ∧ X.cell? ⟨g, es.length * 6, none⟩ = some (.int .i64 (-70)) ∧ base ≤ g ∧ g < X.heap.size ∧ es.length + 1 ≤ c ∧ c ≤ maxLen
def TwF (base : Nat) (X : World) (g c : Nat) (es : List Sp) : Prop := FdB X.heap.size X (.slice (some ⟨g, 0, none⟩) es.length c) es ∧ X.cell? ⟨g, es.length * 2 + 1, none⟩ = some (.int .i64 (-70)) ∧ base ≤ g ∧ g < X.heap.size ∧ es.length + 1 ≤ c ∧ c ≤ maxLen
theorem TwE.below {base : Nat} {X Y : World} {g c : Nat} {es : List En} (h : TwE base X g c es) (hb : Below X.heap.size X Y) : TwE base Y g c es :=
  ⟨(RdB.below h.1 hb (Nat.le_refl _)).mono hb.size, (hb.cell (p := ⟨g, _, none⟩) h.2.2.2.1).trans h.2.1, h.2.2.1, Nat.lt_of_lt_of_le h.2.2.2.1 hb.size, h.2.2.2.2⟩
theorem TwF.below {base : Nat} {X Y : World} {g c : Nat} {es : List Sp} (h : TwF base X g c es) (hb : Below X.heap.size X Y) : TwF base Y g c es :=
  ⟨(RdB.below h.1 hb (Nat.le_refl _)).mono hb.size, (hb.cell (p := ⟨g, _, none⟩) h.2.2.2.1).trans h.2.1, h.2.2.1, Nat.lt_of_lt_of_le h.2.2.2.1 hb.size, h.2.2.2.2⟩
theorem es_cut {B : Nat} {w : World} {A : Option Addr} {n c : Nat} {es : List En} (h : EsB B w (.slice A n c) es) {i : Nat} (hi : i ≤ es.length) : EsB B w (.slice A i c) (es.take i) := by
  obtain ⟨A', c', hv, h2, h3, h4, h5⟩ := h
  injection hv with e1 _ e3
  subst e1 e3
  have hl : (es.take i).length = i := by simp [Nat.min_eq_left hi]
  refine ⟨A, c, by rw [hl], by omega, h3, fun e => ?_, fun h0 => ?_⟩
  · have := h4 e; omega
  · obtain ⟨b, o, rfl, hl', hc⟩ := h5 (by omega)
    refine ⟨b, o, rfl, hl', fun j x hj => hc j x ?_⟩
    have hf : (es.map En.l).flatten = ((es.take i).map En.l).flatten ++ ((es.drop i).map En.l).flatten := by
      rw [← List.flatten_append, ← List.map_append, List.take_append_drop]
    rw [hf, List.getElem?_append_left (List.getElem?_eq_some_iff.1 hj).1]
    exact hj
theorem fs_cut {B : Nat} {w : World} {A : Option Addr} {n c : Nat} {es : List Sp} (h : FdB B w (.slice A n c) es) {i : Nat} (hi : i ≤ es.length) : FdB B w (.slice A i c) (es.take i) := by
  obtain ⟨A', c', hv, h2, h3, h4, h5⟩ := h
  injection hv with e1 _ e3
  subst e1 e3
  have hl : (es.take i).length = i := by simp [Nat.min_eq_left hi]
  refine ⟨A, c, by rw [hl], by omega, h3, fun e => ?_, fun h0 => ?_⟩
  · have := h4 e; omega
  · obtain ⟨b, o, rfl, hl', hc⟩ := h5 (by omega)
    refine ⟨b, o, rfl, hl', fun j x hj => hc j x ?_⟩
    have hf : (es.map Sp.l).flatten = ((es.take i).map Sp.l).flatten ++ ((es.drop i).map Sp.l).flatten := by
      rw [← List.flatten_append, ← List.map_append, List.take_append_drop]
    rw [hf, List.getElem?_append_left (List.getElem?_eq_some_iff.1 hj).1]
    exact hj
theorem tw_own {w : World} {base : Nat} {v : Value} {es : List En} (h : w.ownsRow base 30 6 v (es.length + 1) (ecs es ++ ecs [e70])) (hl : es.length ≤ 90000) : ∃ g c, v = .slice (some ⟨g, 0, none⟩) (es.length + 1) c ∧ TwE base w g c es := by
  obtain ⟨g, c, rfl, hb, hg, hnc, hcm, _, hx⟩ := own_eshape h (by omega)
  have he := own_es (es := es ++ [e70]) (by rw [ecs_append]; simpa using h) (by simp; omega)
  refine ⟨g, c, rfl, by simpa using es_cut he (i := es.length) (by simp), ?_, hb, hg, hnc, hcm⟩
  rw [hx _ (by omega), List.getElem?_append_right (by rw [ecs_len]; exact Nat.le_refl _), ecs_len, Nat.sub_self]; rfl
theorem tw_ownf {w : World} {base : Nat} {v : Value} {es : List Sp} (h : w.ownsRow base 32 2 v (es.length + 1) (fcs es ++ fcs [f70])) (hl : es.length ≤ 90000) : ∃ g c, v = .slice (some ⟨g, 0, none⟩) (es.length + 1) c ∧ TwF base w g c es := by
  obtain ⟨g, c, rfl, hb, hg, hnc, hcm, _, hx⟩ := own_fshape h (by omega)
  have he := own_fs (es := es ++ [f70]) (by rw [fcs_append]; simpa using h) (by simp; omega)
  refine ⟨g, c, rfl, by simpa using fs_cut he (i := es.length) (by simp), ?_, hb, hg, hnc, hcm⟩
  rw [hx _ (by omega), List.getElem?_append_right (by rw [fcs_len]; omega), fcs_len, show es.length * 2 + 1 - es.length * 2 = 1 by omega]; rfl
theorem cell_at {X : World} {g i : Nat} {cs : Array Value} {t : TypeId} {fr : Nat × Nat} {v : Value} (h : X.heap[g]? = some (.cells cs t fr)) (hv : cs[i]? = some v) : X.cell? ⟨g, i, none⟩ = some v := by
  rw [Lib.cell_of_heap h]; exact hv
theorem keepR {X Y : World} {base n size : Nat} {t : TypeId} {v : Value} {xs : List Value} (hb : Below X.heap.size X Y) (h : X.ownsRow base t size v n xs) : Y.ownsRow base t size v n xs :=
  owns_foot h (below_foot hb : Foot (fun _ => False) X Y) fun _ _ e => e
theorem set_else {X : World} {a : Addr} {u : Value} {k : Nat} {o : Obj} (h : X.heap[k]? = some o) (hne : k ≠ a.block) : (X.setCell a u).heap[k]? = some o := (Below.heap_setCell _ _ _ _ hne).trans h
theorem cell_else {X : World} {a b : Addr} {u : Value} (hne : a.block ≠ b.block) : (X.setCell a u).cell? b = X.cell? b := World.cell?_setCell_far X a b u hne
theorem TwE.far {base : Nat} {X : World} {g c : Nat} {es : List En} {a : Addr} {u : Value} (h : TwE base X g c es) (hne : a.block < base) : TwE base (X.setCell a u) g c es := by
  obtain ⟨h1, h2, h3, h4, h5⟩ := h
  refine ⟨?_, (cell_else (by show a.block ≠ g; omega)).trans h2, h3, by simpa [World.setCell] using h4, h5⟩
  obtain ⟨A, c', hv, k1, k2, k3, k4⟩ := h1
  refine ⟨A, c', hv, k1, k2, k3, fun h0 => ?_⟩
  obtain ⟨b, o, rfl, kl, kc⟩ := k4 h0
  injection hv with e1 _ _
  injection e1 with e1
  injection e1 with e1 _ _
  exact ⟨b, o, rfl, by simpa [World.setCell] using kl, fun j x hx => (cell_else (by show a.block ≠ b; omega)).trans (kc j x hx)⟩
theorem TwF.far {base : Nat} {X : World} {g c : Nat} {es : List Sp} {a : Addr} {u : Value} (h : TwF base X g c es) (hne : a.block < base) : TwF base (X.setCell a u) g c es := by
  obtain ⟨h1, h2, h3, h4, h5⟩ := h
  refine ⟨?_, (cell_else (by show a.block ≠ g; omega)).trans h2, h3, by simpa [World.setCell] using h4, h5⟩
  obtain ⟨A, c', hv, k1, k2, k3, k4⟩ := h1
  refine ⟨A, c', hv, k1, k2, k3, fun h0 => ?_⟩
  obtain ⟨b, o, rfl, kl, kc⟩ := k4 h0
  injection hv with e1 _ _
  injection e1 with e1
  injection e1 with e1 _ _
  exact ⟨b, o, rfl, by simpa [World.setCell] using kl, fun j x hx => (cell_else (by show a.block ≠ b; omega)).trans (kc j x hx)⟩
theorem bld70_run (X : World) : (Instr.buildSlice 22 1 #[(0, .agg #[.int .i64 (-70), .int .i64 0, .int .i64 0, .int .i64 0, .int .i64 0, .int .i64 0])]).run Tryd.prog X = .ok (.slice (some ⟨X.heap.size, 0, none⟩) 1 1) (X.alloc (.cells #[.int .i64 (-70), .int .i64 0, .int .i64 0, .int .i64 0, .int .i64 0, .int .i64 0] 30)) := by kernel_rfl
theorem bld70f_run (X : World) : (Instr.buildSlice 23 1 #[(0, .agg #[.int .i64 0, .int .i64 (-70)])]).run Tryd.prog X = .ok (.slice (some ⟨X.heap.size, 0, none⟩) 1 1) (X.alloc (.cells #[.int .i64 0, .int .i64 (-70)] 32)) := by kernel_rfl
end Go.Proofs.YtkdnhfeamibmdaaDoor
namespace Go.Proofs.YtkdnhfeamibmdaaDoor
open Go.RowKit Go.Sort
theorem str_len {l : List UInt8} {S : ByteArray} (h : S = ⟨l.toArray⟩) : S.size = l.length := by
  rw [h]; show l.toArray.size = _; rw [List.size_toArray]
set_option maxRecDepth 100000 in
set_option maxHeartbeats 8000000 in
theorem rentries_any {es : List En} {v : Value} {w : World} (hE : EsB w.heap.size w v es) (hi : ∀ e ∈ es, IntsOk e.l) (hn : es.length ≤ 256) :
    Calls Tryd.prog 34 #[v] w (StrPost ⟨(markL (esL es)).toArray⟩ w) := by
  have HC := Lib.hid (fun X (hb : Below w.heap.size w X) k (hk : k < es.length) => EsB.cells (hE.below hb (Nat.le_refl _)) hk)
  have HI := Lib.hid hi
  have HLB := Lib.hid (esL_bd hi hn)
  obtain ⟨A, c, rfl, h1, h2, -⟩ := hE.len
  unfold maxLen at h2
  obtain ⟨w1, HX1⟩ : ∃ W : World, Hid (W = w.alloc (.cells #[.int .i64 (es.length : Int)] 3)) := ⟨_, Lib.hid rfl⟩
  have hb1 : Below w.heap.size w w1 := by rw [HX1.out]; exact (Below.refl _ _).alloc (Nat.le_refl _) _
  have hr : IntRow w1 w.heap.size [(es.length : Int)] := by rw [HX1.out]; exact heap_alloc_new _ _
  obtain ⟨S0, HS0⟩ : ∃ S : ByteArray, Hid (S = ⟨(markL [(es.length : Int)]).toArray⟩) := ⟨_, Lib.hid rfl⟩
  have G0 : Hid (Calls Tryd.prog 33 #[.slice (some ⟨w.heap.size, 0, none⟩) 1 1] w1 (StrPost S0 w1)) := by
    show Calls _ _ _ _ _
    rw [HS0.out]
    exact rints_any hr (by intro x hx; simp at hx; subst hx; omega) (by simp)
  have HB1 := Lib.hid hb1
  clear hE hi hn hb1 hr
  go_enter Tryd.func34, Tryd.ntmps34
  go_wp2_with (rw [← HX1.out])
  refine (G0.out).mono ?_
  rintro e w2 ⟨rfl, hb⟩
  have HB2 := Lib.hid (HB1.out.trans (hb.mono HB1.out.size))
  clear hb
  go_wp2_with fail
  go_loopw [3, 4] (fun s i wr => ∃ (k : Nat) (S : ByteArray), k ≤ es.length ∧ i = .int .i64 k ∧ s = .string S ∧ Hid (S = ⟨(markL ((es.length : Int) :: ((es.take k).map En.l).flatten)).toArray⟩) ∧ Hid (Below w.heap.size w wr)) (fun _ i _ => es.length - (intOf i).toNat)
  case atStart => exact ⟨0, S0, Nat.zero_le _, rfl, rfl, HS0, HB2⟩
  case round =>
    obtain ⟨k, S, hk, rfl, rfl, HS, HB⟩ := hrel
    by_cases hlt : k < es.length
    · obtain ⟨b1, o1, c1', hv, hbb1, x0, x1, x2, x3, x4, x5⟩ := HC.out wr HB.out k hlt
      injection hv with e1 e2 e3
      subst e1 e3
      clear e2
      have hii : (k : Int) < (es.length : Int) := by omega
      have HT := Lib.hid (esL_take hlt)
      have hs1 : S.size ≤ 20000 := by rw [str_len HS.out]; exact HLB.out k
      have hix := HI.out es[k] (List.getElem_mem hlt)
      have hwr := HB.out.size
      generalize es[k] = x at *
      obtain ⟨ep, oi, os_, oe, ok, oa⟩ := x
      simp only at x0 x1 x2 x3 x4 x5
      obtain ⟨S2, HS2⟩ : ∃ S : ByteArray, Hid (S = ⟨(markL (En.l ⟨ep, oi, os_, oe, ok, oa⟩)).toArray⟩) := ⟨_, Lib.hid rfl⟩
      have hs2 : S2.size ≤ 20000 := by
        rw [str_len HS2.out]
        have := (markL_len hix).2
        simp [En.l, Od.l] at this ⊢
        omega
      obtain ⟨w6, HX6⟩ : ∃ W : World, Hid (W = wr.alloc (.cells #[.int .i64 oi, .int .i64 os_, .int .i64 oe, .int .i64 ok, .int .i64 oa] 28)) := ⟨_, Lib.hid rfl⟩
      have hb6 : Below wr.heap.size wr w6 := by rw [HX6.out]; exact (Below.refl _ _).alloc (Nat.le_refl _) _
      have h_o6 : w6.heap[wr.heap.size]? = some (.cells #[.int .i64 oi, .int .i64 os_, .int .i64 oe, .int .i64 ok, .int .i64 oa] 28 (0, 0)) := by rw [HX6.out]; exact heap_alloc_new _ _
      have hz6 : wr.heap.size < w6.heap.size := by rw [HX6.out]; simp
      have HB6 := Lib.hid (HB.out.trans (hb6.mono hwr))
      have hbl : b1 < wr.heap.size := Nat.lt_of_lt_of_le hbb1 hwr
      have hbl6 : b1 < w6.heap.size := by omega
      have y0 := (hb6.cell (p := ⟨b1, o1 + k * 6, none⟩) hbl).trans x0
      have z0 : w6.cell? ⟨wr.heap.size, 0, none⟩ = some (.int .i64 oi) := by rw [Lib.cell_of_heap h_o6]; rfl
      have z1 : w6.cell? ⟨wr.heap.size, 1, none⟩ = some (.int .i64 os_) := by rw [Lib.cell_of_heap h_o6]; rfl
      have z2 : w6.cell? ⟨wr.heap.size, 2, none⟩ = some (.int .i64 oe) := by rw [Lib.cell_of_heap h_o6]; rfl
      have z3 : w6.cell? ⟨wr.heap.size, 3, none⟩ = some (.int .i64 ok) := by rw [Lib.cell_of_heap h_o6]; rfl
      have z4 : w6.cell? ⟨wr.heap.size, 4, none⟩ = some (.int .i64 oa) := by rw [Lib.cell_of_heap h_o6]; rfl
      obtain ⟨w7, HX7⟩ : ∃ W : World, Hid (W = (w6.alloc (.cells #[.int .i64 ep, .int .i64 oi, .int .i64 os_, .int .i64 oe, .int .i64 ok, .int .i64 oa] 3)).drew) := ⟨_, Lib.hid rfl⟩
      have hb7 : Below w6.heap.size w6 w7 := by rw [HX7.out]; exact ((Below.refl _ _).alloc (Nat.le_refl _) _).drew
      have hr7 : IntRow w7 w6.heap.size (En.l ⟨ep, oi, os_, oe, ok, oa⟩) := by rw [HX7.out]; exact heap_alloc_new w6 _
      have G7 : Hid (Calls Tryd.prog 33 #[.slice (some ⟨w6.heap.size, 0, none⟩) 6 6] w7 (StrPost S2 w7)) := by
        show Calls _ _ _ _ _
        rw [HS2.out]
        exact rints_any hr7 hix (by simp [En.l, Od.l])
      rw [HX7.out] at G7
      have HH7 := Lib.hid hb7
      have n0 := World.new_ne w6.drew ⟨b1, o1 + k * 6, none⟩ (u := .int .i64 ep) y0
      have n1 := World.new_ne w6.drew ⟨wr.heap.size, 0, none⟩ (u := .int .i64 oi) z0
      have hs3 : S.size + S2.size ≤ 9223372036854775807 := by omega
      have RS : ∀ X, (Op.stringOp .add S S2).run Tryd.prog X = .ok (.string (S ++ S2)) X := fun X => run_string_add_sum X S S2 hs3
      have hs4 : ¬ (S.size + S2.size > 9223372036854775807) := by omega
      clear hr7 hix h_o6 hb6 hb7
      go_wp2_with (rw [← HX6.out])
      go_region_held3 (fun X => X.cell? ⟨b1, o1 + k * 6, none⟩ = some (.int .i64 ep) ∧ X.cell? ⟨wr.heap.size, 0, none⟩ = some (.int .i64 oi) ∧ X.cell? ⟨wr.heap.size, 1, none⟩ = some (.int .i64 os_) ∧ X.cell? ⟨wr.heap.size, 2, none⟩ = some (.int .i64 oe) ∧ X.cell? ⟨wr.heap.size, 3, none⟩ = some (.int .i64 ok) ∧ X.cell? ⟨wr.heap.size, 4, none⟩ = some (.int .i64 oa))
        (first | exact hS | go_keep) ((go_at_call 33; (refine (G7.out).mono ?_); rintro e w8 ⟨rfl, hb⟩; have hB8 : Below w6.heap.size w6 w8 := (((Below.refl _ _).alloc (Nat.le_refl _) _).drew.trans (hb.mono (by simp))); have hS : w8.cell? ⟨b1, o1 + k * 6, none⟩ = some (.int .i64 ep) ∧ w8.cell? ⟨wr.heap.size, 0, none⟩ = some (.int .i64 oi) ∧ w8.cell? ⟨wr.heap.size, 1, none⟩ = some (.int .i64 os_) ∧ w8.cell? ⟨wr.heap.size, 2, none⟩ = some (.int .i64 oe) ∧ w8.cell? ⟨wr.heap.size, 3, none⟩ = some (.int .i64 ok) ∧ w8.cell? ⟨wr.heap.size, 4, none⟩ = some (.int .i64 oa) := ⟨(hB8.cell (p := ⟨b1, o1 + k * 6, none⟩) hbl6).trans y0, (hB8.cell (p := ⟨wr.heap.size, 0, none⟩) hz6).trans z0, (hB8.cell (p := ⟨wr.heap.size, 1, none⟩) hz6).trans z1, (hB8.cell (p := ⟨wr.heap.size, 2, none⟩) hz6).trans z2, (hB8.cell (p := ⟨wr.heap.size, 3, none⟩) hz6).trans z3, (hB8.cell (p := ⟨wr.heap.size, 4, none⟩) hz6).trans z4⟩))
      have HB8 := Lib.hid (HB6.out.trans (hB8.mono HB6.out.size))
      have HSS : Hid (S ++ S2 = ⟨(markL ((es.length : Int) :: ((es.take (k + 1)).map En.l).flatten)).toArray⟩) := by show _ = _; rw [HS.out, HS2.out, str_mk, HT.out]
      clear hB8 hS hb y0 z0 z1 z2 z3 z4 n0 n1 HS HS2
      go_wp2_with fail
      go_roundw
      case rel => exact ⟨k + 1, S ++ S2, by omega, by go_num, rfl, HSS, HB8⟩
      case measure => simp [intOf]; omega
    · have HX : Hid (S = ⟨(markL (esL es)).toArray⟩) := by show _ = _; rw [HS.out, List.take_of_length_le (by omega)]; rfl
      clear hk HS
      go_wp2_with fail
      go_ret
      exact ⟨by rw [← HX.out]; rfl, HB.out⟩
end Go.Proofs.YtkdnhfeamibmdaaDoor
namespace Go.Proofs.YtkdnhfeamibmdaaDoor
open Go.RowKit Go.Sort
set_option linter.unusedSimpArgs false in
theorem ml_may1 (fr tt st ep vi ba le sp n oi os oe ok oa ai ac av : Int) (es : List En) : Ml.may n ⟨1, fr, tt, st, ep, vi, ba, le, sp, es, ⟨oi, os, oe, ok, oa⟩, ai, ac, av⟩ = true ↔ 2 ≤ n ∧ n ≤ 7 ∧ 0 ≤ fr ∧ fr < n ∧ 0 ≤ tt ∧ tt < n ∧ 0 ≤ st ∧ st ≤ 3 ∧ 1 ≤ ep ∧ ep ≤ 1048576 ∧ vi = 0 ∧ ba = 0 ∧ le = 0 ∧ 0 ≤ sp ∧ sp ≤ 1073741824 ∧ es.length = 0 ∧ oi = 0 ∧ os = 0 ∧ oe = 0 ∧ ok = 0 ∧ oa = 0 ∧ ai = 0 ∧ ac = 0 ∧ av = 0 := by
  have hb : bitsK 1 ep = 35 := by unfold bitsK; simp
  simp only [hb, Ml.may, numsA, entsA, ordA, ansA, fld, inb, isSite, show Nat.testBit 35 0 = true from by decide, show Nat.testBit 35 1 = true from by decide, show Nat.testBit 35 2 = false from by decide, show Nat.testBit 35 3 = false from by decide, show Nat.testBit 35 4 = false from by decide, show Nat.testBit 35 5 = true from by decide, show Nat.testBit 35 6 = false from by decide, show Nat.testBit 35 7 = false from by decide, show Nat.testBit 35 8 = false from by decide, Bool.and_eq_true, Bool.or_eq_true, decide_eq_true_eq, viewR_may, Od.none, Od.mk.injEq, if_true, if_false, Bool.false_eq_true, eq_self, false_or, true_or, true_and, and_true]
  omega
set_option linter.unusedSimpArgs false in
theorem ml_may2 (fr tt st ep vi ba le sp n oi os oe ok oa ai ac av : Int) (es : List En) : Ml.may n ⟨2, fr, tt, st, ep, vi, ba, le, sp, es, ⟨oi, os, oe, ok, oa⟩, ai, ac, av⟩ = true ↔ 2 ≤ n ∧ n ≤ 7 ∧ 0 ≤ fr ∧ fr < n ∧ 0 ≤ tt ∧ tt < n ∧ 0 ≤ st ∧ st ≤ 3 ∧ 1 ≤ ep ∧ ep ≤ 1048576 ∧ 0 ≤ vi ∧ vi ≤ 1048576 ∧ ba = 0 ∧ 0 ≤ le ∧ le ≤ 64 ∧ 0 ≤ sp ∧ sp ≤ 1073741824 ∧ (decide ((es.length : Int) ≤ 64) && es.all (En.may st)) = true ∧ le ≤ (es.length : Int) ∧ oi = 0 ∧ os = 0 ∧ oe = 0 ∧ ok = 0 ∧ oa = 0 ∧ ai = 0 ∧ ac = 0 ∧ av = 0 := by
  have hb : bitsK 2 ep = 119 := by unfold bitsK; simp
  simp only [hb, Ml.may, numsA, entsA, ordA, ansA, fld, inb, isSite, show Nat.testBit 119 0 = true from by decide, show Nat.testBit 119 1 = true from by decide, show Nat.testBit 119 2 = true from by decide, show Nat.testBit 119 3 = false from by decide, show Nat.testBit 119 4 = true from by decide, show Nat.testBit 119 5 = true from by decide, show Nat.testBit 119 6 = true from by decide, show Nat.testBit 119 7 = false from by decide, show Nat.testBit 119 8 = false from by decide, Bool.and_eq_true, Bool.or_eq_true, decide_eq_true_eq, viewR_may, Od.none, Od.mk.injEq, if_true, if_false, Bool.false_eq_true, eq_self, false_or, true_or, true_and, and_true]
  generalize (es.all (En.may st)) = q
  cases q <;> simp only [Bool.false_eq_true, and_false, false_and, and_true, true_and, eq_self, iff_self] <;> omega
set_option linter.unusedSimpArgs false in
theorem ml_may3 (fr tt st ep vi ba le sp n oi os oe ok oa ai ac av : Int) (es : List En) : Ml.may n ⟨3, fr, tt, st, ep, vi, ba, le, sp, es, ⟨oi, os, oe, ok, oa⟩, ai, ac, av⟩ = true ↔ 2 ≤ n ∧ n ≤ 7 ∧ 0 ≤ fr ∧ fr < n ∧ 0 ≤ tt ∧ tt < n ∧ 0 ≤ st ∧ st ≤ 3 ∧ 0 ≤ ep ∧ ep ≤ 1048576 ∧ vi = 0 ∧ ba = 0 ∧ le = 0 ∧ sp = 0 ∧ es.length = 0 ∧ oi = 0 ∧ os = 0 ∧ oe = 0 ∧ ok = 0 ∧ oa = 0 ∧ ai = 0 ∧ ac = 0 ∧ av = 0 := by
  by_cases he : ep = 0
  · have hb : bitsK 3 ep = 1 := by unfold bitsK; simp [he]
    simp only [hb, Ml.may, numsA, entsA, ordA, ansA, fld, inb, isSite, show Nat.testBit 1 0 = true from by decide, show Nat.testBit 1 1 = false from by decide, show Nat.testBit 1 2 = false from by decide, show Nat.testBit 1 3 = false from by decide, show Nat.testBit 1 4 = false from by decide, show Nat.testBit 1 5 = false from by decide, show Nat.testBit 1 6 = false from by decide, show Nat.testBit 1 7 = false from by decide, show Nat.testBit 1 8 = false from by decide, Bool.and_eq_true, Bool.or_eq_true, decide_eq_true_eq, viewR_may, Od.none, Od.mk.injEq, if_true, if_false, Bool.false_eq_true, eq_self, false_or, true_or, true_and, and_true]
    omega
  · have hb : bitsK 3 ep = 3 := by unfold bitsK; simp [he]
    simp only [hb, Ml.may, numsA, entsA, ordA, ansA, fld, inb, isSite, show Nat.testBit 3 0 = true from by decide, show Nat.testBit 3 1 = true from by decide, show Nat.testBit 3 2 = false from by decide, show Nat.testBit 3 3 = false from by decide, show Nat.testBit 3 4 = false from by decide, show Nat.testBit 3 5 = false from by decide, show Nat.testBit 3 6 = false from by decide, show Nat.testBit 3 7 = false from by decide, show Nat.testBit 3 8 = false from by decide, Bool.and_eq_true, Bool.or_eq_true, decide_eq_true_eq, viewR_may, Od.none, Od.mk.injEq, if_true, if_false, Bool.false_eq_true, eq_self, false_or, true_or, true_and, and_true]
    omega
set_option linter.unusedSimpArgs false in
theorem ml_may4 (fr tt st ep vi ba le sp n oi os oe ok oa ai ac av : Int) (es : List En) : Ml.may n ⟨4, fr, tt, st, ep, vi, ba, le, sp, es, ⟨oi, os, oe, ok, oa⟩, ai, ac, av⟩ = true ↔ 2 ≤ n ∧ n ≤ 7 ∧ 0 ≤ fr ∧ fr < n ∧ 0 ≤ tt ∧ tt < n ∧ 0 ≤ st ∧ st ≤ 3 ∧ 1 ≤ ep ∧ ep ≤ 1048576 ∧ vi = 0 ∧ 0 ≤ ba ∧ ba ≤ 64 ∧ 0 ≤ le ∧ le ≤ 64 ∧ 0 ≤ sp ∧ sp ≤ 1073741824 ∧ (decide ((es.length : Int) ≤ 64 - ba) && es.all (En.may st)) = true ∧ oi = 0 ∧ os = 0 ∧ oe = 0 ∧ ok = 0 ∧ oa = 0 ∧ ai = 0 ∧ ac = 0 ∧ av = 0 := by
  have hb : bitsK 4 ep = 123 := by unfold bitsK; simp
  simp only [hb, Ml.may, numsA, entsA, ordA, ansA, fld, inb, isSite, show Nat.testBit 123 0 = true from by decide, show Nat.testBit 123 1 = true from by decide, show Nat.testBit 123 2 = false from by decide, show Nat.testBit 123 3 = true from by decide, show Nat.testBit 123 4 = true from by decide, show Nat.testBit 123 5 = true from by decide, show Nat.testBit 123 6 = true from by decide, show Nat.testBit 123 7 = false from by decide, show Nat.testBit 123 8 = false from by decide, Bool.and_eq_true, Bool.or_eq_true, decide_eq_true_eq, viewR_may, Od.none, Od.mk.injEq, if_true, if_false, Bool.false_eq_true, eq_self, false_or, true_or, true_and, and_true]
  generalize (es.all (En.may st)) = q
  cases q <;> simp only [Bool.false_eq_true, and_false, false_and, and_true, true_and, eq_self, iff_self] <;> omega
set_option linter.unusedSimpArgs false in
theorem ml_may5 (fr tt st ep vi ba le sp n oi os oe ok oa ai ac av : Int) (es : List En) : Ml.may n ⟨5, fr, tt, st, ep, vi, ba, le, sp, es, ⟨oi, os, oe, ok, oa⟩, ai, ac, av⟩ = true ↔ 2 ≤ n ∧ n ≤ 7 ∧ 0 ≤ fr ∧ fr < n ∧ 0 ≤ tt ∧ tt < n ∧ 0 ≤ st ∧ st ≤ 3 ∧ 1 ≤ ep ∧ ep ≤ 1048576 ∧ vi = 0 ∧ ba = 0 ∧ 0 ≤ le ∧ le ≤ 64 ∧ 0 ≤ sp ∧ sp ≤ 1073741824 ∧ es.length = 0 ∧ oi = 0 ∧ os = 0 ∧ oe = 0 ∧ ok = 0 ∧ oa = 0 ∧ ai = 0 ∧ ac = 0 ∧ av = 0 := by
  have hb : bitsK 5 ep = 51 := by unfold bitsK; simp
  simp only [hb, Ml.may, numsA, entsA, ordA, ansA, fld, inb, isSite, show Nat.testBit 51 0 = true from by decide, show Nat.testBit 51 1 = true from by decide, show Nat.testBit 51 2 = false from by decide, show Nat.testBit 51 3 = false from by decide, show Nat.testBit 51 4 = true from by decide, show Nat.testBit 51 5 = true from by decide, show Nat.testBit 51 6 = false from by decide, show Nat.testBit 51 7 = false from by decide, show Nat.testBit 51 8 = false from by decide, Bool.and_eq_true, Bool.or_eq_true, decide_eq_true_eq, viewR_may, Od.none, Od.mk.injEq, if_true, if_false, Bool.false_eq_true, eq_self, false_or, true_or, true_and, and_true]
  omega
set_option linter.unusedSimpArgs false in
theorem ml_may6 (fr tt st ep vi ba le sp n oi os oe ok oa ai ac av : Int) (es : List En) : Ml.may n ⟨6, fr, tt, st, ep, vi, ba, le, sp, es, ⟨oi, os, oe, ok, oa⟩, ai, ac, av⟩ = true ↔ 2 ≤ n ∧ n ≤ 7 ∧ 0 ≤ fr ∧ fr < n ∧ 0 ≤ tt ∧ tt < n ∧ 0 ≤ st ∧ st ≤ 3 ∧ 1 ≤ ep ∧ ep ≤ 1048576 ∧ vi = 0 ∧ ba = 0 ∧ 0 ≤ le ∧ le ≤ 64 ∧ sp = 0 ∧ es.length = 0 ∧ oi = 0 ∧ os = 0 ∧ oe = 0 ∧ ok = 0 ∧ oa = 0 ∧ ai = 0 ∧ ac = 0 ∧ av = 0 := by
  have hb : bitsK 6 ep = 19 := by unfold bitsK; simp
  simp only [hb, Ml.may, numsA, entsA, ordA, ansA, fld, inb, isSite, show Nat.testBit 19 0 = true from by decide, show Nat.testBit 19 1 = true from by decide, show Nat.testBit 19 2 = false from by decide, show Nat.testBit 19 3 = false from by decide, show Nat.testBit 19 4 = true from by decide, show Nat.testBit 19 5 = false from by decide, show Nat.testBit 19 6 = false from by decide, show Nat.testBit 19 7 = false from by decide, show Nat.testBit 19 8 = false from by decide, Bool.and_eq_true, Bool.or_eq_true, decide_eq_true_eq, viewR_may, Od.none, Od.mk.injEq, if_true, if_false, Bool.false_eq_true, eq_self, false_or, true_or, true_and, and_true]
  omega
set_option linter.unusedSimpArgs false in
theorem ml_may7 (fr tt st ep vi ba le sp n oi os oe ok oa ai ac av : Int) (es : List En) : Ml.may n ⟨7, fr, tt, st, ep, vi, ba, le, sp, es, ⟨oi, os, oe, ok, oa⟩, ai, ac, av⟩ = true ↔ 2 ≤ n ∧ n ≤ 7 ∧ 0 ≤ fr ∧ fr < n ∧ 0 ≤ tt ∧ tt < n ∧ 0 ≤ st ∧ st ≤ 3 ∧ st = 0 ∧ ep = 0 ∧ vi = 0 ∧ ba = 0 ∧ le = 0 ∧ sp = 0 ∧ es.length = 0 ∧ Od.may ⟨oi, os, oe, ok, oa⟩ = true ∧ ai = 0 ∧ ac = 0 ∧ av = 0 := by
  have hb : bitsK 7 ep = 128 := by unfold bitsK; simp
  simp only [hb, Ml.may, numsA, entsA, ordA, ansA, fld, inb, isSite, show Nat.testBit 128 0 = false from by decide, show Nat.testBit 128 1 = false from by decide, show Nat.testBit 128 2 = false from by decide, show Nat.testBit 128 3 = false from by decide, show Nat.testBit 128 4 = false from by decide, show Nat.testBit 128 5 = false from by decide, show Nat.testBit 128 6 = false from by decide, show Nat.testBit 128 7 = true from by decide, show Nat.testBit 128 8 = false from by decide, Bool.and_eq_true, Bool.or_eq_true, decide_eq_true_eq, viewR_may, Od.none, Od.mk.injEq, if_true, if_false, Bool.false_eq_true, eq_self, false_or, true_or, true_and, and_true]
  generalize Od.may ⟨oi, os, oe, ok, oa⟩ = q
  cases q <;> simp only [Bool.false_eq_true, and_false, false_and, and_true, true_and, eq_self, iff_self] <;> omega
set_option linter.unusedSimpArgs false in
theorem ml_may8 (fr tt st ep vi ba le sp n oi os oe ok oa ai ac av : Int) (es : List En) : Ml.may n ⟨8, fr, tt, st, ep, vi, ba, le, sp, es, ⟨oi, os, oe, ok, oa⟩, ai, ac, av⟩ = true ↔ 2 ≤ n ∧ n ≤ 7 ∧ 0 ≤ fr ∧ fr < n ∧ 0 ≤ tt ∧ tt < n ∧ 0 ≤ st ∧ st ≤ 3 ∧ ep = 0 ∧ vi = 0 ∧ ba = 0 ∧ le = 0 ∧ sp = 0 ∧ es.length = 0 ∧ oi = 0 ∧ os = 0 ∧ oe = 0 ∧ ok = 0 ∧ oa = 0 ∧ 1 ≤ ai ∧ ai ≤ 2147483647 ∧ 1 ≤ ac ∧ ac ≤ 7 ∧ 0 ≤ av ∧ av ≤ 64 := by
  have hb : bitsK 8 ep = 257 := by unfold bitsK; simp
  simp only [hb, Ml.may, numsA, entsA, ordA, ansA, fld, inb, isSite, show Nat.testBit 257 0 = true from by decide, show Nat.testBit 257 1 = false from by decide, show Nat.testBit 257 2 = false from by decide, show Nat.testBit 257 3 = false from by decide, show Nat.testBit 257 4 = false from by decide, show Nat.testBit 257 5 = false from by decide, show Nat.testBit 257 6 = false from by decide, show Nat.testBit 257 7 = false from by decide, show Nat.testBit 257 8 = true from by decide, Bool.and_eq_true, Bool.or_eq_true, decide_eq_true_eq, viewR_may, Od.none, Od.mk.injEq, if_true, if_false, Bool.false_eq_true, eq_self, false_or, true_or, true_and, and_true]
  omega
set_option linter.unusedSimpArgs false in
theorem ml_may9 (fr tt st ep vi ba le sp n oi os oe ok oa ai ac av : Int) (es : List En) : Ml.may n ⟨9, fr, tt, st, ep, vi, ba, le, sp, es, ⟨oi, os, oe, ok, oa⟩, ai, ac, av⟩ = true ↔ 2 ≤ n ∧ n ≤ 7 ∧ 0 ≤ fr ∧ fr < n ∧ 0 ≤ tt ∧ tt < n ∧ 0 ≤ st ∧ st ≤ 3 ∧ 1 ≤ ep ∧ ep ≤ 1048576 ∧ vi = 0 ∧ ba = 0 ∧ le = 0 ∧ sp = 0 ∧ es.length = 0 ∧ oi = 0 ∧ os = 0 ∧ oe = 0 ∧ ok = 0 ∧ oa = 0 ∧ ai = 0 ∧ ac = 0 ∧ av = 0 := by
  have hb : bitsK 9 ep = 3 := by unfold bitsK; simp
  simp only [hb, Ml.may, numsA, entsA, ordA, ansA, fld, inb, isSite, show Nat.testBit 3 0 = true from by decide, show Nat.testBit 3 1 = true from by decide, show Nat.testBit 3 2 = false from by decide, show Nat.testBit 3 3 = false from by decide, show Nat.testBit 3 4 = false from by decide, show Nat.testBit 3 5 = false from by decide, show Nat.testBit 3 6 = false from by decide, show Nat.testBit 3 7 = false from by decide, show Nat.testBit 3 8 = false from by decide, Bool.and_eq_true, Bool.or_eq_true, decide_eq_true_eq, viewR_may, Od.none, Od.mk.injEq, if_true, if_false, Bool.false_eq_true, eq_self, false_or, true_or, true_and, and_true]
  omega
set_option linter.unusedSimpArgs false in
theorem ml_may10 (fr tt st ep vi ba le sp n oi os oe ok oa ai ac av : Int) (es : List En) : Ml.may n ⟨10, fr, tt, st, ep, vi, ba, le, sp, es, ⟨oi, os, oe, ok, oa⟩, ai, ac, av⟩ = true ↔ 2 ≤ n ∧ n ≤ 7 ∧ 0 ≤ fr ∧ fr < n ∧ 0 ≤ tt ∧ tt < n ∧ 0 ≤ st ∧ st ≤ 3 ∧ 1 ≤ ep ∧ ep ≤ 1048576 ∧ vi = 0 ∧ ba = 0 ∧ le = 0 ∧ sp = 0 ∧ es.length = 0 ∧ oi = 0 ∧ os = 0 ∧ oe = 0 ∧ ok = 0 ∧ oa = 0 ∧ ai = 0 ∧ ac = 0 ∧ av = 0 := by
  have hb : bitsK 10 ep = 3 := by unfold bitsK; simp
  simp only [hb, Ml.may, numsA, entsA, ordA, ansA, fld, inb, isSite, show Nat.testBit 3 0 = true from by decide, show Nat.testBit 3 1 = true from by decide, show Nat.testBit 3 2 = false from by decide, show Nat.testBit 3 3 = false from by decide, show Nat.testBit 3 4 = false from by decide, show Nat.testBit 3 5 = false from by decide, show Nat.testBit 3 6 = false from by decide, show Nat.testBit 3 7 = false from by decide, show Nat.testBit 3 8 = false from by decide, Bool.and_eq_true, Bool.or_eq_true, decide_eq_true_eq, viewR_may, Od.none, Od.mk.injEq, if_true, if_false, Bool.false_eq_true, eq_self, false_or, true_or, true_and, and_true]
  omega
set_option linter.unusedSimpArgs false in
/-- May of the document, of any message. -/
theorem rmayml_any (m : Ml) (n : Int) {v : Value} {w : World} (hE : EsB w.heap.size w v m.es) :
    Calls Tryd.prog 44 #[m.v v, .int .i64 n] w (NumPost (.bool (m.may n)) w) := by
  have hL : ∀ (X : World) (most : Int), Below w.heap.size w X → Calls Tryd.prog 72 #[m.v v, .int .i64 most] X (NumPost (.bool (decide ((m.es.length : Int) ≤ most) && m.es.all (En.may m.st))) X) :=
    fun X most hb => rlogm_any m X most ((RdB.below hE hb (Nat.le_refl _)).mono hb.size)
  obtain ⟨A, c, rfl, -⟩ := RdB.len hE
  clear hE
  obtain ⟨ki, fr, tt, st, ep, vi, ba, le, sp, es, ⟨oi, os, oe, ok, oa⟩, ai, ac, av⟩ := m
  simp only [Ml.v, Ml.cells, List.toArray] at hL ⊢
  by_cases h1 : ki = 1
  · subst h1
    exact rmay_m1 fr tt st ep vi ba le sp oi os oe ok oa ai ac av n es.length c A _ w (Lib.hid (ml_may1 fr tt st ep vi ba le sp n oi os oe ok oa ai ac av es))
  by_cases h2 : ki = 2
  · subst h2
    by_cases hba : ba = 0
    · subst hba
      refine rmay_m2a fr tt st ep vi le sp oi os oe ok oa ai ac av n es.length c A _ (decide ((es.length : Int) ≤ 64) && es.all (En.may st)) w (Lib.hid ?_) (Lib.hid fun X hX => hL X 64 hX)
      rw [ml_may2]; simp only [eq_self, true_and]
    · have hf : Ml.may n ⟨2, fr, tt, st, ep, vi, ba, le, sp, es, ⟨oi, os, oe, ok, oa⟩, ai, ac, av⟩ = false := by
        rw [Bool.eq_false_iff, Ne, ml_may2]; omega
      rw [hf]
      exact rmay_m2b fr tt st ep vi ba le sp oi os oe ok oa ai ac av n es.length c A w (by simp [hba]) (by simp [hba]) hba
  by_cases h3 : ki = 3
  · subst h3
    exact rmay_m3 fr tt st ep vi ba le sp oi os oe ok oa ai ac av n es.length c A _ w (Lib.hid (ml_may3 fr tt st ep vi ba le sp n oi os oe ok oa ai ac av es))
  by_cases h4 : ki = 4
  · subst h4
    cases hib : inb 0 64 ba
    · have hf : Ml.may n ⟨4, fr, tt, st, ep, vi, ba, le, sp, es, ⟨oi, os, oe, ok, oa⟩, ai, ac, av⟩ = false := by
        rw [Bool.eq_false_iff, Ne, ml_may4]
        simp only [inb, Bool.and_eq_false_iff, decide_eq_false_iff_not] at hib
        omega
      rw [hf]
      exact rmay_m4b fr tt st ep vi ba le sp oi os oe ok oa ai ac av n es.length c A w hib
    · have hi : 0 ≤ ba ∧ ba ≤ 64 := by simpa [inb] using hib
      refine rmay_m4a fr tt st ep vi ba le sp oi os oe ok oa ai ac av n es.length c A _ (decide ((es.length : Int) ≤ 64 - ba) && es.all (En.may st)) w (Lib.hid ?_) (Lib.hid fun X hX => hL X (64 - ba) hX) hib (IntWalk.i64_in _ (by omega))
      rw [ml_may4]
      generalize (decide ((es.length : Int) ≤ 64 - ba) && es.all (En.may st)) = q
      cases q <;> simp only [Bool.false_eq_true, and_false, false_and, and_true, true_and, eq_self] <;> omega
  by_cases h5 : ki = 5
  · subst h5
    exact rmay_m5 fr tt st ep vi ba le sp oi os oe ok oa ai ac av n es.length c A _ w (Lib.hid (ml_may5 fr tt st ep vi ba le sp n oi os oe ok oa ai ac av es))
  by_cases h6 : ki = 6
  · subst h6
    exact rmay_m6 fr tt st ep vi ba le sp oi os oe ok oa ai ac av n es.length c A _ w (Lib.hid (ml_may6 fr tt st ep vi ba le sp n oi os oe ok oa ai ac av es))
  by_cases h7 : ki = 7
  · subst h7
    exact rmay_m7 fr tt st ep vi ba le sp oi os oe ok oa ai ac av n es.length c A _ (Od.may ⟨oi, os, oe, ok, oa⟩) w (Lib.hid (ml_may7 fr tt st ep vi ba le sp n oi os oe ok oa ai ac av es)) (Lib.hid fun X => (rmay_any ⟨oi, os, oe, ok, oa⟩ X))
  by_cases h8 : ki = 8
  · subst h8
    exact rmay_m8 fr tt st ep vi ba le sp oi os oe ok oa ai ac av n es.length c A _ w (Lib.hid (ml_may8 fr tt st ep vi ba le sp n oi os oe ok oa ai ac av es))
  by_cases h9 : ki = 9
  · subst h9
    exact rmay_m9 fr tt st ep vi ba le sp oi os oe ok oa ai ac av n es.length c A _ w (Lib.hid (ml_may9 fr tt st ep vi ba le sp n oi os oe ok oa ai ac av es))
  by_cases h10 : ki = 10
  · subst h10
    exact rmay_m10 fr tt st ep vi ba le sp oi os oe ok oa ai ac av n es.length c A _ w (Lib.hid (ml_may10 fr tt st ep vi ba le sp n oi os oe ok oa ai ac av es))
  have hf : Ml.may n ⟨ki, fr, tt, st, ep, vi, ba, le, sp, es, ⟨oi, os, oe, ok, oa⟩, ai, ac, av⟩ = false := by
    rw [Bool.eq_false_iff, Ne]
    simp only [Ml.may, Bool.and_eq_true, decide_eq_true_eq]
    omega
  rw [hf]
  exact rmay_me ki fr tt st ep vi ba le sp oi os oe ok oa ai ac av n es.length c A w (by simp [h1]) (by simp [h2]) (by simp [h3]) (by simp [h4]) (by simp [h5]) (by simp [h6]) (by simp [h7]) (by simp [h8]) (by simp [h9]) (by simp [h10])
set_option maxRecDepth 100000 in
/-- Check of the document, of any message. -/
theorem rcheckml_any (m : Ml) (n : Int) {v : Value} {w : World} (hE : EsB w.heap.size w v m.es) :
    Calls Tryd.prog 19 #[m.v v, .int .i64 n] w (NumPost (.int .i64 (m.err n)) w) := by
  have HE : Hid (m.err n = if m.may n then 0 else 2) := rfl
  generalize m.err n = er at *
  obtain ⟨w0, HW0⟩ : ∃ w0, Hid (w.alloc (.cells (m.cells v).toArray 45) = w0) := ⟨_, Lib.hid rfl⟩
  have hb0 : Below w.heap.size w w0 := by rw [← HW0.out]; exact (Below.refl _ _).alloc (Nat.le_refl _) _
  have X0 : MlBox w0 w.heap.size m v := by rw [← HW0.out]; exact MlBox.new _ _ _
  have G := Lib.hid (rmayml_any m n ((RdB.below hE hb0 (Nat.le_refl _)).mono hb0.size))
  have hd0 := X0.load
  clear hE X0
  have HB0 := Lib.hid hb0
  clear hb0
  cases hmay : m.may n
  all_goals
    rw [hmay] at G HE
    simp only [Ml.v] at hd0 G ⊢
    go_enter Tryd.func19, Tryd.ntmps19
    go_wp2_with (first | rw [HW0.out] | (with_reducible refine wpList_load_run (by rfl) 45 _ (by rfl) ⟨w.heap.size, 0, none⟩ (by with_unfolding_all rfl) hd0 ?_))
    refine (G.out).mono ?_
    rintro e w1 ⟨rfl, hb1⟩
    have hb2 : Below w.heap.size w w1 := HB0.out.trans (hb1.mono HB0.out.size)
    go_wp2_with fail
    go_ret
    exact ⟨by rw [HE.out]; rfl, hb2⟩
end Go.Proofs.YtkdnhfeamibmdaaDoor
namespace Go.Proofs.YtkdnhfeamibmdaaDoor
open Go.RowKit Go.Sort
section
variable {P : Program} {ops : Array Oper} {o : Oper} {a : Act} {w : World} {K : Act → World → Prop} {Q : Exit → Act → World → Prop} {E : Prop}
/-- A variable that is made. -/
theorem step_alloc_new (hg : o.guard = none) (t : TypeId) (hop : o.op = Op.alloc t) (cs : Array Value) (hr : ∀ X : World, (Instr.alloc t true (.tuple #[])).run P X = .ok (.pointer (some ⟨X.heap.size, 0, none⟩)) (X.alloc (.cells cs t)))
    (hK : ∀ (g : Nat) (w' : World), w'.heap[g]? = some (.cells cs t (0, 0)) → w.heap.size ≤ g → Below w.heap.size w w' → K (a.put o.dst (.pointer (some ⟨g, 0, none⟩))) w') :
    if Region.wanted o (yielded ops a.tmps) = true then Oper.wp P o a w K Q else E := by
  rw [if_pos (by simp [Region.wanted, hg])]
  unfold Oper.wp
  simp only [execOp, hop, Sem.run_bind, Sem.run_pure]
  rw [hr]
  exact hK w.heap.size _ (heap_alloc_new w _) (Nat.le_refl _) ((Below.refl _ _).alloc (Nat.le_refl _) _)
end
theorem alloc_or (X : World) : (Instr.alloc 28 true (.tuple #[])).run Tryd.prog X = .ok (.pointer (some ⟨X.heap.size, 0, none⟩)) (X.alloc (.cells #[.int .i64 0, .int .i64 0, .int .i64 0, .int .i64 0, .int .i64 0] 28)) := by kernel_rfl
theorem alloc_an (X : World) : (Instr.alloc 43 true (.tuple #[])).run Tryd.prog X = .ok (.pointer (some ⟨X.heap.size, 0, none⟩)) (X.alloc (.cells #[.int .i64 0, .int .i64 0, .int .i64 0] 43)) := by kernel_rfl
theorem store_or {X : World} {g : Nat} {cs cs' : Array Value} (h : X.heap[g]? = some (.cells cs 28 (0, 0))) (hn : cs.size = cs'.size) (h1 : cs'.all (·.oneCell') = true) (h2 : cs'.size = 5 := by rfl) :
    ∃ Y, (storeVar 28 ⟨g, 0, none⟩ (.agg cs')).run Tryd.prog X = .ok () Y ∧ Y.heap[g]? = some (.cells cs' 28 (0, 0)) ∧ (∀ k o, X.heap[k]? = some o → k ≠ g → Y.heap[k]? = some o) ∧ (∀ (n : Nat) (W : World), Below n W X → n ≤ g → Below n W Y) :=
  ⟨_, run_storeVar_row (P := Tryd.prog) X g 28 28 cs cs' h (by rw [h2]; kernel_rfl) hn h1, setRow_heap X g _ _ _ _ h, fun k o ho hne => (Foot.row (fun j => j = g) X g cs' rfl).kept ho hne, fun n W hW hg => below_setRow hW hg _⟩
theorem store_an {X : World} {g : Nat} {cs cs' : Array Value} (h : X.heap[g]? = some (.cells cs 43 (0, 0))) (hn : cs.size = cs'.size) (h1 : cs'.all (·.oneCell') = true) (h2 : cs'.size = 3 := by rfl) :
    ∃ Y, (storeVar 43 ⟨g, 0, none⟩ (.agg cs')).run Tryd.prog X = .ok () Y ∧ Y.heap[g]? = some (.cells cs' 43 (0, 0)) ∧ (∀ k o, X.heap[k]? = some o → k ≠ g → Y.heap[k]? = some o) ∧ (∀ (n : Nat) (W : World), Below n W X → n ≤ g → Below n W Y) :=
  ⟨_, run_storeVar_row (P := Tryd.prog) X g 43 43 cs cs' h (by rw [h2]; kernel_rfl) hn h1, setRow_heap X g _ _ _ _ h, fun k o ho hne => (Foot.row (fun j => j = g) X g cs' rfl).kept ho hne, fun n W hW hg => below_setRow hW hg _⟩
theorem build9m_run (x0 x1 x2 x3 x4 x5 x6 x7 x8 : Int) (X : World) : (Instr.buildSlice 57 9 #[(0, .int .i64 x0), (1, .int .i64 x1), (2, .int .i64 x2), (3, .int .i64 x3), (4, .int .i64 x4), (5, .int .i64 x5), (6, .int .i64 x6), (7, .int .i64 x7), (8, .int .i64 x8)]).run Tryd.prog X = .ok (.slice (some ⟨X.heap.size, 0, none⟩) 9 9) (X.alloc (.cells #[.int .i64 x0, .int .i64 x1, .int .i64 x2, .int .i64 x3, .int .i64 x4, .int .i64 x5, .int .i64 x6, .int .i64 x7, .int .i64 x8] 3)) := by kernel_rfl
theorem build8m_run (x0 x1 x2 x3 x4 x5 x6 x7 : Int) (X : World) : (Instr.buildSlice 57 8 #[(0, .int .i64 x0), (1, .int .i64 x1), (2, .int .i64 x2), (3, .int .i64 x3), (4, .int .i64 x4), (5, .int .i64 x5), (6, .int .i64 x6), (7, .int .i64 x7)]).run Tryd.prog X = .ok (.slice (some ⟨X.heap.size, 0, none⟩) 8 8) (X.alloc (.cells #[.int .i64 x0, .int .i64 x1, .int .i64 x2, .int .i64 x3, .int .i64 x4, .int .i64 x5, .int .i64 x6, .int .i64 x7] 3)) := by kernel_rfl
theorem Ml.enc_parts (m : Ml) : m.enc = markL m.hd ++ (markL (esL m.es) ++ markL m.tl) := by simp only [Ml.enc, Ml.l, markL_append]
set_option maxRecDepth 100000 in
set_option maxHeartbeats 8000000 in
theorem rmEnc_no (m : Ml) (n : Int) {v : Value} {w : World} (hE : EsB w.heap.size w v m.es) (hmay : m.may n = false) :
    Calls Tryd.prog 17 #[m.v v, .int .i64 n] w (NumPost (.tuple #[.string ⟨#[]⟩, .int .i64 2]) w) := by
  obtain ⟨w0, HW0⟩ : ∃ w0, Hid (w.alloc (.cells (m.cells v).toArray 45) = w0) := ⟨_, Lib.hid rfl⟩
  have hb0 : Below w.heap.size w w0 := by rw [← HW0.out]; exact (Below.refl _ _).alloc (Nat.le_refl _) _
  have X0 : MlBox w0 w.heap.size m v := by rw [← HW0.out]; exact MlBox.new _ _ _
  have G := Lib.hid (rmayml_any m n ((RdB.below hE hb0 (Nat.le_refl _)).mono hb0.size))
  have hd0 := X0.load
  have HB0 := Lib.hid hb0
  clear hE X0 hb0
  rw [hmay] at G
  clear hmay
  simp only [Ml.v] at hd0 G ⊢
  go_enter Tryd.func17, Tryd.ntmps17
  go_wp2_with (first | rw [HW0.out] | (refine wpList_load_run rfl 45 _ rfl ⟨w.heap.size, 0, none⟩ rfl hd0 ?_))
  refine (G.out).mono ?_
  rintro e w1 ⟨rfl, hb1⟩
  have hb2 : Below w.heap.size w w1 := HB0.out.trans (hb1.mono HB0.out.size)
  go_wp2_with fail
  go_ret2
  exact ⟨rfl, hb2⟩
set_option maxRecDepth 100000 in
set_option maxHeartbeats 8000000 in
theorem rmEnc_yes (m : Ml) (n : Int) {v : Value} {w : World} (hE : EsB w.heap.size w v m.es) (hmay : m.may n = true) :
    Calls Tryd.prog 17 #[m.v v, .int .i64 n] w (NumPost (.tuple #[.string ⟨m.enc.toArray⟩, .int .i64 0]) w) := by
  obtain ⟨w0, HW0⟩ : ∃ w0, Hid (w.alloc (.cells (m.cells v).toArray 45) = w0) := ⟨_, Lib.hid rfl⟩
  have hb0 : Below w.heap.size w w0 := by rw [← HW0.out]; exact (Below.refl _ _).alloc (Nat.le_refl _) _
  have X0 : MlBox w0 w.heap.size m v := by rw [← HW0.out]; exact MlBox.new _ _ _
  have G := Lib.hid (rmayml_any m n ((RdB.below hE hb0 (Nat.le_refl _)).mono hb0.size))
  have hd0 := X0.load
  have HP := Lib.hid (Ml.enc_parts m)
  have hes := Ml.may_es hmay
  have hii := Ml.may_ints hmay
  have HIH := Lib.hid hii.1
  have HIT := Lib.hid hii.2.2
  have HLH := Lib.hid (markL_len hii.1).2
  have HLT := Lib.hid (markL_len hii.2.2).2
  have HLE := Lib.hid (esL_bd hii.2.1 (by omega) m.es.length)
  rw [List.take_length] at HLE
  have HC2 := Lib.hid (fun X (hX : Below w.heap.size w X) => rentries_any (w := X) ((RdB.below hE hX (Nat.le_refl _)).mono hX.size) hii.2.1 (by omega))
  have HB0 := Lib.hid hb0
  obtain ⟨A, c, rfl, hlA, hmA, -⟩ := RdB.len hE
  unfold maxLen at hmA
  have h_r0 : w0.heap[w.heap.size]? = some (.cells (m.cells (.slice A m.es.length c)).toArray 45 (0, 0)) := X0
  rw [hmay] at G
  clear hE X0 hb0 hmay hii
  generalize m.enc = L at *
  obtain ⟨ki, fr, tt, st, ep, vi, ba, le, sp, es, ⟨oi, os, oe, ok, oa⟩, ai, ac, av⟩ := m
  simp only [Ml.v, Ml.cells, List.toArray, Ml.hd, Ml.tl, Od.l, List.cons_append, List.nil_append] at *
  obtain ⟨S1, HS1⟩ : ∃ S : ByteArray, Hid (S = ⟨(markL [ki, fr, tt, st, ep, vi, ba, le, sp]).toArray⟩) := ⟨_, Lib.hid rfl⟩
  obtain ⟨S2, HS2⟩ : ∃ S : ByteArray, Hid (S = ⟨(markL (esL es)).toArray⟩) := ⟨_, Lib.hid rfl⟩
  obtain ⟨S3, HS3⟩ : ∃ S : ByteArray, Hid (S = ⟨(markL [oi, os, oe, ok, oa, ai, ac, av]).toArray⟩) := ⟨_, Lib.hid rfl⟩
  have hs1 : S1.size ≤ 90 := by rw [str_len HS1.out]; have := HLH.out; simpa using this
  have hs2 : S2.size ≤ 20000 := by rw [str_len HS2.out]; exact HLE.out
  have hs3 : S3.size ≤ 80 := by rw [str_len HS3.out]; have := HLT.out; simpa using this
  have HC1 : Hid (∀ X g, X.heap[g]? = some (.cells #[.int .i64 ki, .int .i64 fr, .int .i64 tt, .int .i64 st, .int .i64 ep, .int .i64 vi, .int .i64 ba, .int .i64 le, .int .i64 sp] 3 (0, 0)) → Calls Tryd.prog 33 #[.slice (some ⟨g, 0, none⟩) 9 9] X (StrPost S1 X)) := Lib.hid fun X g h => by
    rw [HS1.out]
    exact rints_any (ns := [ki, fr, tt, st, ep, vi, ba, le, sp]) h HIH.out (by simp)
  have HC3 : Hid (∀ X g, X.heap[g]? = some (.cells #[.int .i64 oi, .int .i64 os, .int .i64 oe, .int .i64 ok, .int .i64 oa, .int .i64 ai, .int .i64 ac, .int .i64 av] 3 (0, 0)) → Calls Tryd.prog 33 #[.slice (some ⟨g, 0, none⟩) 8 8] X (StrPost S3 X)) := Lib.hid fun X g h => by
    rw [HS3.out]
    exact rints_any (ns := [oi, os, oe, ok, oa, ai, ac, av]) h HIT.out (by simp)
  rw [← HS2.out] at HC2
  unfold StrPost at HC1 HC2 HC3
  have hs12 : S1.size + S2.size ≤ 9223372036854775807 := by omega
  have hs12s : (S1 ++ S2).size = S1.size + S2.size := by simp
  have hs23 : (S1 ++ S2).size + S3.size ≤ 9223372036854775807 := by omega
  have RS1 : ∀ X, (Op.stringOp .add S1 S2).run Tryd.prog X = .ok (.string (S1 ++ S2)) X := fun X => run_string_add_sum X S1 S2 hs12
  have RS2 : ∀ X, (Op.stringOp .add (S1 ++ S2) S3).run Tryd.prog X = .ok (.string (S1 ++ S2 ++ S3)) X := fun X => run_string_add_sum X (S1 ++ S2) S3 hs23
  have hz12 : ¬ (S1.size + S2.size > 9223372036854775807) := by omega
  have hz23 : ¬ ((S1 ++ S2).size + S3.size > 9223372036854775807) := by omega
  have HEND : Hid (S1 ++ S2 ++ S3 = ⟨L.toArray⟩) := by
    show _ = _
    rw [HP.out, HS1.out, HS2.out, HS3.out, str_mk, str_mk, List.append_assoc]
  have HFS : Hid (∀ X : World, X.heap[w.heap.size]? = some (.cells #[.int .i64 ki, .int .i64 fr, .int .i64 tt, .int .i64 st, .int .i64 ep, .int .i64 vi, .int .i64 ba, .int .i64 le, .int .i64 sp, .slice A es.length c, .int .i64 oi, .int .i64 os, .int .i64 oe, .int .i64 ok, .int .i64 oa, .int .i64 ai, .int .i64 ac, .int .i64 av] 45 (0, 0)) → X.cell? ⟨w.heap.size, 10, none⟩ = some (.int .i64 oi) ∧ X.cell? ⟨w.heap.size, 11, none⟩ = some (.int .i64 os) ∧ X.cell? ⟨w.heap.size, 12, none⟩ = some (.int .i64 oe) ∧ X.cell? ⟨w.heap.size, 13, none⟩ = some (.int .i64 ok) ∧ X.cell? ⟨w.heap.size, 14, none⟩ = some (.int .i64 oa) ∧ X.cell? ⟨w.heap.size, 15, none⟩ = some (.int .i64 ai) ∧ X.cell? ⟨w.heap.size, 16, none⟩ = some (.int .i64 ac) ∧ X.cell? ⟨w.heap.size, 17, none⟩ = some (.int .i64 av)) := Lib.hid fun X h => by
    refine ⟨?_, ?_, ?_, ?_, ?_, ?_, ?_, ?_⟩ <;> (rw [Lib.cell_of_heap h]; rfl)
  have HX0 := Lib.hid h_r0
  clear h_r0 HP HLH HLT HLE HIH HIT HS1 HS2 HS3
  go_enter Tryd.func17, Tryd.ntmps17
  go_wp2_with (first | rw [HW0.out] | (refine wpList_load_run rfl 45 _ rfl ⟨w.heap.size, 0, none⟩ rfl hd0 ?_))
  refine (G.out).mono ?_
  rintro e w2 ⟨rfl, hb⟩
  have hB2 := keepB HB0.out hb
  have h_r2 := keepH hb HX0.out
  clear hb hd0 HX0 HB0 HW0 G
  go_upto_region 3 with fail
  go_cut [6, 7] (fun u6 u7 wx => ∃ gP gQ : Nat, u6 = .pointer (some ⟨gP, 0, none⟩) ∧ u7 = .pointer (some ⟨gQ, 0, none⟩) ∧ Hid (wx.heap[w.heap.size]? = some (.cells #[.int .i64 ki, .int .i64 fr, .int .i64 tt, .int .i64 st, .int .i64 ep, .int .i64 vi, .int .i64 ba, .int .i64 le, .int .i64 sp, .slice A es.length c, .int .i64 oi, .int .i64 os, .int .i64 oe, .int .i64 ok, .int .i64 oa, .int .i64 ai, .int .i64 ac, .int .i64 av] 45 (0, 0))) ∧ Hid (wx.heap[gP]? = some (.cells #[.int .i64 oi, .int .i64 os, .int .i64 oe, .int .i64 ok, .int .i64 oa] 28 (0, 0))) ∧ Hid (wx.heap[gQ]? = some (.cells #[.int .i64 ai, .int .i64 ac, .int .i64 av] 43 (0, 0))) ∧ Hid (Below w.heap.size w wx))
  case first =>
    have hW : Below w.heap.size w w2.drew := hB2.drew
    have hX : w2.drew.heap[w.heap.size]? = some (.cells #[.int .i64 ki, .int .i64 fr, .int .i64 tt, .int .i64 st, .int .i64 ep, .int .i64 vi, .int .i64 ba, .int .i64 le, .int .i64 sp, .slice A es.length c, .int .i64 oi, .int .i64 os, .int .i64 oe, .int .i64 ok, .int .i64 oa, .int .i64 ai, .int .i64 ac, .int .i64 av] 45 (0, 0)) := h_r2
    have hS' := HFS
    have hH := hS'.out _ hX
    clear HFS HC1 HC2 HC3 RS1 RS2 hs1 hs2 hs3 hs12 hs12s hs23 hz12 hz23 HEND
    refine wp_region_held_drew (S := fun X => X.cell? ⟨w.heap.size, 10, none⟩ = some (.int .i64 oi) ∧ X.cell? ⟨w.heap.size, 11, none⟩ = some (.int .i64 os) ∧ X.cell? ⟨w.heap.size, 12, none⟩ = some (.int .i64 oe) ∧ X.cell? ⟨w.heap.size, 13, none⟩ = some (.int .i64 ok) ∧ X.cell? ⟨w.heap.size, 14, none⟩ = some (.int .i64 oa) ∧ X.cell? ⟨w.heap.size, 15, none⟩ = some (.int .i64 ai) ∧ X.cell? ⟨w.heap.size, 16, none⟩ = some (.int .i64 ac) ∧ X.cell? ⟨w.heap.size, 17, none⟩ = some (.int .i64 av)) (by kernel_rfl) hH (fun hHeld => ?_)
    clear hH
    refine wpAnyH_take (i := 0) (v := ?_) rfl (by kernel_rfl) (by kernel_rfl) (by kernel_rfl) (fun _ _ _ h => h) (Or.inl ⟨by rfl, ?_⟩) (by assumption) ?_
    rotate_left
    · intro X hX
      go_simp
      try with_reducible rfl
    try simp only [List.getElem_toArray, List.getElem_cons_zero]
    try simp only [Act.put, List.setIfInBounds_toArray, List.set_cons_zero, List.set_cons_succ]
    refine wpAnyH_take (i := 1) (v := .agg #[.int .i64 oi, .int .i64 os, .int .i64 oe, .int .i64 ok, .int .i64 oa]) rfl (by kernel_rfl) (by kernel_rfl) (by kernel_rfl) (fun _ _ _ h => h) (Or.inl ⟨by rfl, ?_⟩) (by assumption) ?_
    · intro X hX
      obtain ⟨c10, c11, c12, c13, c14, c15, c16, c17⟩ := hX
      go_simp
    try simp only [List.getElem_toArray, List.getElem_cons_succ, List.getElem_cons_zero]
    try simp only [Act.put, List.setIfInBounds_toArray, List.set_cons_zero, List.set_cons_succ]
    refine wpAnyH_take (i := 2) (v := ?_) rfl (by kernel_rfl) (by kernel_rfl) (by kernel_rfl) (fun _ _ _ h => h) (Or.inl ⟨by rfl, ?_⟩) (by assumption) ?_
    rotate_left
    · intro X hX
      go_simp
      try with_reducible rfl
    try simp only [List.getElem_toArray, List.getElem_cons_succ, List.getElem_cons_zero]
    try simp only [Act.put, List.setIfInBounds_toArray, List.set_cons_zero, List.set_cons_succ]
    refine wpAnyH_take (i := 3) (v := .agg #[.int .i64 ai, .int .i64 ac, .int .i64 av]) rfl (by kernel_rfl) (by kernel_rfl) (by kernel_rfl) (fun _ _ _ h => h) (Or.inl ⟨by rfl, ?_⟩) (by assumption) ?_
    · intro X hX
      obtain ⟨c10, c11, c12, c13, c14, c15, c16, c17⟩ := hX
      go_simp
    try simp only [List.getElem_toArray, List.getElem_cons_succ, List.getElem_cons_zero]
    try simp only [Act.put, List.setIfInBounds_toArray, List.set_cons_zero, List.set_cons_succ]
    refine wpAnyH_ready (rs := [4,5]) (by kernel_rfl) (by simp) (AllReadyH.cons rfl (fun K hK => ?_) (AllReadyH.cons rfl (fun K hK => ?_) AllReadyH.nil))
    · refine step_alloc_new rfl 28 rfl #[.int .i64 0, .int .i64 0, .int .i64 0, .int .i64 0, .int .i64 0] (fun X => alloc_or X) ?_
      intro gP wn hP hgP hb
      have hLP : w.heap.size < gP := Nat.lt_of_lt_of_le (heap_lt hX) hgP
      replace hX := keepH hb hX
      replace hW := keepB hW hb
      clear hb hgP
      have hH := hS'.out _ hX
      refine hK.out _ _ ?_ (fun hHeld => ?_)
      · with_reducible exact hH
      clear hK K hH
      try simp only [List.getElem_toArray, List.getElem_cons_succ, List.getElem_cons_zero]
      try simp only [Act.put, List.setIfInBounds_toArray, List.set_cons_zero, List.set_cons_succ]
      refine wpAnyH_ready (rs := [5]) (by kernel_rfl) (by simp) (AllReadyH.cons rfl (fun K hK => ?_) AllReadyH.nil)
      · refine step_alloc_new rfl 43 rfl #[.int .i64 0, .int .i64 0, .int .i64 0] (fun X => alloc_an X) ?_
        intro gQ wn hQ hgQ hb
        have hLQ : w.heap.size < gQ := Nat.lt_of_lt_of_le (heap_lt hX) hgQ
        have hPQ : gP ≠ gQ := by have := heap_lt hP; omega
        replace hX := keepH hb hX
        replace hW := keepB hW hb
        replace hP := keepH hb hP
        clear hb hgQ
        have hH := hS'.out _ hX
        refine hK.out _ _ ?_ (fun hHeld => ?_)
        · with_reducible exact hH
        clear hK K hH
        try simp only [List.getElem_toArray, List.getElem_cons_succ, List.getElem_cons_zero]
        try simp only [Act.put, List.setIfInBounds_toArray, List.set_cons_zero, List.set_cons_succ]
        refine wpAnyH_ready (rs := [6]) (by kernel_rfl) (by simp) (AllReadyH.cons rfl (fun K hK => ?_) AllReadyH.nil)
        · obtain ⟨wm, hr, hN, hO, hBl⟩ := store_or (cs' := #[.int .i64 oi, .int .i64 os, .int .i64 oe, .int .i64 ok, .int .i64 oa]) hP rfl (by simp [Value.oneCell'])
          refine step_store_known rfl 28 _ _ rfl ⟨gP, 0, none⟩ (.agg #[.int .i64 oi, .int .i64 os, .int .i64 oe, .int .i64 ok, .int .i64 oa]) (by simp [Act.eval]) (by simp [Act.eval]) hr ?_
          replace hX := hO _ _ hX (by omega)
          replace hQ := hO _ _ hQ (by omega)
          replace hW := hBl _ _ hW (by omega)
          clear hP hr hO hBl
          have hP := hN
          clear hN
          have hH := hS'.out _ hX
          refine hK.out _ _ ?_ (fun hHeld => ?_)
          · with_reducible exact hH
          clear hK K hH
          try simp only [List.getElem_toArray, List.getElem_cons_succ, List.getElem_cons_zero]
          try simp only [Act.put]
          refine wpAnyH_ready (rs := [7]) (by kernel_rfl) (by simp) (AllReadyH.cons rfl (fun K hK => ?_) AllReadyH.nil)
          · obtain ⟨wm, hr, hN, hO, hBl⟩ := store_an (cs' := #[.int .i64 ai, .int .i64 ac, .int .i64 av]) hQ rfl (by simp [Value.oneCell'])
            refine step_store_known rfl 43 _ _ rfl ⟨gQ, 0, none⟩ (.agg #[.int .i64 ai, .int .i64 ac, .int .i64 av]) (by simp [Act.eval]) (by simp [Act.eval]) hr ?_
            replace hX := hO _ _ hX (by omega)
            replace hP := hO _ _ hP (by omega)
            replace hW := hBl _ _ hW (by omega)
            clear hQ hr hO hBl
            have hQ := hN
            clear hN
            have hH := hS'.out _ hX
            refine hK.out _ _ ?_ (fun hHeld => ?_)
            · with_reducible exact hH
            clear hK K hH
            try simp only [List.getElem_toArray, List.getElem_cons_succ, List.getElem_cons_zero]
            try simp only [Act.put]
            refine wpAnyH_done (by kernel_rfl) ?_ _
            go_wp2_with fail
            go_meet
            case rel => exact ⟨gP, gQ, rfl, rfl, Lib.hid hX, Lib.hid hP, Lib.hid hQ, Lib.hid hW⟩
    · refine step_alloc_new rfl 43 rfl #[.int .i64 0, .int .i64 0, .int .i64 0] (fun X => alloc_an X) ?_
      intro gQ wn hQ hgQ hb
      have hLQ : w.heap.size < gQ := Nat.lt_of_lt_of_le (heap_lt hX) hgQ
      replace hX := keepH hb hX
      replace hW := keepB hW hb
      clear hb hgQ
      have hH := hS'.out _ hX
      refine hK.out _ _ ?_ (fun hHeld => ?_)
      · with_reducible exact hH
      clear hK K hH
      try simp only [List.getElem_toArray, List.getElem_cons_succ, List.getElem_cons_zero]
      try simp only [Act.put, List.setIfInBounds_toArray, List.set_cons_zero, List.set_cons_succ]
      refine wpAnyH_ready (rs := [4]) (by kernel_rfl) (by simp) (AllReadyH.cons rfl (fun K hK => ?_) AllReadyH.nil)
      · refine step_alloc_new rfl 28 rfl #[.int .i64 0, .int .i64 0, .int .i64 0, .int .i64 0, .int .i64 0] (fun X => alloc_or X) ?_
        intro gP wn hP hgP hb
        have hLP : w.heap.size < gP := Nat.lt_of_lt_of_le (heap_lt hX) hgP
        have hPQ : gP ≠ gQ := by have := heap_lt hQ; omega
        replace hX := keepH hb hX
        replace hW := keepB hW hb
        replace hQ := keepH hb hQ
        clear hb hgP
        have hH := hS'.out _ hX
        refine hK.out _ _ ?_ (fun hHeld => ?_)
        · with_reducible exact hH
        clear hK K hH
        try simp only [List.getElem_toArray, List.getElem_cons_succ, List.getElem_cons_zero]
        try simp only [Act.put, List.setIfInBounds_toArray, List.set_cons_zero, List.set_cons_succ]
        refine wpAnyH_ready (rs := [6]) (by kernel_rfl) (by simp) (AllReadyH.cons rfl (fun K hK => ?_) AllReadyH.nil)
        · obtain ⟨wm, hr, hN, hO, hBl⟩ := store_or (cs' := #[.int .i64 oi, .int .i64 os, .int .i64 oe, .int .i64 ok, .int .i64 oa]) hP rfl (by simp [Value.oneCell'])
          refine step_store_known rfl 28 _ _ rfl ⟨gP, 0, none⟩ (.agg #[.int .i64 oi, .int .i64 os, .int .i64 oe, .int .i64 ok, .int .i64 oa]) (by simp [Act.eval]) (by simp [Act.eval]) hr ?_
          replace hX := hO _ _ hX (by omega)
          replace hQ := hO _ _ hQ (by omega)
          replace hW := hBl _ _ hW (by omega)
          clear hP hr hO hBl
          have hP := hN
          clear hN
          have hH := hS'.out _ hX
          refine hK.out _ _ ?_ (fun hHeld => ?_)
          · with_reducible exact hH
          clear hK K hH
          try simp only [List.getElem_toArray, List.getElem_cons_succ, List.getElem_cons_zero]
          try simp only [Act.put]
          refine wpAnyH_ready (rs := [7]) (by kernel_rfl) (by simp) (AllReadyH.cons rfl (fun K hK => ?_) AllReadyH.nil)
          · obtain ⟨wm, hr, hN, hO, hBl⟩ := store_an (cs' := #[.int .i64 ai, .int .i64 ac, .int .i64 av]) hQ rfl (by simp [Value.oneCell'])
            refine step_store_known rfl 43 _ _ rfl ⟨gQ, 0, none⟩ (.agg #[.int .i64 ai, .int .i64 ac, .int .i64 av]) (by simp [Act.eval]) (by simp [Act.eval]) hr ?_
            replace hX := hO _ _ hX (by omega)
            replace hP := hO _ _ hP (by omega)
            replace hW := hBl _ _ hW (by omega)
            clear hQ hr hO hBl
            have hQ := hN
            clear hN
            have hH := hS'.out _ hX
            refine hK.out _ _ ?_ (fun hHeld => ?_)
            · with_reducible exact hH
            clear hK K hH
            try simp only [List.getElem_toArray, List.getElem_cons_succ, List.getElem_cons_zero]
            try simp only [Act.put]
            refine wpAnyH_done (by kernel_rfl) ?_ _
            go_wp2_with fail
            go_meet
            case rel => exact ⟨gP, gQ, rfl, rfl, Lib.hid hX, Lib.hid hP, Lib.hid hQ, Lib.hid hW⟩
  case rest =>
  obtain ⟨gP, gQ, rfl, rfl, hXc, hPc, hQc, hWc⟩ := hcut
  obtain ⟨w3, he⟩ : ∃ W : World, W = wc := ⟨_, rfl⟩
  subst he
  clear HFS h_r2 hB2
  have d0 : w3.cell? ⟨w.heap.size, 0, none⟩ = some (.int .i64 ki) := (by rw [Lib.cell_of_heap hXc.out]; rfl)
  have d1 : w3.cell? ⟨w.heap.size, 1, none⟩ = some (.int .i64 fr) := (by rw [Lib.cell_of_heap hXc.out]; rfl)
  have d2 : w3.cell? ⟨w.heap.size, 2, none⟩ = some (.int .i64 tt) := (by rw [Lib.cell_of_heap hXc.out]; rfl)
  have d3 : w3.cell? ⟨w.heap.size, 3, none⟩ = some (.int .i64 st) := (by rw [Lib.cell_of_heap hXc.out]; rfl)
  have d4 : w3.cell? ⟨w.heap.size, 4, none⟩ = some (.int .i64 ep) := (by rw [Lib.cell_of_heap hXc.out]; rfl)
  have d5 : w3.cell? ⟨w.heap.size, 5, none⟩ = some (.int .i64 vi) := (by rw [Lib.cell_of_heap hXc.out]; rfl)
  have d6 : w3.cell? ⟨w.heap.size, 6, none⟩ = some (.int .i64 ba) := (by rw [Lib.cell_of_heap hXc.out]; rfl)
  have d7 : w3.cell? ⟨w.heap.size, 7, none⟩ = some (.int .i64 le) := (by rw [Lib.cell_of_heap hXc.out]; rfl)
  have d8 : w3.cell? ⟨w.heap.size, 8, none⟩ = some (.int .i64 sp) := (by rw [Lib.cell_of_heap hXc.out]; rfl)
  go_wp2_with fail
  refine (HC1.out _ _ (heap_alloc_new _ _)).mono ?_
  rintro e w4 ⟨rfl, hb⟩
  replace hb : Below w3.heap.size w3 w4 := ((Below.refl _ _).alloc (Nat.le_refl _) _).trans (hb.mono (by simp))
  have hB4 := keepB hWc.out hb
  have hX4 := keepH hb hXc.out
  have hP4 := keepH hb hPc.out
  have hQ4 := keepH hb hQc.out
  clear hb hXc hPc hQc hWc d0 d1 d2 d3 d4 d5 d6 d7 d8
  have d9 : w4.cell? ⟨w.heap.size, 9, none⟩ = some (.slice A es.length c) := (by rw [Lib.cell_of_heap hX4]; rfl)
  go_wp2_with fail
  refine (HC2.out _ hB4).mono ?_
  rintro e w5 ⟨rfl, hb⟩
  have hB5 := keepB hB4 hb
  have hP5 := keepH hb hP4
  have hQ5 := keepH hb hQ4
  clear hb hX4 hP4 hQ4 d9 HC1
  have p0 : w5.cell? ⟨gP, 0, none⟩ = some (.int .i64 oi) := (by rw [Lib.cell_of_heap hP5]; rfl)
  have p1 : w5.cell? ⟨gP, 1, none⟩ = some (.int .i64 os) := (by rw [Lib.cell_of_heap hP5]; rfl)
  have p2 : w5.cell? ⟨gP, 2, none⟩ = some (.int .i64 oe) := (by rw [Lib.cell_of_heap hP5]; rfl)
  have p3 : w5.cell? ⟨gP, 3, none⟩ = some (.int .i64 ok) := (by rw [Lib.cell_of_heap hP5]; rfl)
  have p4 : w5.cell? ⟨gP, 4, none⟩ = some (.int .i64 oa) := (by rw [Lib.cell_of_heap hP5]; rfl)
  have q0 : w5.cell? ⟨gQ, 0, none⟩ = some (.int .i64 ai) := (by rw [Lib.cell_of_heap hQ5]; rfl)
  have q1 : w5.cell? ⟨gQ, 1, none⟩ = some (.int .i64 ac) := (by rw [Lib.cell_of_heap hQ5]; rfl)
  have q2 : w5.cell? ⟨gQ, 2, none⟩ = some (.int .i64 av) := (by rw [Lib.cell_of_heap hQ5]; rfl)
  go_wp2_with fail
  refine (HC3.out _ _ (heap_alloc_new _ _)).mono ?_
  rintro e w6 ⟨rfl, hb⟩
  replace hb : Below w5.heap.size w5 w6 := ((Below.refl _ _).alloc (Nat.le_refl _) _).trans (hb.mono (by simp))
  have hB6 := keepB hB5 hb
  clear hb
  go_wp2_with fail
  go_ret2
  exact ⟨by rw [← HEND.out]; rfl, hB6⟩
theorem rmEnc_any (m : Ml) (n : Int) {v : Value} {w : World} (hE : EsB w.heap.size w v m.es) :
    Calls Tryd.prog 17 #[m.v v, .int .i64 n] w (NumPost (m.encR n) w) := by
  unfold Ml.encR
  cases hmay : m.may n
  · exact rmEnc_no m n hE hmay
  · exact rmEnc_yes m n hE hmay
end Go.Proofs.YtkdnhfeamibmdaaDoor
namespace Go.Proofs.YtkdnhfeamibmdaaDoor.mailEncodeW
open Go.RowKit Go.Sort
/-- A load whose run is known in every world of the class. -/
theorem quiet_load {P : Program} {C : World → Prop} {a : Act} {o : Oper} {K : Act → Prop} (ty : TypeId) (x : Operand) (h : o.op = .load ty x) (ad : Addr) (hx : a.eval x = .pointer (some ad)) (v : Value)
    (hr : ∀ w, C w → (loadVar ty ad).run P w = .ok v w) (hk : K (a.put o.dst v)) : o.quiet P a C K :=
  ⟨v, fun w hw => by
    unfold Oper.quietAt execOp
    simp only [h, hx, Instr.loadAt, Instr.sureAddr, Sem.run_bind, Sem.run_pure, Result.andThen_ok, hr w hw]
    exact ⟨rfl, rfl⟩, hk⟩
set_option maxRecDepth 100000 in
set_option maxHeartbeats 16000000 in
theorem walk (m : Ml) (A : Option Addr) (c : Nat) (n : Int) (w : World) (hA : AskM w) (hE : EsB w.heap.size w (.slice A m.es.length c) m.es) (_ : m.ints) (_ : (Lit.int .i64 n).wf) :
    Calls Tryd.prog 5 #[m.v (.slice A m.es.length c), .int .i64 n] w fun e w' => e = .returned (.bool true) ∧ Below w.heap.size w w' := by
  have hlen : m.es.length ≤ c ∧ c ≤ 9223372036854775807 := by
    obtain ⟨_, _, hv, h1, h2, -⟩ := RdB.len hE
    injection hv with e1 e2 e3
    subst e1 e3
    unfold maxLen at h2
    omega
  have HLE := Lib.hid (fun X (hX : Below w.heap.size w X) => (RdB.below hE hX (Nat.le_refl _) : EsB _ X (.slice A m.es.length c) m.es))
  have HAK := Lib.hid (fun X (hX : Below w.heap.size w X) => hA.keep hX)
  have HWK := Lib.hid (fun X (hX : Below w.heap.size w X) => mlWorks_any (HAK.out X hX))
  have HEN := Lib.hid (fun X (hX : Below w.heap.size w X) {A' : Option Addr} {c' : Nat} (h1 : EsB X.heap.size X (.slice A' m.es.length c') m.es) (hn : m.es.length ≤ 500) => mlEncode_any m n A' c' (HAK.out X hX) h1 (by omega))
  have HCK := Lib.hid (fun X (hX : Below w.heap.size w X) {A' : Option Addr} {c' : Nat} (h1 : EsB X.heap.size X (.slice A' m.es.length c') m.es) (hn : m.es.length ≤ 500) => mlCheck_any m n A' c' (HAK.out X hX) h1 (Nat.le_refl _) (by omega))
  have HRE := Lib.hid (fun X {v : Value} (h1 : EsB X.heap.size X v m.es) => rmEnc_any m n h1)
  have HRC := Lib.hid (fun X {v : Value} (h1 : EsB X.heap.size X v m.es) => rcheckml_any m n h1)
  have HSM := Lib.hid (fun X {A' A'' : Option Addr} {c' c'' : Nat} (h1 : EsB X.heap.size X (.slice A' m.es.length c') m.es) (h2 : EsB X.heap.size X (.slice A'' m.es.length c'') m.es) => sameMail_any m h1 h2 (Nat.le_refl _) (Nat.le_refl _))
  have HM : Hid (∃ (S : ByteArray) (er : Int), m.encR n = .tuple #[.string S, .int .i64 er]) := by
    show ∃ _ _, _
    unfold Ml.encR
    cases m.may n
    · exact ⟨_, _, rfl⟩
    · exact ⟨_, _, rfl⟩
  obtain ⟨S, er, hM⟩ := HM.out
  clear hE hA HM
  generalize m.encR n = ER at *
  subst hM
  generalize m.err n = ec at *
  obtain ⟨ki, fr, tt, st, ep, vi, ba, le, sp, es, ⟨oi, ot, oe, ok, oa⟩, ai, ac, av⟩ := m
  simp only [Ml.v, Ml.cells, List.toArray] at *
  obtain ⟨w1, HX1⟩ : ∃ W : World, Hid (W = w.alloc (.cells #[.int .i64 ki, .int .i64 fr, .int .i64 tt, .int .i64 st, .int .i64 ep, .int .i64 vi, .int .i64 ba, .int .i64 le, .int .i64 sp, .slice A es.length c, .int .i64 oi, .int .i64 ot, .int .i64 oe, .int .i64 ok, .int .i64 oa, .int .i64 ai, .int .i64 ac, .int .i64 av] 45)) := ⟨_, Lib.hid rfl⟩
  have h_r1 : w1.heap[w.heap.size]? = some (.cells #[.int .i64 ki, .int .i64 fr, .int .i64 tt, .int .i64 st, .int .i64 ep, .int .i64 vi, .int .i64 ba, .int .i64 le, .int .i64 sp, .slice A es.length c, .int .i64 oi, .int .i64 ot, .int .i64 oe, .int .i64 ok, .int .i64 oa, .int .i64 ai, .int .i64 ac, .int .i64 av] 45 (0, 0)) := by rw [HX1.out]; exact heap_alloc_new _ _
  have hB1 : Below w.heap.size w w1 := by rw [HX1.out]; exact (Below.refl _ _).alloc (Nat.le_refl _) _
  have hz01 : w.heap.size < w1.heap.size := heap_lt h_r1
  have d9 := cell_at (i := 9) h_r1 rfl
  obtain ⟨hl1, hl2⟩ := hlen
  by_cases hgr : 500 < es.length
  · have t : decide (500 < (es.length : Int)) = true := decide_eq_true (by omega)
    clear HEN HCK HRE HRC HWK HLE HAK HSM
    go_enter Tryd.func5, Tryd.ntmps5
    go_wp2_with (rw [← HX1.out])
    go_ret
    exact ⟨rfl, hB1⟩
  have t : decide (500 < (es.length : Int)) = false := decide_eq_false (by omega)
  replace hgr : es.length ≤ 500 := by omega
  have hwr1 : IntKind.i64.wrap ((es.length : Int) + 1) = (es.length : Int) + 1 := IntWalk.i64_in _ (by omega)
  have HLD1 := Lib.hid (run_loadVar_row (P := Tryd.prog) w1 w.heap.size 45 _ #[.int .i64 ki, .int .i64 fr, .int .i64 tt, .int .i64 st, .int .i64 ep, .int .i64 vi, .int .i64 ba, .int .i64 le, .int .i64 sp, .slice A es.length c, .int .i64 oi, .int .i64 ot, .int .i64 oe, .int .i64 ok, .int .i64 oa, .int .i64 ai, .int .i64 ac, .int .i64 av] _ _ h_r1 Tryd.underlying45 rfl (by kernel_rfl))
  go_enter Tryd.func5, Tryd.ntmps5
  go_upto_region 3 with (rw [← HX1.out])
  obtain ⟨w2, HX2⟩ : ∃ W : World, Hid (W = w1.alloc (.cells #[.int .i64 ki, .int .i64 fr, .int .i64 tt, .int .i64 st, .int .i64 ep, .int .i64 vi, .int .i64 ba, .int .i64 le, .int .i64 sp, .slice A es.length c, .int .i64 oi, .int .i64 ot, .int .i64 oe, .int .i64 ok, .int .i64 oa, .int .i64 ai, .int .i64 ac, .int .i64 av] 45)) := ⟨_, Lib.hid rfl⟩
  have h_t2 : w2.heap[w1.heap.size]? = some (.cells #[.int .i64 ki, .int .i64 fr, .int .i64 tt, .int .i64 st, .int .i64 ep, .int .i64 vi, .int .i64 ba, .int .i64 le, .int .i64 sp, .slice A es.length c, .int .i64 oi, .int .i64 ot, .int .i64 oe, .int .i64 ok, .int .i64 oa, .int .i64 ai, .int .i64 ac, .int .i64 av] 45 (0, 0)) := by rw [HX2.out]; exact heap_alloc_new _ _
  have hb12 : Below w1.heap.size w1 w2 := by rw [HX2.out]; exact (Below.refl _ _).alloc (Nat.le_refl _) _
  have h_r2 := keepH hb12 h_r1
  obtain ⟨w0, HZ0⟩ : ∃ W : World, Hid (w1.alloc (.cells #[.int .i64 0, .int .i64 0, .int .i64 0, .int .i64 0, .int .i64 0, .int .i64 0, .int .i64 0, .int .i64 0, .int .i64 0, .slice none 0 0, .int .i64 0, .int .i64 0, .int .i64 0, .int .i64 0, .int .i64 0, .int .i64 0, .int .i64 0, .int .i64 0] 45) = W) := ⟨_, Lib.hid rfl⟩
  have h_z0 : w0.heap[w1.heap.size]? = some (.cells #[.int .i64 0, .int .i64 0, .int .i64 0, .int .i64 0, .int .i64 0, .int .i64 0, .int .i64 0, .int .i64 0, .int .i64 0, .slice none 0 0, .int .i64 0, .int .i64 0, .int .i64 0, .int .i64 0, .int .i64 0, .int .i64 0, .int .i64 0, .int .i64 0] 45 (0, 0)) := by rw [← HZ0.out]; exact heap_alloc_new _ _
  have HS0 : Hid ((storeVar 45 ⟨w1.heap.size, 0, none⟩ (.agg #[.int .i64 ki, .int .i64 fr, .int .i64 tt, .int .i64 st, .int .i64 ep, .int .i64 vi, .int .i64 ba, .int .i64 le, .int .i64 sp, .slice A es.length c, .int .i64 oi, .int .i64 ot, .int .i64 oe, .int .i64 ok, .int .i64 oa, .int .i64 ai, .int .i64 ac, .int .i64 av])).run Tryd.prog w0 = .ok () w2) := Lib.hid (by
    rw [← HZ0.out, HX2.out]
    exact run_storeVar_new w1 45 #[.int .i64 0, .int .i64 0, .int .i64 0, .int .i64 0, .int .i64 0, .int .i64 0, .int .i64 0, .int .i64 0, .int .i64 0, .slice none 0 0, .int .i64 0, .int .i64 0, .int .i64 0, .int .i64 0, .int .i64 0, .int .i64 0, .int .i64 0, .int .i64 0] #[.int .i64 ki, .int .i64 fr, .int .i64 tt, .int .i64 st, .int .i64 ep, .int .i64 vi, .int .i64 ba, .int .i64 le, .int .i64 sp, .slice A es.length c, .int .i64 oi, .int .i64 ot, .int .i64 oe, .int .i64 ok, .int .i64 oa, .int .i64 ai, .int .i64 ac, .int .i64 av] (by kernel_rfl) rfl (by simp [Value.oneCell']))
  go_upto_region 4 with (first | (with_reducible refine wpList_load_run (by rfl) 45 _ (by rfl) ⟨w.heap.size, 0, none⟩ (by with_unfolding_all rfl) HLD1.out ?_) | rw [HZ0.out] | (with_reducible refine wpList_store_known (by rfl) 45 _ _ (by rfl) ⟨w1.heap.size, 0, none⟩ _ (by with_unfolding_all rfl) (by with_unfolding_all rfl) HS0.out ?_))
  clear d9 h_r1 HX2 HX1 HLD1 HS0 HZ0 h_z0
  have d9 := cell_at (i := 9) h_r2 rfl
  have HFS : Hid (∀ X : World, X.heap[w.heap.size]? = some (.cells #[.int .i64 ki, .int .i64 fr, .int .i64 tt, .int .i64 st, .int .i64 ep, .int .i64 vi, .int .i64 ba, .int .i64 le, .int .i64 sp, .slice A es.length c, .int .i64 oi, .int .i64 ot, .int .i64 oe, .int .i64 ok, .int .i64 oa, .int .i64 ai, .int .i64 ac, .int .i64 av] 45 (0, 0)) → X.cell? ⟨w.heap.size, 9, none⟩ = some (.slice A es.length c)) := Lib.hid fun X h => cell_at h rfl
  simp only [Act.put]
  go_cut [] (fun wx => ∃ (g2 c2 : Nat), Hid (wx.heap[w.heap.size]? = some (.cells #[.int .i64 ki, .int .i64 fr, .int .i64 tt, .int .i64 st, .int .i64 ep, .int .i64 vi, .int .i64 ba, .int .i64 le, .int .i64 sp, .slice A es.length c, .int .i64 oi, .int .i64 ot, .int .i64 oe, .int .i64 ok, .int .i64 oa, .int .i64 ai, .int .i64 ac, .int .i64 av] 45 (0, 0))) ∧ Hid (wx.heap[w1.heap.size]? = some (.cells #[.int .i64 ki, .int .i64 fr, .int .i64 tt, .int .i64 st, .int .i64 ep, .int .i64 vi, .int .i64 ba, .int .i64 le, .int .i64 sp, .slice (some ⟨g2, 0, none⟩) es.length c2, .int .i64 oi, .int .i64 ot, .int .i64 oe, .int .i64 ok, .int .i64 oa, .int .i64 ai, .int .i64 ac, .int .i64 av] 45 (0, 0))) ∧ Hid (TwE (w1.heap.size + 1) wx g2 c2 es) ∧ Hid (Below w1.heap.size w1 wx))
  case first =>
    have hW : Below w1.heap.size w1 w2.drew := hb12.drew
    have hX : w2.drew.heap[w.heap.size]? = some (.cells #[.int .i64 ki, .int .i64 fr, .int .i64 tt, .int .i64 st, .int .i64 ep, .int .i64 vi, .int .i64 ba, .int .i64 le, .int .i64 sp, .slice A es.length c, .int .i64 oi, .int .i64 ot, .int .i64 oe, .int .i64 ok, .int .i64 oa, .int .i64 ai, .int .i64 ac, .int .i64 av] 45 (0, 0)) := h_r2
    have hT : w2.drew.heap[w1.heap.size]? = some (.cells #[.int .i64 ki, .int .i64 fr, .int .i64 tt, .int .i64 st, .int .i64 ep, .int .i64 vi, .int .i64 ba, .int .i64 le, .int .i64 sp, .slice A es.length c, .int .i64 oi, .int .i64 ot, .int .i64 oe, .int .i64 ok, .int .i64 oa, .int .i64 ai, .int .i64 ac, .int .i64 av] 45 (0, 0)) := h_t2
    have hS' := HFS
    have hH := hS'.out _ hX
    clear HFS d9 HEN HCK HRE HRC HWK HAK HSM h_r2 h_t2
    refine wp_region_held_drew (S := fun X => X.cell? ⟨w.heap.size, 9, none⟩ = some (.slice A es.length c)) (by kernel_rfl) hH (fun hHeld => ?_)
    clear hH
    refine wpAnyH_take (i := 0) (v := ?_) rfl (by kernel_rfl) (by kernel_rfl) (by kernel_rfl) (fun _ _ _ h => h) (Or.inl ⟨by rfl, ?_⟩) (by assumption) ?_
    rotate_left
    · intro X hX
      go_simp
      try with_reducible rfl
    try simp only [List.getElem_toArray, List.getElem_cons_zero]
    try simp only [Act.put, List.setIfInBounds_toArray, List.set_cons_zero, List.set_cons_succ]
    refine wpAnyH_take (i := 1) (v := .slice A es.length c) rfl (by kernel_rfl) (by kernel_rfl) (by kernel_rfl) (fun _ _ _ h => h) (Or.inl ⟨by rfl, ?_⟩) (by assumption) ?_
    · intro X hX
      obtain c9 := hX
      go_simp
    try simp only [List.getElem_toArray, List.getElem_cons_succ, List.getElem_cons_zero]
    try simp only [Act.put, List.setIfInBounds_toArray, List.set_cons_zero, List.set_cons_succ]
    refine wpAnyH_take (i := 2) (v := ?_) rfl (by kernel_rfl) (by kernel_rfl) (by kernel_rfl) (fun _ _ _ h => h) (Or.inl ⟨by rfl, ?_⟩) (by assumption) ?_
    rotate_left
    · intro X hX
      go_simp
      try with_reducible rfl
    try simp only [List.getElem_toArray, List.getElem_cons_succ, List.getElem_cons_zero]
    try simp only [Act.put, List.setIfInBounds_toArray, List.set_cons_zero, List.set_cons_succ]
    refine wpAnyH_take (i := 3) (v := ?_) rfl (by kernel_rfl) (by kernel_rfl) (by kernel_rfl) (fun _ _ _ h => h) (Or.inl ⟨by rfl, ?_⟩) (by assumption) ?_
    rotate_left
    · intro X hX
      go_simp
      try with_reducible rfl
    try simp only [List.getElem_toArray, List.getElem_cons_succ, List.getElem_cons_zero]
    try simp only [Act.put, List.setIfInBounds_toArray, List.set_cons_zero, List.set_cons_succ]
    refine wpAnyH_take (i := 5) (v := ?_) rfl (by kernel_rfl) (by kernel_rfl) (by kernel_rfl) (fun _ _ _ h => h) (Or.inl ⟨by rfl, ?_⟩) (by assumption) ?_
    rotate_left
    · intro X hX
      go_simp
      try with_reducible rfl
    try simp only [List.getElem_toArray, List.getElem_cons_succ, List.getElem_cons_zero]
    try simp only [Act.put, List.setIfInBounds_toArray, List.set_cons_zero, List.set_cons_succ]
    refine wpAnyH_take (i := 6) (v := .slice A es.length c) rfl (by kernel_rfl) (by kernel_rfl) (by kernel_rfl) (fun _ _ _ h => h) (Or.inl ⟨by rfl, ?_⟩) (by assumption) ?_
    · intro X hX
      obtain c9 := hX
      go_simp
    try simp only [List.getElem_toArray, List.getElem_cons_succ, List.getElem_cons_zero]
    try simp only [Act.put, List.setIfInBounds_toArray, List.set_cons_zero, List.set_cons_succ]
    refine wpAnyH_take (i := 8) (v := ?_) rfl (by kernel_rfl) (by kernel_rfl) (by kernel_rfl) (fun _ _ _ h => h) (Or.inl ⟨by rfl, ?_⟩) (by assumption) ?_
    rotate_left
    · intro X hX
      go_simp
      try with_reducible rfl
    try simp only [List.getElem_toArray, List.getElem_cons_succ, List.getElem_cons_zero]
    try simp only [Act.put, List.setIfInBounds_toArray, List.set_cons_zero, List.set_cons_succ]
    refine wpAnyH_take (i := 11) (v := ?_) rfl (by kernel_rfl) (by kernel_rfl) (by kernel_rfl) (fun _ _ _ h => h) (Or.inl ⟨by rfl, ?_⟩) (by assumption) ?_
    rotate_left
    · intro X hX
      go_simp
      try with_reducible rfl
    try simp only [List.getElem_toArray, List.getElem_cons_succ, List.getElem_cons_zero]
    try simp only [Act.put, List.setIfInBounds_toArray, List.set_cons_zero, List.set_cons_succ]
    refine wpAnyH_take (i := 12) (v := .slice A es.length c) rfl (by kernel_rfl) (by kernel_rfl) (by kernel_rfl) (fun _ _ _ h => h) (Or.inl ⟨by rfl, ?_⟩) (by assumption) ?_
    · intro X hX
      obtain c9 := hX
      go_simp
    try simp only [List.getElem_toArray, List.getElem_cons_succ, List.getElem_cons_zero]
    try simp only [Act.put, List.setIfInBounds_toArray, List.set_cons_zero, List.set_cons_succ]
    refine wpAnyH_take (i := 13) (v := ?_) rfl (by kernel_rfl) (by kernel_rfl) (by kernel_rfl) (fun _ _ _ h => h) (Or.inl ⟨by rfl, ?_⟩) (by assumption) ?_
    rotate_left
    · intro X hX
      go_simp
      try with_reducible rfl
    try simp only [List.getElem_toArray, List.getElem_cons_succ, List.getElem_cons_zero]
    try simp only [Act.put, List.setIfInBounds_toArray, List.set_cons_zero, List.set_cons_succ]
    refine wpAnyH_ready (rs := [4,9]) (by kernel_rfl) (by simp) (AllReadyH.cons rfl (fun K hK => ?_) (AllReadyH.cons rfl (fun K hK => ?_) AllReadyH.nil))
    · refine step_make_new rfl 22 _ _ rfl (es.length + 1) (by simp [Act.eval]) (by simp [Act.eval]) (ezs (es.length + 1)) 30 (fun X => emade_run X (es.length + 1) (by omega)) ?_
      intro gA wn hA hgA hb
      replace hgA : w1.heap.size + 1 ≤ gA := Nat.le_trans (heap_lt hT) hgA
      replace hX := keepH hb hX
      replace hT := keepH hb hT
      replace hW := keepB hW hb
      clear hb
      have hH := hS'.out _ hX
      refine hK.out _ _ ?_ (fun hHeld => ?_)
      · with_reducible exact hH
      clear hK K hH
      try simp only [List.getElem_toArray, List.getElem_cons_succ, List.getElem_cons_zero]
      try simp only [Act.put, List.setIfInBounds_toArray, List.set_cons_zero, List.set_cons_succ]
      refine wpAnyH_ready (rs := [7,9]) (by kernel_rfl) (by simp) (AllReadyH.cons rfl (fun K hK => ?_) (AllReadyH.cons rfl (fun K hK => ?_) AllReadyH.nil))
      · obtain ⟨A1, ca1, wm, hr, hB, hg, -⟩ := run_append_es (emade_heap hA hgA (by omega)) (HLE.out _ (keepB hB1 hW)) (heap_lt hT) (by omega)
        simp only [Nat.zero_add, List.nil_append] at hr hB
        refine step_app_known rfl _ _ 22 22 rfl (.slice (some ⟨gA, 0, none⟩) 0 (es.length + 1)) (.slice A es.length c) (by simp [Act.eval]) (by simp [Act.eval]) hr ?_
        replace hX := keepG hg hX (fun e => by simp [Value.ownBlock] at e; omega)
        replace hT := keepG hg hT (fun e => by simp [Value.ownBlock] at e; omega)
        replace hW := hW.trans (below_grow (B := w1.heap.size) hg (fun q h1 e => by simp [Value.ownBlock] at e; omega) hW.size)
        clear hr hg hA hgA
        have hH := hS'.out _ hX
        refine hK.out _ _ ?_ (fun hHeld => ?_)
        · with_reducible exact hH
        clear hK K hH
        try simp only [List.getElem_toArray, List.getElem_cons_succ, List.getElem_cons_zero]
        try simp only [Act.put, List.setIfInBounds_toArray, List.set_cons_zero, List.set_cons_succ]
        refine wpAnyH_ready (rs := [9]) (by kernel_rfl) (by simp) (AllReadyH.cons rfl (fun K hK => ?_) AllReadyH.nil)
        · refine step_build_new rfl 22 1 _ #[(0, .agg #[.int .i64 (-70), .int .i64 0, .int .i64 0, .int .i64 0, .int .i64 0, .int .i64 0])] rfl (by simp [Act.eval]) #[.int .i64 (-70), .int .i64 0, .int .i64 0, .int .i64 0, .int .i64 0, .int .i64 0] 30 (fun X => bld70_run X) ?_
          intro gC wn hC hgC hb
          replace hX := keepH hb hX
          replace hT := keepH hb hT
          replace hW := keepB hW hb
          replace hB := keepR hb hB
          clear hb hgC
          have hH := hS'.out _ hX
          refine hK.out _ _ ?_ (fun hHeld => ?_)
          · with_reducible exact hH
          clear hK K hH
          try simp only [List.getElem_toArray, List.getElem_cons_succ, List.getElem_cons_zero]
          try simp only [Act.put, List.setIfInBounds_toArray, List.set_cons_zero, List.set_cons_succ]
          refine wpAnyH_ready (rs := [10]) (by kernel_rfl) (by simp) (AllReadyH.cons rfl (fun K hK => ?_) AllReadyH.nil)
          · obtain ⟨A2, ca2, wm, hr, hD, hg, -⟩ := run_append_es hB (es_heap (es := [e70]) hC (by simp [ecs, En.l, Od.l, e70]) (by simp)) (heap_lt hT) (by simp; omega)
            simp only [List.length_cons, List.length_nil, Nat.zero_add] at hr hD
            refine step_app_known rfl _ _ 22 22 rfl (.slice A1 es.length ca1) (.slice (some ⟨gC, 0, none⟩) 1 1) (by simp [Act.eval]) (by simp [Act.eval]) hr ?_
            replace hX := keepG hg hX (fun e => by have := (World.ownsRow.lt hB _ e).1; omega)
            replace hT := keepG hg hT (fun e => by have := (World.ownsRow.lt hB _ e).1; omega)
            replace hW := hW.trans (below_grow (B := w1.heap.size) hg (fun q h1 e => by have := (World.ownsRow.lt hB _ e).1; omega) hW.size)
            obtain ⟨g2, c2, hv, hTW⟩ := tw_own hD (by omega)
            injection hv with e1 _ e3
            subst e1
            obtain rfl : c2 = ca2 := e3.symm
            have hz1 : es.length ≤ c2 := by have := hTW.2.2.2.2.1; omega
            have hz2 : w1.heap.size + 1 ≤ g2 := hTW.2.2.1
            clear hr hg hB hC hD
            have hH := hS'.out _ hX
            refine hK.out _ _ ?_ (fun hHeld => ?_)
            · with_reducible exact hH
            clear hK K hH
            try simp only [List.getElem_toArray, List.getElem_cons_succ, List.getElem_cons_zero]
            try simp only [Act.put, List.setIfInBounds_toArray, List.set_cons_zero, List.set_cons_succ]
            refine wpAnyH_take (i := 14) (v := ?_) rfl (by kernel_rfl) (by kernel_rfl) (by kernel_rfl) (fun _ _ _ h => h) (Or.inl ⟨by rfl, ?_⟩) (by assumption) ?_
            rotate_left
            · intro X hX
              go_simp
              try with_reducible rfl
            try simp only [List.getElem_toArray, List.getElem_cons_succ, List.getElem_cons_zero]
            try simp only [Act.put, List.setIfInBounds_toArray, List.set_cons_zero, List.set_cons_succ]
            refine wpAnyH_take (i := 15) (v := ?_) rfl (by kernel_rfl) (by kernel_rfl) (by kernel_rfl) (fun _ _ _ h => h) (Or.inl ⟨by rfl, ?_⟩) (by assumption) ?_
            rotate_left
            · intro X hX
              go_simp
              try with_reducible rfl
            try simp only [List.getElem_toArray, List.getElem_cons_succ, List.getElem_cons_zero]
            try simp only [Act.put, List.setIfInBounds_toArray, List.set_cons_zero, List.set_cons_succ]
            refine wpAnyH_ready (rs := [16]) (by kernel_rfl) (by simp) (AllReadyH.cons rfl (fun K hK => ?_) AllReadyH.nil)
            · have q := cell_at (i := 9) hT rfl
              have fz := Lib.frozen_of_heap hT 9
              go_simp
              replace hX := set_else (a := ⟨w1.heap.size, 9, none⟩) (u := .slice (some ⟨g2, 0, none⟩) es.length c2) hX (by show _ ≠ w1.heap.size; omega)
              replace hT := heap_set (i := 9) (.slice (some ⟨g2, 0, none⟩) es.length c2) hT
              simp only [Array.set!_eq_setIfInBounds, List.setIfInBounds_toArray, List.set_cons_zero, List.set_cons_succ] at hT
              replace hTW := hTW.far (a := ⟨w1.heap.size, 9, none⟩) (u := .slice (some ⟨g2, 0, none⟩) es.length c2) (by show w1.heap.size < _; omega)
              replace hW := hW.setCell (p := ⟨w1.heap.size, 9, none⟩) (Nat.le_refl _) (.slice (some ⟨g2, 0, none⟩) es.length c2)
              clear q fz
              have hH := hS'.out _ hX
              refine hK.out _ _ ?_ (fun hHeld => ?_)
              · with_reducible exact hH
              clear hK K hH
              try simp only [List.getElem_toArray, List.getElem_cons_succ, List.getElem_cons_zero]
              try simp only [Act.put]
              refine wpAnyH_done (by kernel_rfl) ?_ _
              go_wp2_with fail
              go_meet
              case rel => exact ⟨g2, c2, Lib.hid hX, Lib.hid hT, Lib.hid hTW, Lib.hid hW⟩
      · refine step_build_new rfl 22 1 _ #[(0, .agg #[.int .i64 (-70), .int .i64 0, .int .i64 0, .int .i64 0, .int .i64 0, .int .i64 0])] rfl (by simp [Act.eval]) #[.int .i64 (-70), .int .i64 0, .int .i64 0, .int .i64 0, .int .i64 0, .int .i64 0] 30 (fun X => bld70_run X) ?_
        intro gC wn hC hgC hb
        have hAC : gC ≠ gA := by have := heap_lt hA; omega
        replace hX := keepH hb hX
        replace hT := keepH hb hT
        replace hW := keepB hW hb
        replace hA := keepH hb hA
        clear hb hgC
        have hH := hS'.out _ hX
        refine hK.out _ _ ?_ (fun hHeld => ?_)
        · with_reducible exact hH
        clear hK K hH
        try simp only [List.getElem_toArray, List.getElem_cons_succ, List.getElem_cons_zero]
        try simp only [Act.put, List.setIfInBounds_toArray, List.set_cons_zero, List.set_cons_succ]
        refine wpAnyH_ready (rs := [7]) (by kernel_rfl) (by simp) (AllReadyH.cons rfl (fun K hK => ?_) AllReadyH.nil)
        · obtain ⟨A1, ca1, wm, hr, hB, hg, -⟩ := run_append_es (emade_heap hA hgA (by omega)) (HLE.out _ (keepB hB1 hW)) (heap_lt hT) (by omega)
          simp only [Nat.zero_add, List.nil_append] at hr hB
          refine step_app_known rfl _ _ 22 22 rfl (.slice (some ⟨gA, 0, none⟩) 0 (es.length + 1)) (.slice A es.length c) (by simp [Act.eval]) (by simp [Act.eval]) hr ?_
          replace hC := keepG hg hC (fun e => by simp [Value.ownBlock] at e; omega)
          replace hX := keepG hg hX (fun e => by simp [Value.ownBlock] at e; omega)
          replace hT := keepG hg hT (fun e => by simp [Value.ownBlock] at e; omega)
          replace hW := hW.trans (below_grow (B := w1.heap.size) hg (fun q h1 e => by simp [Value.ownBlock] at e; omega) hW.size)
          clear hr hg hA hgA hAC
          have hH := hS'.out _ hX
          refine hK.out _ _ ?_ (fun hHeld => ?_)
          · with_reducible exact hH
          clear hK K hH
          try simp only [List.getElem_toArray, List.getElem_cons_succ, List.getElem_cons_zero]
          try simp only [Act.put, List.setIfInBounds_toArray, List.set_cons_zero, List.set_cons_succ]
          refine wpAnyH_ready (rs := [10]) (by kernel_rfl) (by simp) (AllReadyH.cons rfl (fun K hK => ?_) AllReadyH.nil)
          · obtain ⟨A2, ca2, wm, hr, hD, hg, -⟩ := run_append_es hB (es_heap (es := [e70]) hC (by simp [ecs, En.l, Od.l, e70]) (by simp)) (heap_lt hT) (by simp; omega)
            simp only [List.length_cons, List.length_nil, Nat.zero_add] at hr hD
            refine step_app_known rfl _ _ 22 22 rfl (.slice A1 es.length ca1) (.slice (some ⟨gC, 0, none⟩) 1 1) (by simp [Act.eval]) (by simp [Act.eval]) hr ?_
            replace hX := keepG hg hX (fun e => by have := (World.ownsRow.lt hB _ e).1; omega)
            replace hT := keepG hg hT (fun e => by have := (World.ownsRow.lt hB _ e).1; omega)
            replace hW := hW.trans (below_grow (B := w1.heap.size) hg (fun q h1 e => by have := (World.ownsRow.lt hB _ e).1; omega) hW.size)
            obtain ⟨g2, c2, hv, hTW⟩ := tw_own hD (by omega)
            injection hv with e1 _ e3
            subst e1
            obtain rfl : c2 = ca2 := e3.symm
            have hz1 : es.length ≤ c2 := by have := hTW.2.2.2.2.1; omega
            have hz2 : w1.heap.size + 1 ≤ g2 := hTW.2.2.1
            clear hr hg hB hC hD
            have hH := hS'.out _ hX
            refine hK.out _ _ ?_ (fun hHeld => ?_)
            · with_reducible exact hH
            clear hK K hH
            try simp only [List.getElem_toArray, List.getElem_cons_succ, List.getElem_cons_zero]
            try simp only [Act.put, List.setIfInBounds_toArray, List.set_cons_zero, List.set_cons_succ]
            refine wpAnyH_take (i := 14) (v := ?_) rfl (by kernel_rfl) (by kernel_rfl) (by kernel_rfl) (fun _ _ _ h => h) (Or.inl ⟨by rfl, ?_⟩) (by assumption) ?_
            rotate_left
            · intro X hX
              go_simp
              try with_reducible rfl
            try simp only [List.getElem_toArray, List.getElem_cons_succ, List.getElem_cons_zero]
            try simp only [Act.put, List.setIfInBounds_toArray, List.set_cons_zero, List.set_cons_succ]
            refine wpAnyH_take (i := 15) (v := ?_) rfl (by kernel_rfl) (by kernel_rfl) (by kernel_rfl) (fun _ _ _ h => h) (Or.inl ⟨by rfl, ?_⟩) (by assumption) ?_
            rotate_left
            · intro X hX
              go_simp
              try with_reducible rfl
            try simp only [List.getElem_toArray, List.getElem_cons_succ, List.getElem_cons_zero]
            try simp only [Act.put, List.setIfInBounds_toArray, List.set_cons_zero, List.set_cons_succ]
            refine wpAnyH_ready (rs := [16]) (by kernel_rfl) (by simp) (AllReadyH.cons rfl (fun K hK => ?_) AllReadyH.nil)
            · have q := cell_at (i := 9) hT rfl
              have fz := Lib.frozen_of_heap hT 9
              go_simp
              replace hX := set_else (a := ⟨w1.heap.size, 9, none⟩) (u := .slice (some ⟨g2, 0, none⟩) es.length c2) hX (by show _ ≠ w1.heap.size; omega)
              replace hT := heap_set (i := 9) (.slice (some ⟨g2, 0, none⟩) es.length c2) hT
              simp only [Array.set!_eq_setIfInBounds, List.setIfInBounds_toArray, List.set_cons_zero, List.set_cons_succ] at hT
              replace hTW := hTW.far (a := ⟨w1.heap.size, 9, none⟩) (u := .slice (some ⟨g2, 0, none⟩) es.length c2) (by show w1.heap.size < _; omega)
              replace hW := hW.setCell (p := ⟨w1.heap.size, 9, none⟩) (Nat.le_refl _) (.slice (some ⟨g2, 0, none⟩) es.length c2)
              clear q fz
              have hH := hS'.out _ hX
              refine hK.out _ _ ?_ (fun hHeld => ?_)
              · with_reducible exact hH
              clear hK K hH
              try simp only [List.getElem_toArray, List.getElem_cons_succ, List.getElem_cons_zero]
              try simp only [Act.put]
              refine wpAnyH_done (by kernel_rfl) ?_ _
              go_wp2_with fail
              go_meet
              case rel => exact ⟨g2, c2, Lib.hid hX, Lib.hid hT, Lib.hid hTW, Lib.hid hW⟩
    · refine step_build_new rfl 22 1 _ #[(0, .agg #[.int .i64 (-70), .int .i64 0, .int .i64 0, .int .i64 0, .int .i64 0, .int .i64 0])] rfl (by simp [Act.eval]) #[.int .i64 (-70), .int .i64 0, .int .i64 0, .int .i64 0, .int .i64 0, .int .i64 0] 30 (fun X => bld70_run X) ?_
      intro gC wn hC hgC hb
      replace hX := keepH hb hX
      replace hT := keepH hb hT
      replace hW := keepB hW hb
      clear hb hgC
      have hH := hS'.out _ hX
      refine hK.out _ _ ?_ (fun hHeld => ?_)
      · with_reducible exact hH
      clear hK K hH
      try simp only [List.getElem_toArray, List.getElem_cons_succ, List.getElem_cons_zero]
      try simp only [Act.put, List.setIfInBounds_toArray, List.set_cons_zero, List.set_cons_succ]
      refine wpAnyH_ready (rs := [4]) (by kernel_rfl) (by simp) (AllReadyH.cons rfl (fun K hK => ?_) AllReadyH.nil)
      · refine step_make_new rfl 22 _ _ rfl (es.length + 1) (by simp [Act.eval]) (by simp [Act.eval]) (ezs (es.length + 1)) 30 (fun X => emade_run X (es.length + 1) (by omega)) ?_
        intro gA wn hA hgA hb
        have hAC : gC ≠ gA := by have := heap_lt hC; omega
        replace hgA : w1.heap.size + 1 ≤ gA := Nat.le_trans (heap_lt hT) hgA
        replace hX := keepH hb hX
        replace hT := keepH hb hT
        replace hW := keepB hW hb
        replace hC := keepH hb hC
        clear hb
        have hH := hS'.out _ hX
        refine hK.out _ _ ?_ (fun hHeld => ?_)
        · with_reducible exact hH
        clear hK K hH
        try simp only [List.getElem_toArray, List.getElem_cons_succ, List.getElem_cons_zero]
        try simp only [Act.put, List.setIfInBounds_toArray, List.set_cons_zero, List.set_cons_succ]
        refine wpAnyH_ready (rs := [7]) (by kernel_rfl) (by simp) (AllReadyH.cons rfl (fun K hK => ?_) AllReadyH.nil)
        · obtain ⟨A1, ca1, wm, hr, hB, hg, -⟩ := run_append_es (emade_heap hA hgA (by omega)) (HLE.out _ (keepB hB1 hW)) (heap_lt hT) (by omega)
          simp only [Nat.zero_add, List.nil_append] at hr hB
          refine step_app_known rfl _ _ 22 22 rfl (.slice (some ⟨gA, 0, none⟩) 0 (es.length + 1)) (.slice A es.length c) (by simp [Act.eval]) (by simp [Act.eval]) hr ?_
          replace hC := keepG hg hC (fun e => by simp [Value.ownBlock] at e; omega)
          replace hX := keepG hg hX (fun e => by simp [Value.ownBlock] at e; omega)
          replace hT := keepG hg hT (fun e => by simp [Value.ownBlock] at e; omega)
          replace hW := hW.trans (below_grow (B := w1.heap.size) hg (fun q h1 e => by simp [Value.ownBlock] at e; omega) hW.size)
          clear hr hg hA hgA hAC
          have hH := hS'.out _ hX
          refine hK.out _ _ ?_ (fun hHeld => ?_)
          · with_reducible exact hH
          clear hK K hH
          try simp only [List.getElem_toArray, List.getElem_cons_succ, List.getElem_cons_zero]
          try simp only [Act.put, List.setIfInBounds_toArray, List.set_cons_zero, List.set_cons_succ]
          refine wpAnyH_ready (rs := [10]) (by kernel_rfl) (by simp) (AllReadyH.cons rfl (fun K hK => ?_) AllReadyH.nil)
          · obtain ⟨A2, ca2, wm, hr, hD, hg, -⟩ := run_append_es hB (es_heap (es := [e70]) hC (by simp [ecs, En.l, Od.l, e70]) (by simp)) (heap_lt hT) (by simp; omega)
            simp only [List.length_cons, List.length_nil, Nat.zero_add] at hr hD
            refine step_app_known rfl _ _ 22 22 rfl (.slice A1 es.length ca1) (.slice (some ⟨gC, 0, none⟩) 1 1) (by simp [Act.eval]) (by simp [Act.eval]) hr ?_
            replace hX := keepG hg hX (fun e => by have := (World.ownsRow.lt hB _ e).1; omega)
            replace hT := keepG hg hT (fun e => by have := (World.ownsRow.lt hB _ e).1; omega)
            replace hW := hW.trans (below_grow (B := w1.heap.size) hg (fun q h1 e => by have := (World.ownsRow.lt hB _ e).1; omega) hW.size)
            obtain ⟨g2, c2, hv, hTW⟩ := tw_own hD (by omega)
            injection hv with e1 _ e3
            subst e1
            obtain rfl : c2 = ca2 := e3.symm
            have hz1 : es.length ≤ c2 := by have := hTW.2.2.2.2.1; omega
            have hz2 : w1.heap.size + 1 ≤ g2 := hTW.2.2.1
            clear hr hg hB hC hD
            have hH := hS'.out _ hX
            refine hK.out _ _ ?_ (fun hHeld => ?_)
            · with_reducible exact hH
            clear hK K hH
            try simp only [List.getElem_toArray, List.getElem_cons_succ, List.getElem_cons_zero]
            try simp only [Act.put, List.setIfInBounds_toArray, List.set_cons_zero, List.set_cons_succ]
            refine wpAnyH_take (i := 14) (v := ?_) rfl (by kernel_rfl) (by kernel_rfl) (by kernel_rfl) (fun _ _ _ h => h) (Or.inl ⟨by rfl, ?_⟩) (by assumption) ?_
            rotate_left
            · intro X hX
              go_simp
              try with_reducible rfl
            try simp only [List.getElem_toArray, List.getElem_cons_succ, List.getElem_cons_zero]
            try simp only [Act.put, List.setIfInBounds_toArray, List.set_cons_zero, List.set_cons_succ]
            refine wpAnyH_take (i := 15) (v := ?_) rfl (by kernel_rfl) (by kernel_rfl) (by kernel_rfl) (fun _ _ _ h => h) (Or.inl ⟨by rfl, ?_⟩) (by assumption) ?_
            rotate_left
            · intro X hX
              go_simp
              try with_reducible rfl
            try simp only [List.getElem_toArray, List.getElem_cons_succ, List.getElem_cons_zero]
            try simp only [Act.put, List.setIfInBounds_toArray, List.set_cons_zero, List.set_cons_succ]
            refine wpAnyH_ready (rs := [16]) (by kernel_rfl) (by simp) (AllReadyH.cons rfl (fun K hK => ?_) AllReadyH.nil)
            · have q := cell_at (i := 9) hT rfl
              have fz := Lib.frozen_of_heap hT 9
              go_simp
              replace hX := set_else (a := ⟨w1.heap.size, 9, none⟩) (u := .slice (some ⟨g2, 0, none⟩) es.length c2) hX (by show _ ≠ w1.heap.size; omega)
              replace hT := heap_set (i := 9) (.slice (some ⟨g2, 0, none⟩) es.length c2) hT
              simp only [Array.set!_eq_setIfInBounds, List.setIfInBounds_toArray, List.set_cons_zero, List.set_cons_succ] at hT
              replace hTW := hTW.far (a := ⟨w1.heap.size, 9, none⟩) (u := .slice (some ⟨g2, 0, none⟩) es.length c2) (by show w1.heap.size < _; omega)
              replace hW := hW.setCell (p := ⟨w1.heap.size, 9, none⟩) (Nat.le_refl _) (.slice (some ⟨g2, 0, none⟩) es.length c2)
              clear q fz
              have hH := hS'.out _ hX
              refine hK.out _ _ ?_ (fun hHeld => ?_)
              · with_reducible exact hH
              clear hK K hH
              try simp only [List.getElem_toArray, List.getElem_cons_succ, List.getElem_cons_zero]
              try simp only [Act.put]
              refine wpAnyH_done (by kernel_rfl) ?_ _
              go_wp2_with fail
              go_meet
              case rel => exact ⟨g2, c2, Lib.hid hX, Lib.hid hT, Lib.hid hTW, Lib.hid hW⟩
  case rest =>
  obtain ⟨g2, c2, h_r5, h_t5, hTE5, hW5⟩ := hcut
  obtain ⟨w6, he6⟩ : ∃ W : World, W = wc := ⟨_, rfl⟩
  subst he6
  have hB6 : Below w.heap.size w w6 := hB1.trans (hW5.out.mono hB1.size)
  clear d9 h_r2 h_t2 hb12 HFS hB1 hW5
  have HLT := Lib.hid (run_loadVar_row (P := Tryd.prog) w6 w1.heap.size 45 _ #[.int .i64 ki, .int .i64 fr, .int .i64 tt, .int .i64 st, .int .i64 ep, .int .i64 vi, .int .i64 ba, .int .i64 le, .int .i64 sp, .slice (some ⟨g2, 0, none⟩) es.length c2, .int .i64 oi, .int .i64 ot, .int .i64 oe, .int .i64 ok, .int .i64 oa, .int .i64 ai, .int .i64 ac, .int .i64 av] _ _ h_t5.out Tryd.underlying45 rfl (by kernel_rfl))
  go_wp2_with (with_reducible refine wpList_load_run (by rfl) 45 _ (by rfl) ⟨w1.heap.size, 0, none⟩ (by with_unfolding_all rfl) HLT.out ?_)
  refine (HEN.out w6 hB6 hTE5.out.1 hgr).mono ?_
  rintro e w7 ⟨rfl, hb⟩
  have hB7 := keepB hB6 hb
  have h_r7 := keepH hb h_r5.out
  have h_t7 := keepH hb h_t5.out
  have hTE7 := hTE5.out.below hb
  clear hb HLT h_r5 h_t5 hTE5 HEN
  have HLR := Lib.hid (run_loadVar_row (P := Tryd.prog) w7 w.heap.size 45 _ #[.int .i64 ki, .int .i64 fr, .int .i64 tt, .int .i64 st, .int .i64 ep, .int .i64 vi, .int .i64 ba, .int .i64 le, .int .i64 sp, .slice A es.length c, .int .i64 oi, .int .i64 ot, .int .i64 oe, .int .i64 ok, .int .i64 oa, .int .i64 ai, .int .i64 ac, .int .i64 av] _ _ h_r7 Tryd.underlying45 rfl (by kernel_rfl))
  go_wp2_with (with_reducible refine wpList_load_run (by rfl) 45 _ (by rfl) ⟨w.heap.size, 0, none⟩ (by with_unfolding_all rfl) HLR.out ?_)
  refine (HRE.out w7 ((RdB.mono (HLE.out w7 hB7) hB7.size : EsB _ w7 _ es))).mono ?_
  rintro e w8 ⟨rfl, hb⟩
  have hB8 := keepB hB7 hb
  have h_r8 := keepH hb h_r7
  have h_t8 := keepH hb h_t7
  have hTE8 := hTE7.below hb
  clear hb HLR h_r7 h_t7 hTE7 HRE
  have x9 := cell_at (i := 9) h_r8 rfl
  have y9 := cell_at (i := 9) h_t8 rfl
  have k9 : ∀ d' os, (grow (redrawn w8 d') os).cell? ⟨w.heap.size, 9, none⟩ = some (.slice A es.length c) := fun d' os => cell_regrown x9 d' os
  have l9 : ∀ d' os, (grow (redrawn w8 d') os).cell? ⟨w1.heap.size, 9, none⟩ = some (.slice (some ⟨g2, 0, none⟩) es.length c2) := fun d' os => cell_regrown y9 d' os
  have HLR8 : Hid (∀ w', (∃ p : Regrown, w' = grow (redrawn w8 p.d) p.os) → (loadVar 45 ⟨w.heap.size, 0, none⟩).run Tryd.prog w' = .ok (.agg #[.int .i64 ki, .int .i64 fr, .int .i64 tt, .int .i64 st, .int .i64 ep, .int .i64 vi, .int .i64 ba, .int .i64 le, .int .i64 sp, .slice A es.length c, .int .i64 oi, .int .i64 ot, .int .i64 oe, .int .i64 ok, .int .i64 oa, .int .i64 ai, .int .i64 ac, .int .i64 av]) w') := Lib.hid fun w' hp => by
    obtain ⟨p, rfl⟩ := hp
    exact run_loadVar_row (P := Tryd.prog) _ w.heap.size 45 _ #[.int .i64 ki, .int .i64 fr, .int .i64 tt, .int .i64 st, .int .i64 ep, .int .i64 vi, .int .i64 ba, .int .i64 le, .int .i64 sp, .slice A es.length c, .int .i64 oi, .int .i64 ot, .int .i64 oe, .int .i64 ok, .int .i64 oa, .int .i64 ai, .int .i64 ac, .int .i64 av] _ _ (keepH (below_regrown w8 p.d p.os) h_r8) Tryd.underlying45 rfl (by kernel_rfl)
  have HLT8 : Hid (∀ w', (∃ p : Regrown, w' = grow (redrawn w8 p.d) p.os) → (loadVar 45 ⟨w1.heap.size, 0, none⟩).run Tryd.prog w' = .ok (.agg #[.int .i64 ki, .int .i64 fr, .int .i64 tt, .int .i64 st, .int .i64 ep, .int .i64 vi, .int .i64 ba, .int .i64 le, .int .i64 sp, .slice (some ⟨g2, 0, none⟩) es.length c2, .int .i64 oi, .int .i64 ot, .int .i64 oe, .int .i64 ok, .int .i64 oa, .int .i64 ai, .int .i64 ac, .int .i64 av]) w') := Lib.hid fun w' hp => by
    obtain ⟨p, rfl⟩ := hp
    exact run_loadVar_row (P := Tryd.prog) _ w1.heap.size 45 _ #[.int .i64 ki, .int .i64 fr, .int .i64 tt, .int .i64 st, .int .i64 ep, .int .i64 vi, .int .i64 ba, .int .i64 le, .int .i64 sp, .slice (some ⟨g2, 0, none⟩) es.length c2, .int .i64 oi, .int .i64 ot, .int .i64 oe, .int .i64 ok, .int .i64 oa, .int .i64 ai, .int .i64 ac, .int .i64 av] _ _ (keepH (below_regrown w8 p.d p.os) h_t8) Tryd.underlying45 rfl (by kernel_rfl)
  have x70 := hTE8.2.1
  have k70 : ∀ d' os, (grow (redrawn w8 d') os).cell? ⟨g2, es.length * 6, none⟩ = some (.int .i64 (-70)) := fun d' os => cell_regrown x70 d' os
  have hc2 := hTE8.2.2.2.2.1
  have HT8 := Lib.hid hTE8
  have hBX : Hid (∀ d' os, Below w8.heap.size w8 (grow (redrawn w8 d') os)) := Lib.hid fun d' os => below_regrown w8 d' os
  have b0 : ∀ d' os, Calls Tryd.prog 18 #[.agg #[.int .i64 ki, .int .i64 fr, .int .i64 tt, .int .i64 st, .int .i64 ep, .int .i64 vi, .int .i64 ba, .int .i64 le, .int .i64 sp, .slice (some ⟨g2, 0, none⟩) es.length c2, .int .i64 oi, .int .i64 ot, .int .i64 oe, .int .i64 ok, .int .i64 oa, .int .i64 ai, .int .i64 ac, .int .i64 av], .int .i64 n] (grow (redrawn w8 d') os) fun e w'' => e = .returned (.int .i64 ec) ∧ ∃ p : Regrown, w'' = grow (redrawn w8 p.d) p.os := fun d' os => Calls.regrown_of (HCK.out _ (keepB hB8 (hBX.out d' os)) (HT8.out.below (hBX.out d' os)).1 hgr)
  have b1 : ∀ d' os, Calls Tryd.prog 19 #[.agg #[.int .i64 ki, .int .i64 fr, .int .i64 tt, .int .i64 st, .int .i64 ep, .int .i64 vi, .int .i64 ba, .int .i64 le, .int .i64 sp, .slice A es.length c, .int .i64 oi, .int .i64 ot, .int .i64 oe, .int .i64 ok, .int .i64 oa, .int .i64 ai, .int .i64 ac, .int .i64 av], .int .i64 n] (grow (redrawn w8 d') os) fun e w'' => e = .returned (.int .i64 ec) ∧ ∃ p : Regrown, w'' = grow (redrawn w8 p.d) p.os := fun d' os => Calls.regrown_of (HRC.out _ ((RdB.mono (HLE.out _ (keepB hB8 (hBX.out d' os))) (keepB hB8 (hBX.out d' os)).size : EsB _ _ _ es)))
  have b2 : ∀ d' os, Calls Tryd.prog 20 #[.agg #[.int .i64 ki, .int .i64 fr, .int .i64 tt, .int .i64 st, .int .i64 ep, .int .i64 vi, .int .i64 ba, .int .i64 le, .int .i64 sp, .slice (some ⟨g2, 0, none⟩) es.length c2, .int .i64 oi, .int .i64 ot, .int .i64 oe, .int .i64 ok, .int .i64 oa, .int .i64 ai, .int .i64 ac, .int .i64 av], .agg #[.int .i64 ki, .int .i64 fr, .int .i64 tt, .int .i64 st, .int .i64 ep, .int .i64 vi, .int .i64 ba, .int .i64 le, .int .i64 sp, .slice A es.length c, .int .i64 oi, .int .i64 ot, .int .i64 oe, .int .i64 ok, .int .i64 oa, .int .i64 ai, .int .i64 ac, .int .i64 av]] (grow (redrawn w8 d') os) fun e w'' => e = .returned (.bool true) ∧ ∃ p : Regrown, w'' = grow (redrawn w8 p.d) p.os := fun d' os => Calls.regrown_of (HSM.out _ (HT8.out.below (hBX.out d' os)).1 ((RdB.mono (HLE.out _ (keepB hB8 (hBX.out d' os))) (keepB hB8 (hBX.out d' os)).size : EsB _ _ _ es)))
  have b3 : ∀ d' os, Calls Tryd.prog 21 #[] (grow (redrawn w8 d') os) fun e w'' => e = .returned (.bool true) ∧ ∃ p : Regrown, w'' = grow (redrawn w8 p.d) p.os := fun d' os => Calls.regrown_of (HWK.out _ (keepB hB8 (hBX.out d' os)))
  clear x9 y9 x70 hTE8 HCK HRC HSM HWK HLE HAK h_r8 h_t8
  go_wp2_with fail
  refine wp_region_quiet_below (by kernel_rfl) (by kernel_rfl) ?_
  repeat (first
    | (go_big_quiet_want; (with_reducible refine quiet_load 45 _ (by rfl) ⟨w1.heap.size, 0, none⟩ (by with_unfolding_all rfl) _ HLT8.out ?_); (try simp only [Act.put, List.setIfInBounds_toArray, List.set_cons_zero, List.set_cons_succ]); go_big_quiet_on)
    | (go_big_quiet_want; (with_reducible refine quiet_load 45 _ (by rfl) ⟨w.heap.size, 0, none⟩ (by with_unfolding_all rfl) _ HLR8.out ?_); (try simp only [Act.put, List.setIfInBounds_toArray, List.set_cons_zero, List.set_cons_succ]); go_big_quiet_on)
    | go_big_quiet_step (first | with_reducible exact b0 _ _ | with_reducible exact b1 _ _ | with_reducible exact b2 _ _ | with_reducible exact b3 _ _))
  refine wpQuiet_nil ?_
  intro _ hw'
  obtain ⟨⟨dq, osq⟩, hw''⟩ := hw'
  subst hw''
  have hb9 := keepB hB8 (hBX.out dq osq)
  go_wp2_with fail
  go_ret
  exact ⟨rfl, hb9⟩
end Go.Proofs.YtkdnhfeamibmdaaDoor.mailEncodeW
namespace Go.Proofs.YtkdnhfeamibmdaaDoor.mailEncode
open Go.ChangeShapes Go.WideShapes Go.ChangeAt Go.RowKit
open Go.ChangeMaps (open_string shut_string)
theorem own : ownKnob Tryd.prog.godebug = none := by kernel_rfl
theorem laidOut : laidOutB Tryd.prog = true := by kernel_rfl
noncomputable def laidWorld (os : Os) : World :=
  { World.holding Tryd.prog os ⟨#[], #[], []⟩ with heap := ((((((((((World.holding Tryd.prog os ⟨#[], #[], []⟩).heap.modify 8 fun
      | .cells _ t frozen => .cells #[.int .i64 1, .int .i64 2147483647, .int .i64 0, .int .i64 3, .int .i64 (-1), .int .i64 2147483647, .int .i64 1, .int .i64 4, .int .i64 (-1048576), .int .i64 1048576] t frozen
      | o => o).modify 0 fun
      | .cells _ t frozen => .cells #[.int .i64 0, .int .i64 3] t frozen
      | o => o).modify 1 fun
      | .cells _ t frozen => .cells #[.int .i64 1, .int .i64 1048576] t frozen
      | o => o).modify 3 fun
      | .cells _ t frozen => .cells #[.int .i64 0, .int .i64 1048576] t frozen
      | o => o).modify 2 fun
      | .cells _ t frozen => .cells #[.int .i64 0, .int .i64 64] t frozen
      | o => o).modify 5 fun
      | .cells _ t frozen => .cells #[.int .i64 0, .int .i64 63] t frozen
      | o => o).modify 4 fun
      | .cells _ t frozen => .cells #[.int .i64 0, .int .i64 256] t frozen
      | o => o).modify 6 fun
      | .cells _ t frozen => .cells #[.int .u64 0, .int .u64 35, .int .u64 119, .int .u64 3, .int .u64 123, .int .u64 51, .int .u64 19, .int .u64 128, .int .u64 257, .int .u64 3, .int .u64 3] t frozen
      | o => o).modify 7 fun
      | .cells _ t frozen => .cells #[.int .u64 1, .int .i64 0, .int .i64 3, .int .u64 2, .int .i64 1, .int .i64 1048576, .int .u64 4, .int .i64 0, .int .i64 1048576, .int .u64 8, .int .i64 0, .int .i64 64, .int .u64 16, .int .i64 0, .int .i64 64, .int .u64 32, .int .i64 0, .int .i64 1073741824] t frozen
      | o => o) }
theorem laid_met (os : Os) : laidMet Tryd.prog Rows.mailEncodeRow.laid ((laidWorld os).forCall (fun _ _ => 0) ⟨#[], #[.agg #[.int .i64 0, .int .i64 0, .int .i64 0, .int .i64 0, .int .i64 0, .int .i64 0, .int .i64 0, .int .i64 0, .int .i64 0, .slice none 0 0, .int .i64 0, .int .i64 0, .int .i64 0, .int .i64 0, .int .i64 0, .int .i64 0, .int .i64 0, .int .i64 0], .int .i64 0], []⟩).memory :=
  laidMet_of_run' 8 (by kernel_rfl) (by kernel_rfl)
theorem reads (os : Os) {H : Type} (enc : TypeId × Value → H) : ∃ places, DataW.whole enc Tryd.prog ((laidWorld os).forCall (fun _ _ => 0) ⟨#[], #[.agg #[.int .i64 0, .int .i64 0, .int .i64 0, .int .i64 0, .int .i64 0, .int .i64 0, .int .i64 0, .int .i64 0, .int .i64 0, .slice none 0 0, .int .i64 0, .int .i64 0, .int .i64 0, .int .i64 0, .int .i64 0, .int .i64 0, .int .i64 0, .int .i64 0], .int .i64 0], []⟩).memory Tryd.f5.params.toList Rows.mailEncodeSpec.vars false (#[.agg #[.int .i64 0, .int .i64 0, .int .i64 0, .int .i64 0, .int .i64 0, .int .i64 0, .int .i64 0, .int .i64 0, .int .i64 0, .slice none 0 0, .int .i64 0, .int .i64 0, .int .i64 0, .int .i64 0, .int .i64 0, .int .i64 0, .int .i64 0, .int .i64 0], .int .i64 0] : Array Value).toList 8 = some ([.agg [.lit (.int .i64 0), .lit (.int .i64 0), .lit (.int .i64 0), .lit (.int .i64 0), .lit (.int .i64 0), .lit (.int .i64 0), .lit (.int .i64 0), .lit (.int .i64 0), .lit (.int .i64 0), .nil, .agg [.lit (.int .i64 0), .lit (.int .i64 0), .lit (.int .i64 0), .lit (.int .i64 0), .lit (.int .i64 0)], .agg [.lit (.int .i64 0), .lit (.int .i64 0), .lit (.int .i64 0)]], .lit (.int .i64 0)], [], places) :=
  ⟨[], by kernel_rfl⟩
set_option maxRecDepth 100000 in
theorem lifted (os : Os) (started : os.Started) (H : Type) (enc : TypeId × Value → H) (F : Stop.Interp) :
    ReturnsInHanded {} Tryd.checked os 5 .any ((OpenSpec.ofChange Rows.mailEncodeSpec).preRow enc Tryd.prog Tryd.f5 Rows.mailEncodeRow.domain false Rows.mailEncodeRow.laid) (((OpenSpec.ofChange Rows.mailEncodeSpec).at F).post enc Tryd.prog Tryd.f5 false true false false) := by
  obtain ⟨places, hx⟩ := reads os enc
  refine returnsInHanded_of_row (C := Tryd.checked) (s := OpenSpec.ofChange Rows.mailEncodeSpec) own started (by kernel_rfl) Tryd.func5
    (witness_row_at (enc := enc) (C := Tryd.checked) false (laidWorld os) #[.agg #[.int .i64 0, .int .i64 0, .int .i64 0, .int .i64 0, .int .i64 0, .int .i64 0, .int .i64 0, .int .i64 0, .int .i64 0, .slice none 0 0, .int .i64 0, .int .i64 0, .int .i64 0, .int .i64 0, .int .i64 0, .int .i64 0, .int .i64 0, .int .i64 0], .int .i64 0] rfl (by kernel_rfl) (by kernel_rfl) (by kernel_rfl)
      (OpenSpec.preRow_of_cond 8 hx (by kernel_rfl) (fun k hk => by cases hk) (by kernel_rfl) (laid_met os))) ?_
  intro W base args ds gs before hval0 hW _ _ hsz hL _ _
  have hAsk : AskM W := askM_of hL
  have hval : ∀ (j : Nat) t v, Tryd.f5.params[j]? = some t → args[j]? = some v → Value.okWide Tryd.prog W .any base t v := hval0
  have hW' := hW
  obtain ⟨p, q, hA0, hV, rfl, hfz, hnd⟩ := hW
  have hA : DataW.TrodAll enc Tryd.prog W 0 (fun _ => true) true Tryd.f5.params.toList args.toList ds p := hA0
  rw [Tryd.params5] at hA hval
  obtain ⟨v0, vs0, d0, ds0, p0, q0, hargs, rfl, rfl, h0, r0⟩ := trodAll_cons hA
  obtain ⟨v1, vs1, d1, ds1, p1, q1, rfl, rfl, rfl, h1, r1⟩ := trodAll_cons r0
  obtain ⟨rfl, rfl, rfl⟩ := trodAll_nil r1
  obtain rfl : args = #[v0, v1] := by cases args; simp_all
  obtain ⟨rfl, rfl⟩ := trodVars_none hV
  obtain ⟨cs0, rfl, hsz0⟩ := okWide_struct Tryd.underlying45 (hval 0 45 v0 rfl rfl)
  have k0 := h0
  have lt0 : ∀ x ∈ p0, x.block < W.heap.size := by obtain ⟨m, hm⟩ := k0; exact DataW.trod_lt m _ _ _ hm
  obtain ⟨o0, A0, c0, hx0, e0, w0⟩ : ∃ (m : Ml) (A : Option Addr) (c : Nat), cs0.toList = m.cells (.slice A m.es.length c) ∧ EsB W.heap.size W (.slice A m.es.length c) m.es ∧ m.ints := by obtain ⟨fuel, hf⟩ := h0; exact open_ml hf
  obtain rfl : cs0 = (o0.cells (.slice A0 o0.es.length c0)).toArray := by rw [← hx0]
  obtain ⟨a1, rfl, rfl, rfl, w1⟩ := open_int Tryd.underlying3 (hval 1 3 v1 rfl rfl) h1
  clear hA0 hval0
  refine (mailEncodeW.walk o0 A0 c0 a1 W hAsk e0 w0 w1).mono fun e W' ⟨he, bel⟩ => ?_
  subst he
  exact ⟨_, rfl, _, _, _, [], _, [], hW', trodAll_mk1 (shut_bool Tryd.underlying4 _), (trodAll_cons_mk (Below.trod laidOut (by kernel_rfl) (of_decide_eq_true (by kernel_rfl)) k0 bel lt0) (trodAll_cons_mk (shut_int Tryd.underlying3 w1) trodAll_mk0)), rfl, bel.frame _, fun h => by cases h⟩
theorem said : Rows.MailEncodeSaid :=
  OpenClaim.holds_of_cond 5 Tryd.f5 rfl rfl rfl rfl rfl rfl rfl ⟨rfl, rfl, rfl, rfl, rfl⟩ rfl rfl rfl rfl rfl (by kernel_rfl) Tryd.func5 (by kernel_rfl)
    (of_decide_eq_true (by kernel_rfl)) (by unfold Func.isWrapper; first | (rw [if_pos (by decide +kernel)]; kernel_rfl) | (rw [if_neg (by decide +kernel)]; exact ⟨rfl, rfl⟩))
    (fun os started H enc _ F => by rw [OpenClaim.pre_eq_preRow]; exact lifted os started H enc F)
theorem plain (f : FuncId) (fn : Func) (hf : Tryd.pinned.checked.prog.funcNamed "archipelago/archipelagolaw11.MailEncode" = some f) (hfn : Tryd.pinned.checked.prog.funcs[f]? = some fn) :
    false = Tryd.pinned.checked.prog.looks [] ∧ ∀ (j : Nat) t, fn.params[j]? = some t → Tryd.pinned.checked.prog.wantsStandIn t = false := by
  obtain rfl : f = 5 := Option.some.inj ((show Tryd.prog.funcNamed "archipelago/archipelagolaw11.MailEncode" = some 5 by kernel_rfl).symm.trans hf) |>.symm
  obtain rfl : fn = Tryd.f5 := (Option.some.inj (Tryd.func5.symm.trans hfn)).symm
  refine ⟨by kernel_rfl, fun j t ht => ?_⟩
  rw [Tryd.params5] at ht
  have hm := Array.mem_of_getElem? ht
  have ht' : t = 45 ∨ t = 3 := by simpa using hm
  rcases ht' with rfl | rfl
  · exact (show Tryd.prog.wantsStandIn 45 = false by kernel_rfl)
  · exact (show Tryd.prog.wantsStandIn 3 = false by kernel_rfl)
theorem proved : Rows.MailEncodeCardSaid :=
  Claim7.holds_tied_plain_at .later [] _ _ _ _ said (fun _ h => by cases h) (by kernel_rfl) (fun _ h => by cases h) mailEncode_row_tie rfl ⟨rfl, rfl⟩ (by kernel_rfl) rfl plain (by kernel_rfl)
end Go.Proofs.YtkdnhfeamibmdaaDoor.mailEncode
