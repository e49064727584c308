/-
  Twin and Left of the statements: a log in memory of its own, with room behind.
-/
import Derived.Test.YtnbhdehpdfojlaaDoorLsCommon
import Derived.Maps.AppendAt
import Derived.Laws.Rows
import Derived.OneCell
import Derived.Deep.AppendSrc
import Derived.Deep.Upon
import Derived.ArgAppend
import Derived.OwnWalk
namespace Go.Proofs.YtnbhdehpdfojlaaDoor
open Go.RowKit Go.Sort Go.Maps
theorem wpList_append_known {P : Program} (w : World) {ops : Array Oper} {rest : List Oper} {o : Oper} {a : Act} {Q : Exit → Act → World → Prop} (hgd : o.guard = none) (d s : Operand) (t t' : TypeId)
    (ho : o.op = .call { callee := .builtin .append, args := #[d, s], argTypes := #[t, t'] }) (v u : Value) (hd : a.eval d = v) (hs : a.eval s = u) {v' : Value} {w' : World}
    (hr : (Builtin.append_ #[t, t'] o.type #[v, u]).run P w = .ok v' w') (h : wpList P ops Q rest (a.put o.dst v') w') : wpList P ops Q (o :: rest) a w :=
  wpList_plain hgd fun K hK => by
    unfold Oper.wp
    simp [execOp, ho, resolve, invoke, builtin, hd, hs, hr, Result.andThen]
    exact hK _ _ h
def ecs (es : List En) : List Value := (es.map En.l).flatten.map (Value.int .i64)
theorem ecs_append (a b : List En) : ecs (a ++ b) = ecs a ++ ecs b := by simp [ecs]
theorem en_flat (es : List En) : (es.map En.l).flatten.length = es.length * 6 := by
  rw [flatten_len (k := 6) (fun x hx => by obtain ⟨e, _, rfl⟩ := List.mem_map.1 hx; rfl), List.length_map]
theorem ecs_len (es : List En) : (ecs es).length = es.length * 6 := by rw [ecs, List.length_map, en_flat]
theorem ecs_one (es : List En) : ∀ u ∈ ecs es, u.oneCell' = true := by
  intro u hu
  obtain ⟨n, _, rfl⟩ := List.mem_map.1 hu
  rfl
theorem Tryd.info_entry : (Tryd.prog.info? 44).map (fun i => (i.zero, i.size, i.bytes)) = some (some (.agg #[.int .i64 0, .int .i64 0, .int .i64 0, .int .i64 0, .int .i64 0, .int .i64 0]), 6, 48) := by kernel_rfl
theorem own_is_slice {w : World} {base : Nat} {e : TypeId} {size n : Nat} {v : Value} {xs : List Value} (h : w.ownsRow base e size v n xs) : ∃ A c, v = .slice A n c ∧ n ≤ c := by
  rcases h.2 with ⟨rfl, rfl⟩ | ⟨g, cap, cur, rfl, _, _, hnc, _⟩
  · exact ⟨none, 0, rfl, Nat.le_refl _⟩
  · exact ⟨_, _, rfl, hnc⟩
/-- 'append' of entries, whosever, to a row of one's own. -/
theorem run_append_es {w : World} {B base n : Nat} {v ka : Value} {xs : List Value} {es : List En} (ho : w.ownsRow base 44 6 v n xs) (hk : EsB B w ka es) (hb : base ≤ w.heap.size) (hnl : n + es.length ≤ 1000000) :
    ∃ A c w', (Builtin.append_ #[22, 22] 22 #[v, ka]).run Tryd.prog w = .ok (.slice A (n + es.length) c) w' ∧ w'.ownsRow base 44 6 (.slice A (n + es.length) c) (n + es.length) (xs ++ ecs es) ∧ w.grownBy w' v.ownBlock ∧ ((Value.slice A (n + es.length) c).ownBlock = v.ownBlock ∨ (Value.slice A (n + es.length) c).ownBlock = some w.heap.size) := by
  obtain ⟨i0, hi0, hz0, hz1, hz2⟩ := info_parts Tryd.info_entry
  obtain ⟨KA, kc, rfl, h1, h2, h3, h4⟩ := hk
  rcases es with _ | ⟨y, l⟩
  · obtain ⟨A, c, rfl, hac⟩ := own_is_slice ho
    have hs : Src Tryd.prog i0.size 22 (.slice KA 0 kc) 0 [] w := by
      rcases KA with _ | a
      · exact Src.ofNil w Tryd.underlying22 kc
      · exact Src.ofSlice w Tryd.underlying22 a 0 kc [] (by simp) (fun j u h => by simp at h) (fun u h => by simp at h)
    refine ⟨A, c, w, run_append_nothing w _ _ _ 44 i0 Tryd.underlying22 hi0 A n c hac _ hs, ?_, World.grownBy.refl w _, .inl rfl⟩
    simpa [ecs] using ho
  · obtain ⟨b, off, rfl, hbl, hc⟩ := h4 (by simp)
    obtain ⟨v', w', hr, ho', hg, _, hat⟩ := run_append_own_at (P := Tryd.prog) w base 22 22 44 i0 _ 6 48 Tryd.underlying22 hi0 hz0 hz1 hz2 rfl (by decide) v n xs ho ⟨b, off, none⟩ (y :: l).length kc (ecs (y :: l)) (ecs_len _)
      (fun j u hu => by
        rw [ecs, List.getElem?_map] at hu
        obtain ⟨x, hx, rfl⟩ := Option.map_eq_some_iff.1 hu
        rw [Addr.add_lit]; exact hc j x hx) (ecs_one _) (Nat.le_trans hnl (by decide)) (by omega) hb
    obtain ⟨A, c, rfl, _⟩ := own_is_slice ho'
    exact ⟨A, c, w', hr, ho', hg, hat⟩
/-- A row of one's own of entries reads so. -/
theorem own_shape {w : World} {base n : Nat} {v : Value} {xs : List Value} (h : w.ownsRow base 44 6 v n xs) (hn : 0 < n) : ∃ g c, v = .slice (some ⟨g, 0, none⟩) n c ∧ base ≤ g ∧ g < w.heap.size ∧ n ≤ c ∧ c ≤ maxLen ∧ (∀ i, w.frozen? ⟨g, i, none⟩ = false) ∧ ∀ j, j < n * 6 → w.cell? ⟨g, j, none⟩ = xs[j]? := by
  rcases h.2 with ⟨_, h0⟩ | ⟨g, cap, cur, hv, hb, hg, hnc, hcm, hcs, ht⟩
  · omega
  · have hr := h
    rw [hv] at hr
    exact ⟨g, cap, hv, hb, lt_of_block hg, hnc, hcm, fun i => Lib.frozen_of_heap hg i, fun j hj => World.ownsRow.cellAt hr j hj⟩
theorem own_es {w : World} {base : Nat} {v : Value} {es : List En} (h : w.ownsRow base 44 6 v es.length (ecs es)) (hl : es.length ≤ 1000000) : EsB w.heap.size w v es := by
  by_cases h0 : es.length = 0
  · obtain rfl : es = [] := List.eq_nil_of_length_eq_zero h0
    rcases h.2 with ⟨rfl, _⟩ | ⟨g, cap, cur, rfl, hb, hg, hnc, hcm, _⟩
    · exact ⟨none, 0, rfl, Nat.le_refl _, Nat.zero_le _, fun _ => ⟨rfl, rfl⟩, fun h => by simp at h⟩
    · exact ⟨_, cap, rfl, Nat.zero_le _, hcm, (fun e => by cases e), fun h => by simp at h⟩
  · obtain ⟨g, c, rfl, hb, hg, hnc, hcm, _, hx⟩ := own_shape h (by omega)
    refine ⟨_, c, rfl, hnc, hcm, (fun e => by cases e), fun _ => ⟨g, 0, rfl, hg, fun j x hj => ?_⟩⟩
    have hjl : j < es.length * 6 := by rw [← en_flat]; exact (List.getElem?_eq_some_iff.1 hj).1
    rw [Nat.zero_add, hx j hjl, ecs, List.getElem?_map, hj]; rfl
def ezs (n : Nat) : Array Value := madeCells (Value.agg #[.int .i64 0, .int .i64 0, .int .i64 0, .int .i64 0, .int .i64 0, .int .i64 0]).cells (n * 6)
theorem emade_run (X : World) (n : Nat) (hn : n ≤ 100000) : (Instr.makeSlice 22 (.int .i64 0) (.int .i64 (n : Int))).run Tryd.prog X = .ok (.slice (some ⟨X.heap.size, 0, none⟩) 0 n) (X.alloc (.cells (ezs n) 44)) := by
  obtain ⟨i0, hi0, hz0, hz1, hz2⟩ := info_parts Tryd.info_entry
  have h := run_makeSlice (P := Tryd.prog) X 22 44 i0 _ Tryd.underlying22 hi0 hz0 .i64 .i64 0 (n : Int) (Int.le_refl _) (by omega) (by rw [hz1]; omega) (by rw [hz2]; omega) (by omega)
  rw [hz1] at h
  exact h
theorem emade_own (X : World) {n : Nat} (hn : n ≤ 100000) : (X.alloc (.cells (ezs n) 44)).ownsRow X.heap.size 44 6 (.slice (some ⟨X.heap.size, 0, none⟩) 0 n) 0 [] := by
  refine ⟨rfl, .inr ⟨X.heap.size, n, ezs n, rfl, Nat.le_refl _, heap_alloc_new X _, Nat.zero_le _, Nat.le_trans hn (by decide), ?_, rfl⟩⟩
  simp [ezs, madeCells]
def e70 : En := ⟨-70, ⟨0, 0, 0, 0, 0⟩⟩
/-- One entry in a row of its own. -/
theorem es_one (X : World) (e : En) : EsB (X.heap.size + 1) (X.alloc (.cells #[.int .i64 e.ep, .int .i64 e.o.id, .int .i64 e.o.st, .int .i64 e.o.ex, .int .i64 e.o.ki, .int .i64 e.o.ar] 44)) (.slice (some ⟨X.heap.size, 0, none⟩) 1 1) [e] := by
  refine ⟨_, 1, rfl, Nat.le_refl _, by decide, (fun e => by cases e), fun _ => ⟨X.heap.size, 0, rfl, by omega, fun j x hj => ?_⟩⟩
  rw [Nat.zero_add, Lib.cell_of_heap (heap_alloc_new X _)]
  simp only [List.map_cons, List.map_nil, List.flatten_cons, List.flatten_nil, List.append_nil, En.l, Od.l] at hj
  match j, hj with
  | 0, hj => simp at hj; subst hj; rfl
  | 1, hj => simp at hj; subst hj; rfl
  | 2, hj => simp at hj; subst hj; rfl
  | 3, hj => simp at hj; subst hj; rfl
  | 4, hj => simp at hj; subst hj; rfl
  | 5, hj => simp at hj; subst hj; rfl
  | j + 6, hj => simp at hj
/-- What Twin leaves. -/
def TwinPost (es : List En) (w : World) (e : Ending) (w' : World) : Prop := ∃ g c, e = .returned (.slice (some ⟨g, 0, none⟩) es.length c) ∧ w.heap.size ≤ g ∧ g < w'.heap.size ∧ es.length + 1 ≤ c ∧ c ≤ maxLen ∧
  EsB w'.heap.size w' (.slice (some ⟨g, 0, none⟩) es.length c) es ∧ w'.cell? ⟨g, es.length * 6, none⟩ = some (.int .i64 (-70)) ∧ Below w.heap.size w w'
end Go.Proofs.YtnbhdehpdfojlaaDoor
