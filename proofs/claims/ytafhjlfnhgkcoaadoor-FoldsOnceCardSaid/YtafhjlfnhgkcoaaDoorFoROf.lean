/-
  Of of the document (folds).
-/
import Derived.Test.YtafhjlfnhgkcoaaDoorFoOf
import Derived.Maps.AppendAt
import Derived.Deep.RegionLaw
import Derived.Deep.RegionLawGrows
namespace Go.Proofs.YtafhjlfnhgkcoaaDoor
open Go.RowKit Go.Sort Go.Maps
/-- Outcomes with their events' slices, as cells. -/
def ocl (ps : List (Oc × Value)) : List Value := ps.flatMap fun p => [.int .i64 p.1.code, .int .i64 p.1.ver, p.2]
theorem ocl_snoc (ps : List (Oc × Value)) (x : Oc) (V : Value) : ocl (ps ++ [(x, V)]) = ocl ps ++ [.int .i64 x.code, .int .i64 x.ver, V] := by simp [ocl]
theorem ocl_at : ∀ (ps : List (Oc × Value)) {i : Nat} (hi : i < ps.length) {j : Nat}, j < 3 → (ocl ps)[i * 3 + j]? = [Value.int .i64 ps[i].1.code, .int .i64 ps[i].1.ver, ps[i].2][j]?
  | [], i, hi, _, _ => by simp at hi
  | p :: ps, 0, _, j, hj => by
    unfold ocl
    rw [List.flatMap_cons, List.getElem?_append_left (by simp; omega), Nat.zero_mul, Nat.zero_add]; rfl
  | p :: ps, i + 1, hi, j, hj => by
    have ih := ocl_at ps (i := i) (by simpa using hi) (j := j) hj
    unfold ocl at ih ⊢
    rw [List.flatMap_cons, List.getElem?_append_right (by simp; omega)]
    simp only [List.length_cons, List.length_nil, List.getElem_cons_succ]
    rw [show (i + 1) * 3 + j - (0 + 1 + 1 + 1) = i * 3 + j by omega]
    exact ih
/-- A row of one's own of these outcomes. -/
structure OcOwn (base : Nat) (w : World) (v : Value) (ps : List (Oc × Value)) : Prop where
  row : w.ownsRow base 33 3 v ps.length (ocl ps)
  evs : ∀ p ∈ ps, EvH base w.heap.size w p.2 p.1.evs
theorem OcOwn.nil (base : Nat) (w : World) : OcOwn base w (.slice none 0 0) [] := ⟨World.ownsRow_nil _ _ _ _, fun p hp => by cases hp⟩
theorem OcOwn.shape {base : Nat} {w : World} {v : Value} {ps : List (Oc × Value)} (h : OcOwn base w v ps) (hn : 0 < ps.length) : ∃ g c, v = .slice (some ⟨g, 0, none⟩) ps.length c ∧ base ≤ g ∧ g < w.heap.size ∧ ps.length ≤ c ∧ c ≤ maxLen ∧
    ∀ i (hi : i < ps.length), w.cell? ⟨g, i * 3, none⟩ = some (.int .i64 ps[i].1.code) ∧ w.cell? ⟨g, i * 3 + 1, none⟩ = some (.int .i64 ps[i].1.ver) ∧ w.cell? ⟨g, i * 3 + 2, none⟩ = some ps[i].2 := by
  rcases h.row.2 with ⟨_, h0⟩ | ⟨g, cap, cur, hv, hb, hg, hnc, hcm, hcs, ht⟩
  · omega
  · refine ⟨g, cap, hv, hb, lt_of_block hg, hnc, hcm, fun i hi => ?_⟩
    have hr := h.row
    rw [hv] at hr
    have at_ : ∀ j, j < 3 → w.cell? ⟨g, i * 3 + j, none⟩ = [Value.int .i64 ps[i].1.code, .int .i64 ps[i].1.ver, ps[i].2][j]? := fun j hj => by
      rw [World.ownsRow.cellAt hr (i * 3 + j) (by omega), ocl_at ps hi hj]
    exact ⟨at_ 0 (by omega), at_ 1 (by omega), at_ 2 (by omega)⟩
theorem OcOwn.ocs {base : Nat} {w : World} {v : Value} {ps : List (Oc × Value)} (h : OcOwn base w v ps) (hl : ps.length ≤ 100000) : OcsB base w.heap.size w v (ps.map Prod.fst) := by
  by_cases h0 : ps.length = 0
  · obtain rfl : ps = [] := List.eq_nil_of_length_eq_zero h0
    rcases h.row.2 with ⟨rfl, _⟩ | ⟨g, cap, cur, rfl, hb, hg, hnc, hcm, _⟩
    · exact ⟨none, 0, rfl, Nat.le_refl _, Nat.zero_le _, fun _ => ⟨rfl, rfl⟩, fun h => by simp at h⟩
    · exact ⟨_, cap, rfl, Nat.zero_le _, hcm, (fun e => by cases e), fun h => by simp at h⟩
  · obtain ⟨g, c, rfl, hb, hg, hnc, hcm, hx⟩ := h.shape (by omega)
    refine ⟨_, c, by simp, by simpa using hnc, hcm, (fun e => by cases e), fun _ => ⟨g, rfl, hb, hg, fun k hk => ?_⟩⟩
    have hk' : k < ps.length := by simpa using hk
    obtain ⟨a, b, d⟩ := hx k hk'
    rw [List.getElem_map]
    exact ⟨_, by rw [Nat.zero_add]; exact a, by rw [Nat.zero_add]; exact b, by rw [Nat.zero_add]; exact d, h.evs _ (List.getElem_mem hk')⟩
/-- An outcome behind a row of one's own. -/
theorem oc_append {X : World} {base n g : Nat} {v V : Value} {xs : List Value} {code ver : Int} (ho : X.ownsRow base 33 3 v n xs) (hg : X.heap[g]? = some (.cells #[.int .i64 code, .int .i64 ver, V] 33 (0, 0))) (hV : V.oneCell' = true) (hb : base ≤ X.heap.size) (hn : n ≤ 100000) :
    ∃ v' X', (Builtin.append_ #[26, 26] 26 #[v, .slice (some ⟨g, 0, none⟩) 1 1]).run Tryd.prog X = .ok v' X' ∧ X'.ownsRow base 33 3 v' (n + 1) (xs ++ [.int .i64 code, .int .i64 ver, V]) ∧ X.grownBy X' v.ownBlock := by
  obtain ⟨i0, hi0, hz0, hz1, hz2⟩ := info_parts Tryd.info_oc
  obtain ⟨v', X', hr, h1, h2, _⟩ := run_append_own (P := Tryd.prog) X base 26 26 33 i0 _ 3 40 Tryd.underlying26 hi0 hz0 hz1 hz2 rfl (by decide) v n xs ho ⟨g, 0, none⟩ 1 1 [.int .i64 code, .int .i64 ver, V] rfl
    (fun j u hu => by rw [Addr.add_lit, Nat.zero_add, Lib.cell_of_heap hg]; simpa using hu) (by intro u hu; simp at hu; rcases hu with rfl | rfl | rfl <;> first | rfl | exact hV) (by unfold maxLen; omega) (by omega) hb
  exact ⟨v', X', hr, h1, h2⟩
section
variable {P : Program}
/-- An 'append' whose run is known, in the walk. -/
theorem wpList_append_known (w : World) {ops : Array Oper} {rest : List Oper} {o : Oper} {a : Act} {Q : Exit → Act → World → Prop} (hgd : o.guard = none) (d s : Operand) (t t' : TypeId)
    (ho : o.op = .call { callee := .builtin .append, args := #[d, s], argTypes := #[t, t'] }) (v u : Value) (hd : a.eval d = v) (hs : a.eval s = u) {v' : Value} {w' : World}
    (hr : (Builtin.append_ #[t, t'] o.type #[v, u]).run P w = .ok v' w') (h : wpList P ops Q rest (a.put o.dst v') w') : wpList P ops Q (o :: rest) a w :=
  wpList_plain hgd fun K hK => by
    unfold Oper.wp
    simp [execOp, ho, resolve, invoke, builtin, hd, hs, hr, Result.andThen]
    exact hK _ _ h
theorem step_append_known {ops : Array Oper} {o : Oper} {a : Act} {w : World} {K : Act → World → Prop} {Q : Exit → Act → World → Prop} {E : Prop}
    (hg : o.guard = none) (d x : Operand) (dT sT : TypeId) (hop : o.op = Op.call { callee := Callee.builtin Builtin.append, args := #[d, x], argTypes := #[dT, sT] })
    (v u : Value) (hd : a.eval d = v) (hx : a.eval x = u) {v' : Value} {w' : World} (hr : (Builtin.append_ #[dT, sT] o.type #[v, u]).run P w = .ok v' w') (hK : K (a.put o.dst v') w') :
    if Region.wanted o (yielded ops a.tmps) = true then Oper.wp P o a w K Q else E := by
  rw [if_pos (by simp [Region.wanted, hg])]
  unfold Oper.wp
  simp [execOp, hop, resolve, invoke, builtin, hd, hx, hr, Result.andThen]
  exact hK
end
theorem far_three {W : World} {g b i : Nat} {a' b' c' : Value} (h : b ≠ g) : (((W.setCell ⟨g, 0, none⟩ a').setCell ⟨g, 1, none⟩ b').setCell ⟨g, 2, none⟩ c').cell? ⟨b, i, none⟩ = W.cell? ⟨b, i, none⟩ :=
  World.cell?_of_block ((Below.heap_setCell _ _ _ _ h).trans ((Below.heap_setCell _ _ _ _ h).trans (Below.heap_setCell _ _ _ _ h)))
theorem set_three {W w3 : World} {g n : Nat} {a b c a' b' c' : Value} {T : TypeId} (hg : W.heap[g]? = some (.cells #[a, b, c] T (0, 0))) (hn : n ≤ g)
    (h : w3 = ((W.setCell ⟨g, 0, none⟩ a').setCell ⟨g, 1, none⟩ b').setCell ⟨g, 2, none⟩ c') :
    w3.heap[g]? = some (.cells #[a', b', c'] T (0, 0)) ∧ Below n W w3 ∧ w3.heap.size = W.heap.size ∧ ∀ k, k ≠ g → w3.heap[k]? = W.heap[k]? := by
  subst h
  refine ⟨heap_setCell_same _ _ 2 _ _ _ (heap_setCell_same _ _ 1 _ _ _ (heap_setCell_same _ _ 0 _ _ _ hg)), (((Below.refl _ _).setCell hn _).setCell hn _).setCell hn _, by simp [World.setCell], fun k hk => ?_⟩
  exact (Below.heap_setCell _ _ _ _ hk).trans ((Below.heap_setCell _ _ _ _ hk).trans (Below.heap_setCell _ _ _ _ hk))
theorem own_base {w : World} {base n : Nat} {v : Value} {xs : List Value} (h : w.ownsRow base 33 3 v n xs) {q : Nat} (hq : v.ownBlock = some q) : base ≤ q := by
  rcases h.2 with ⟨rfl, _⟩ | ⟨g, cap, cur, rfl, hb, hg, _⟩
  · cases hq
  · obtain rfl : g = q := by simpa [Value.ownBlock] using hq
    exact hb
theorem own_lt {w : World} {base n : Nat} {v : Value} {xs : List Value} (h : w.ownsRow base 33 3 v n xs) {q : Nat} (hq : v.ownBlock = some q) : q < w.heap.size := by
  rcases h.2 with ⟨rfl, _⟩ | ⟨g, cap, cur, rfl, hb, hg, _⟩
  · cases hq
  · obtain rfl : g = q := by simpa [Value.ownBlock] using hq
    exact lt_of_block hg
theorem own_not_event {w : World} {base n : Nat} {v : Value} {xs : List Value} (h : w.ownsRow base 33 3 v n xs) {q : Nat} (hq : v.ownBlock = some q) (hl : w.heap.size ≤ q) : False := by
  have := own_lt h hq; omega
theorem own_ne {w : World} {base n k : Nat} {v : Value} {xs : List Value} (h : w.ownsRow base 33 3 v n xs) (hk : k < base) : v.ownBlock = none ∨ v.ownBlock ≠ some k :=
  .inr fun e => by have := own_base h e; omega
/-- How memory stands after k entries. -/
structure ROfI (w : World) (es : List En) (k : Nat) (v : Value) (wr : World) : Prop where
  bel : Below w.heap.size w wr
  size : w.heap.size + 2 ≤ wr.heap.size
  res : wr.heap[w.heap.size]? = some (.cells #[.int .i64 0, .bool false, .int .i64 0, .int .i64 0] 25 (0, 0))
  st : wr.heap[w.heap.size + 1]? = some (.cells #[.int .i64 (upTo es k).1.tag, .bool (upTo es k).1.cl, .int .i64 (upTo es k).1.sum, .int .i64 (upTo es k).1.ver] 25 (0, 0))
  own : ∃ ps, ps.map Prod.fst = (upTo es k).2 ∧ OcOwn (w.heap.size + 2) wr v ps
theorem rofI_start {w W : World} {es : List En} (h : W = (w.alloc (.cells #[.int .i64 0, .bool false, .int .i64 0, .int .i64 0] 25)).alloc (.cells #[.int .i64 0, .bool false, .int .i64 0, .int .i64 0] 25)) : ROfI w es 0 (.slice none 0 0) W := by
  obtain ⟨h1, h2, h3, h4⟩ := two_blocks h
  exact ⟨h2, by omega, h3, h4, [], rfl, OcOwn.nil _ _⟩
theorem rofI_next {w wr w5 : World} {es : List En} {k : Nat} {v v' V : Value} {x : Oc} {s' : St} {ps : List (Oc × Value)} (h : ROfI w es k v wr) (hps : ps.map Prod.fst = (upTo es k).2) (ho : OcOwn (w.heap.size + 2) wr v ps)
    (hu : upTo es (k + 1) = (s', (upTo es k).2 ++ [x])) (hbel : Below w.heap.size w w5) (hsz : wr.heap.size ≤ w5.heap.size)
    (hfr : ∀ q, q < wr.heap.size → q ≠ w.heap.size + 1 → v.ownBlock ≠ some q → w5.heap[q]? = wr.heap[q]?)
    (hst : w5.heap[w.heap.size + 1]? = some (.cells #[.int .i64 s'.tag, .bool s'.cl, .int .i64 s'.sum, .int .i64 s'.ver] 25 (0, 0)))
    (hrow : w5.ownsRow (w.heap.size + 2) 33 3 v' (ps.length + 1) (ocl ps ++ [.int .i64 x.code, .int .i64 x.ver, V]))
    (hV : EvH (w.heap.size + 2) w5.heap.size w5 V x.evs) : ROfI w es (k + 1) v' w5 := by
  have hs := h.size
  have hvb : ∀ q, v.ownBlock = some q → w.heap.size + 2 ≤ q ∧ ∃ cur, wr.heap[q]? = some (.cells cur 33 (0, 0)) := fun q hq => by
    rcases ho.row.2 with ⟨rfl, _⟩ | ⟨g, cap, cur, rfl, hb, hg, _⟩
    · cases hq
    · obtain rfl : g = q := by simpa [Value.ownBlock] using hq
      exact ⟨hb, cur, hg⟩
  refine ⟨hbel, by omega, ?_, by rw [hu]; exact hst, ps ++ [(x, V)], by rw [hu]; simp [hps], ?_, ?_⟩
  · rw [hfr _ (by omega) (by omega) (fun e => by have := (hvb _ e).1; omega)]; exact h.res
  · rw [ocl_snoc]; simpa using hrow
  · intro p hp
    rcases List.mem_append.1 hp with hp | hp
    · rcases ho.evs p hp with hn | ⟨e, g, he, hv, hl, hh, hg⟩
      · exact .inl hn
      · refine .inr ⟨e, g, he, hv, hl, by omega, ?_⟩
        rw [hfr g hh (by omega) (fun e' => ?_)]; exact hg
        obtain ⟨_, cur, hc⟩ := hvb g e'
        rw [hg] at hc
        simp at hc
    · obtain rfl : p = (x, V) := by simpa using hp
      exact hV
end Go.Proofs.YtafhjlfnhgkcoaaDoor
