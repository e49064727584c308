/-
  A row of outcomes that is made, and filled place by place; the map of what came first.
-/
import Derived.Test.YtafhjlfnhgkcoaaDoorFoSame
import Derived.Maps.OwnSet
import Derived.Maps.Views
import Derived.DeepKeys4
import Derived.Laws.CopyRow
import Derived.Laws.MakeOwn
namespace Go.Proofs.YtafhjlfnhgkcoaaDoor
open Go.RowKit Go.Sort Go.Maps
theorem Tryd.laidOut1 : laidOutB Tryd.prog = true := by kernel_rfl
/-- What the key of an ID reads as. -/
def nameKey (id : Int) : Lit := .string (keyBytes [.int .i64 id])
set_option maxRecDepth 100000 in
theorem name_law : Keyed Tryd.prog 54 := Keyed.of_law (deep_law_laid Tryd.laidOut1 (m := 2) (by omega) (of_decide_eq_true (by kernel_rfl)) (by kernel_rfl) (by kernel_rfl))
theorem keyLits_one {P : Program} {t : TypeId} {f : Field} {d : Nat} {id : Int} (ht : P.underlying t = some (.struct #[f])) (hf : (f.name != "_") = true) (ho : f.offset = 0) (he : P.underlying f.type = some (.int .i64))
    (hc : P.cellsOf t = 1) (hce : P.cellsOf f.type = 1) (hw : (Lit.int .i64 id).wf = true) : P.keyLits (d + 2) t [.int .i64 id] = some [.int .i64 id] := by
  have h1 : P.keyLits (d + 1) f.type [.int .i64 id] = some [.int .i64 id] := by
    unfold Program.keyLits
    rw [he]
    simp [hw]
  unfold Program.keyLits
  rw [ht]
  have hf' : ¬ f.name = "_" := by simpa using hf
  simp [hc, hf', ho, hce, h1]
theorem keyOf_name {id : Int} (h : -9223372036854775808 ≤ id ∧ id ≤ 9223372036854775807) : keyOf Tryd.prog 54 (.agg #[.int .i64 id]) = some (nameKey id) := by
  have hw : (Lit.int .i64 id).wf = true := WalkArith.wf_i64 h
  have hk : Tryd.prog.keyType 54 = true := by kernel_rfl
  have hf : (Value.agg #[.int .i64 id]).formed Tryd.prog 54 = true := by
    simp only [Value.formed, Tryd.underlying54]
    exact beq_iff_eq.2 (by kernel_rfl)
  obtain ⟨d, hd⟩ : ∃ d, Tryd.prog.types.size + 1 = d + 2 := ⟨Tryd.prog.types.size - 1, by have : 0 < Tryd.prog.types.size := of_decide_eq_true (by kernel_rfl); omega⟩
  have hl := keyLits_one (d := d) (id := id) Tryd.underlying54 (by decide) rfl Tryd.underlying3 (by kernel_rfl) (by kernel_rfl) hw
  unfold keyOf
  rw [Tryd.underlying54]
  simp only [hk, hf, Bool.and_self, if_true, hd]
  exact (congrArg _ hl).trans rfl
theorem nameKey_ne {a b : Int} (ha : -9223372036854775808 ≤ a ∧ a ≤ 9223372036854775807) (hb : -9223372036854775808 ≤ b ∧ b ≤ 9223372036854775807) (h : a ≠ b) : nameKey a ≠ nameKey b := fun e => by
  have := name_law.inj (keyOf_name ha) (e ▸ keyOf_name hb)
  simp at this
  exact h this
/-- The map knows where each ID stood first. -/
def Knows (D : DataW Unit) (l : List En) : Prop := ∀ id : Int, -9223372036854775808 ≤ id ∧ id ≤ 9223372036854775807 → match firstAt l id with
  | some k => Maps.has D (nameKey id) = true ∧ ∀ z, D.atKey (nameKey id) z = .lit (.int .i64 k)
  | none => Maps.has D (nameKey id) = false
theorem knows_nil : Knows (.map []) [] := fun _ _ => rfl
theorem Knows.same {D : DataW Unit} {l : List En} {i k : Nat} (h : Knows D (l.take i)) (hi : i < l.length) (hf : firstAt (l.take i) l[i].o.id = some k) : Knows D (l.take (i + 1)) := fun id hid => by
  have h1 := h id hid
  rw [firstAt_take_succ hi]
  cases hx : firstAt (l.take i) id with
  | some k' => rw [hx] at h1; exact h1
  | none =>
    rw [hx] at h1
    have : l[i].o.id ≠ id := fun e => by rw [e, hx] at hf; cases hf
    simp only [this, if_false]
    exact h1
theorem Knows.put {D : DataW Unit} {l : List En} {i : Nat} (h : Knows D (l.take i)) (hm : IsMap D) (hi : i < l.length) (hr : -9223372036854775808 ≤ l[i].o.id ∧ l[i].o.id ≤ 9223372036854775807) (hf : firstAt (l.take i) l[i].o.id = none) :
    Knows (D.put (nameKey l[i].o.id) (.lit (.int .i64 (i : Int)))) (l.take (i + 1)) := fun id hid => by
  have h1 := h id hid
  rw [firstAt_take_succ hi]
  by_cases he : l[i].o.id = id
  · subst he
    rw [hf]
    simp only [if_true]
    have hk : WideAt.IsKeyLit (nameKey l[i].o.id) := name_law.key (keyOf_name hid)
    exact ⟨has_put_same hm hk _, fun z => atKey_put_same hm hk _ z⟩
  · have hne : nameKey id ≠ nameKey l[i].o.id := nameKey_ne hid hr fun e => he e.symm
    cases hx : firstAt (l.take i) id with
    | some k' =>
      rw [hx] at h1
      exact ⟨by rw [has_put_other hne]; exact h1.1, fun z => by rw [atKey_put_other hne]; exact h1.2 z⟩
    | none =>
      rw [hx] at h1
      simp only [he, if_false]
      rw [has_put_other hne]; exact h1
theorem zeroInt (w : World) : (zeroValue 3).run Tryd.prog w = .ok (.int .i64 0) w := by kernel_rfl
theorem look_hit {W : World} {b n : Nat} {D : DataW Unit} {l : List En} {id : Int} {k : Nat} (h : W.ownsMap Tryd.prog 54 (plainElem Tryd.prog 3) b n D) (hD : Knows D l) (hr : -9223372036854775808 ≤ id ∧ id ≤ 9223372036854775807) (hf : firstAt l id = some k) :
    (Instr.lookup 52 (.map (some b)) (.agg #[.int .i64 id]) true).run Tryd.prog W = .ok (.tuple #[.int .i64 (k : Int), .bool true]) W := by
  obtain ⟨v, ps, hrun, hv⟩ := h.look_ok name_law Tryd.underlying52 (zeroInt W) (zd := .lit (.int .i64 0)) (zp := []) (plainElem_int Tryd.underlying3 (by decide)) (keyOf_name hr)
  have h1 := hD id hr
  rw [hf] at h1
  obtain ⟨c, rfl, hc, hwc⟩ := plainElem_int_inv Tryd.underlying3 hv
  have h2 := congrArg Prod.fst hc
  simp only [h1.2] at h2
  injection h2 with h2
  injection h2 with _ h2
  rw [hrun, h1.1, ← h2]
theorem look_miss {W : World} {b n : Nat} {D : DataW Unit} {l : List En} {id : Int} (h : W.ownsMap Tryd.prog 54 (plainElem Tryd.prog 3) b n D) (hD : Knows D l) (hr : -9223372036854775808 ≤ id ∧ id ≤ 9223372036854775807) (hf : firstAt l id = none) :
    (Instr.lookup 52 (.map (some b)) (.agg #[.int .i64 id]) true).run Tryd.prog W = .ok (.tuple #[.int .i64 0, .bool false]) W := by
  obtain ⟨v, ps, hrun, hv⟩ := h.look_ok name_law Tryd.underlying52 (zeroInt W) (zd := .lit (.int .i64 0)) (zp := []) (plainElem_int Tryd.underlying3 (by decide)) (keyOf_name hr)
  have h1 := hD id hr
  rw [hf] at h1
  obtain ⟨c, rfl, hc, hwc⟩ := plainElem_int_inv Tryd.underlying3 hv
  have h2 := congrArg Prod.fst hc
  simp only [atKey_of_not_has h1] at h2
  injection h2 with h2
  injection h2 with _ h2
  rw [hrun, h1, ← h2]
theorem map_run (X : World) (n : Int) : (Instr.makeMap 52 (some (.int .i64 n))).run Tryd.prog X = .ok (.map (some X.heap.size)) (X.alloc (.map #[] 0)) := by
  simp [Instr.makeMap, run_underlying Tryd.underlying52, asInt, Result.andThen]
  rfl
section
variable {P : Program} {ops : Array Oper} {rest : List Oper} {o : Oper} {a : Act} {w w' : World} {Q : Exit → Act → World → Prop}
/-- A look-up whose run is known, in the walk. -/
theorem wpList_lookup_known (hgd : o.guard = none) (t : TypeId) (m x : Operand) (c : Bool) (ho : o.op = .lookup t m x c) (vm vx v : Value) (hm : a.eval m = vm) (hx : a.eval x = vx) (hr : (Instr.lookup t vm vx c).run P w = .ok v w)
    (h : wpList P ops Q rest (a.put o.dst v) w) : wpList P ops Q (o :: rest) a w :=
  wpList_plain hgd fun K hK => by
    unfold Oper.wp
    simp [execOp, ho, hm, hx, hr, Result.andThen]
    exact hK _ _ h
end
theorem Tryd.info_oc : (Tryd.prog.info? 33).map (fun i => (i.zero, i.size, i.bytes)) = some (some (.agg #[.int .i64 0, .int .i64 0, .slice none 0 0]), 3, 40) := by kernel_rfl
def ozs (n : Nat) : Array Value := madeCells (Value.agg #[.int .i64 0, .int .i64 0, .slice none 0 0]).cells (n * 3)
theorem ocmade_run (X : World) (n : Nat) (hn : n ≤ 100000) : (Instr.makeSlice 26 (.int .i64 (n : Int)) (.int .i64 (n : Int))).run Tryd.prog X = .ok (.slice (some ⟨X.heap.size, 0, none⟩) n n) (X.alloc (.cells (ozs n) 33)) := by
  obtain ⟨i0, hi0, hz0, hz1, hz2⟩ := info_parts Tryd.info_oc
  have h := run_makeSlice (P := Tryd.prog) X 26 33 i0 _ Tryd.underlying26 hi0 hz0 .i64 .i64 (n : Int) (n : Int) (by omega) (Int.le_refl _) (by rw [hz1]; omega) (by rw [hz2]; omega) (by omega)
  rw [hz1] at h
  exact h
theorem ozs_size (n : Nat) : (ozs n).size = n * 3 := by simp [ozs, madeCells]
/-- An outcome stored at a place of a row. -/
theorem oc_store {W : World} {g i n : Nat} {cur : Array Value} (code ver : Int) {V : Value} (hV : V.oneCell' = true) (hg : W.heap[g]? = some (.cells cur 33 (0, 0))) (hn : cur.size = n * 3) (hi : i < n) :
    ∃ W' : World, (storeVar 33 ⟨g, i * 3, none⟩ (.agg #[.int .i64 code, .int .i64 ver, V])).run Tryd.prog W = .ok () W' ∧ (∃ cur', W'.heap[g]? = some (.cells cur' 33 (0, 0)) ∧ cur'.size = n * 3) ∧
      W'.cell? ⟨g, i * 3, none⟩ = some (.int .i64 code) ∧ W'.cell? ⟨g, i * 3 + 1, none⟩ = some (.int .i64 ver) ∧ W'.cell? ⟨g, i * 3 + 2, none⟩ = some V ∧
      (∀ j, j ≠ i → j < n → ∀ d, d < 3 → W'.cell? ⟨g, j * 3 + d, none⟩ = W.cell? ⟨g, j * 3 + d, none⟩) ∧ (∀ m, m ≤ g → Below m W W') ∧ W'.heap.size = W.heap.size ∧ ∀ k, k ≠ g → W'.heap[k]? = W.heap[k]? := by
  have hst := run_storeCells_at (P := Tryd.prog) g (i * 3) 33 [.int .i64 code, .int .i64 ver, V] 0 cur W hg (by simp; omega) (by intro v hv; simp at hv; rcases hv with rfl | rfl | rfl <;> first | rfl | exact hV)
  obtain ⟨i0, hi0, hz0, hz1, hz2⟩ := info_parts Tryd.info_oc
  simp only [Nat.add_zero, List.length_cons, List.length_nil] at hst
  refine ⟨W.setRow g (cur.toList.take (i * 3) ++ [.int .i64 code, .int .i64 ver, V] ++ cur.toList.drop (i * 3 + 3)).toArray, by simp [storeVar, sizeOf, typeInfo, hi0, hz1, Value.cells, hst], ?_⟩
  have hnew := setRow_heap W g cur (cur.toList.take (i * 3) ++ [.int .i64 code, .int .i64 ver, V] ++ cur.toList.drop (i * 3 + 3)).toArray 33 (0, 0) hg
  have hl1 : (cur.toList.take (i * 3)).length = i * 3 := by simp; omega
  have at_ : ∀ j, (W.setRow g (cur.toList.take (i * 3) ++ [.int .i64 code, .int .i64 ver, V] ++ cur.toList.drop (i * 3 + 3)).toArray).cell? ⟨g, j, none⟩ = (cur.toList.take (i * 3) ++ [.int .i64 code, .int .i64 ver, V] ++ cur.toList.drop (i * 3 + 3))[j]? := fun j => by
    rw [Lib.cell_of_heap hnew]; simp
  refine ⟨⟨_, hnew, by simp; omega⟩, ?_, ?_, ?_, ?_, fun m hm => ⟨rfl, rfl, rfl, by simp, fun k hk => setRow_other _ _ _ _ (by omega)⟩, by simp, fun k hk => setRow_other _ _ _ _ hk⟩
  · rw [at_, List.append_assoc, List.getElem?_append_right (by omega), hl1, Nat.sub_self]; rfl
  · rw [at_, List.append_assoc, List.getElem?_append_right (by omega), hl1, show i * 3 + 1 - i * 3 = 1 by omega]; rfl
  · rw [at_, List.append_assoc, List.getElem?_append_right (by omega), hl1, show i * 3 + 2 - i * 3 = 2 by omega]; rfl
  · intro j hj hjn d hd
    rw [at_, Lib.cell_of_heap hg]
    by_cases hlt : j < i
    · rw [List.append_assoc, List.getElem?_append_left (by omega), List.getElem?_take, if_pos (by omega)]; simp
    · rw [List.getElem?_append_right (by simp; omega), List.getElem?_drop]
      simp only [List.length_append, hl1, List.length_cons, List.length_nil]
      rw [show i * 3 + 3 + (j * 3 + d - (i * 3 + (0 + 1 + 1 + 1))) = j * 3 + d by omega]; simp
/-- Two cells of a block stored. -/
theorem set_two {W w3 : World} {g n : Nat} {a b a' b' : Value} {T : TypeId} (hg : W.heap[g]? = some (.cells #[a, b] T (0, 0))) (hn : n ≤ g)
    (h : w3 = (W.setCell ⟨g, 0, none⟩ a').setCell ⟨g, 1, none⟩ b') :
    w3.heap[g]? = some (.cells #[a', b'] T (0, 0)) ∧ Below n W w3 ∧ w3.heap.size = W.heap.size ∧ ∀ k, k ≠ g → w3.heap[k]? = W.heap[k]? := by
  subst h
  refine ⟨heap_setCell_same _ _ 1 _ _ _ (heap_setCell_same _ _ 0 _ _ _ hg), ((Below.refl _ _).setCell hn _).setCell hn _, by simp [World.setCell], fun k hk => ?_⟩
  exact (Below.heap_setCell _ _ _ _ hk).trans (Below.heap_setCell _ _ _ _ hk)
/-- A state stored cell by cell. -/
theorem set_four {W w3 : World} {g n : Nat} {a b c d a' b' c' d' : Value} {T : TypeId} (hg : W.heap[g]? = some (.cells #[a, b, c, d] T (0, 0))) (hn : n ≤ g)
    (h : w3 = (((W.setCell ⟨g, 0, none⟩ a').setCell ⟨g, 1, none⟩ b').setCell ⟨g, 2, none⟩ c').setCell ⟨g, 3, none⟩ d') :
    w3.heap[g]? = some (.cells #[a', b', c', d'] T (0, 0)) ∧ Below n W w3 ∧ w3.heap.size = W.heap.size ∧ ∀ k, k ≠ g → w3.heap[k]? = W.heap[k]? := by
  subst h
  refine ⟨heap_setCell_same _ _ 3 _ _ _ (heap_setCell_same _ _ 2 _ _ _ (heap_setCell_same _ _ 1 _ _ _ (heap_setCell_same _ _ 0 _ _ _ hg))), ((((Below.refl _ _).setCell hn _).setCell hn _).setCell hn _).setCell hn _, by simp [World.setCell], fun k hk => ?_⟩
  exact (Below.heap_setCell _ _ _ _ hk).trans ((Below.heap_setCell _ _ _ _ hk).trans ((Below.heap_setCell _ _ _ _ hk).trans (Below.heap_setCell _ _ _ _ hk)))
end Go.Proofs.YtafhjlfnhgkcoaaDoor
