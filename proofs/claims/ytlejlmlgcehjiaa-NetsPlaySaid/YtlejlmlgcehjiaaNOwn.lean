/-
  A message with entries of its own: the program's own, the document's twin.
-/
import Derived.Test.YtlejlmlgcehjiaaNMem
import Derived.Laws.Rows
import Derived.Deep.WholeRow
import Derived.ArgAppend
import Derived.OwnWalk
import Derived.Deep.AppendSrc
import Derived.Deep.Upon
namespace Go.Proofs.Ytlejlmlgcehjiaa
open Go.RowKit
theorem EOwn.base {w : World} {base base' : Nat} {v : Value} {es : List Net.Ent} (h : EOwn w base v es) (hb : base' ≤ base) : EOwn w base' v es := own_base h fun k hk => Nat.le_trans hb (World.ownsRow.lt h k hk).1
theorem EOwn.foot {S : Nat → Prop} {w w' : World} {base : Nat} {v : Value} {es : List Net.Ent} (h : EOwn w base v es) (hf : Foot S w w') (hn : ∀ k, v.ownBlock = some k → ¬ S k) : EOwn w' base v es := owns_foot h hf hn
theorem EOwn.below {w w' : World} {base : Nat} {v : Value} {es : List Net.Ent} (h : EOwn w base v es) (hb : Below w.heap.size w w') : EOwn w' base v es := h.foot (below_foot hb : Foot (fun _ => False) w w') fun _ _ e => e
theorem EOwn.lt {w : World} {base : Nat} {v : Value} {es : List Net.Ent} (h : EOwn w base v es) {k : Nat} (hk : v.ownBlock = some k) : base ≤ k ∧ k < w.heap.size := World.ownsRow.lt h k hk
theorem empty_own {w : World} {base size : Nat} (t : TypeId) (h : base ≤ w.heap.size) : (w.alloc (.cells #[] t)).ownsRow base t size (.slice (some ⟨w.heap.size, 0, none⟩) 0 0) 0 [] :=
  ⟨by simp, .inr ⟨w.heap.size, 0, #[], rfl, h, heap_alloc_new w _, Nat.le_refl _, Nat.zero_le _, by simp, by simp⟩⟩
theorem own_is_slice {w : World} {base : Nat} {e : TypeId} {size n : Nat} {v : Value} {xs : List Value} (h : w.ownsRow base e size v n xs) : ∃ A c, v = .slice A n c ∧ n ≤ c := by
  rcases h.2 with ⟨rfl, rfl⟩ | ⟨g, cap, cur, rfl, _, _, hnc, _⟩
  · exact ⟨none, 0, rfl, Nat.le_refl _⟩
  · exact ⟨_, _, rfl, hnc⟩
/-- 'append' of entries, whosever, to a row of one's own. -/
theorem run_append_ents {w : World} {base n : Nat} {v ka : Value} {xs : List Value} {es : List Net.Ent} (ho : w.ownsRow base 40 6 v n xs) (hk : Ents w ka es) (hb : base ≤ w.heap.size) (hnl : n + es.length ≤ 1000000) :
    ∃ A c w', (Builtin.append_ #[30, 30] 30 #[v, ka]).run Try.prog w = .ok (.slice A (n + es.length) c) w' ∧ w'.ownsRow base 40 6 (.slice A (n + es.length) c) (n + es.length) (xs ++ ecs es) ∧ w.grownBy w' v.ownBlock := by
  obtain ⟨i0, hi0, hz0, hz1, hz2⟩ := info_parts Try.info_entry
  obtain ⟨KA, kc, rfl, h1, h2, h3, h4⟩ := hk
  rcases es with _ | ⟨y, l⟩
  · obtain ⟨A, c, rfl, hac⟩ := own_is_slice ho
    have hs : Src Try.prog i0.size 30 (.slice KA 0 kc) 0 [] w := by
      rcases KA with _ | a
      · exact Src.ofNil w Try.underlying30 kc
      · exact Src.ofSlice w Try.underlying30 a 0 kc [] (by simp) (fun j u h => by simp at h) (fun u h => by simp at h)
    refine ⟨A, c, w, run_append_nothing w _ _ _ 40 i0 Try.underlying30 hi0 A n c hac _ hs, ?_, World.grownBy.refl w _⟩
    simpa [ecs] using ho
  · obtain ⟨b, off, rfl, hbl, hc⟩ := h4 (by simp)
    obtain ⟨v', w', hr, ho', hg, _⟩ := run_append_own (P := Try.prog) w base 30 30 40 i0 _ 6 48 Try.underlying30 hi0 hz0 hz1 hz2 rfl (by decide) v n xs ho ⟨b, off, none⟩ (y :: l).length kc (ecs (y :: l)) (ecs_len _)
      (fun j u hu => by rw [Addr.add_lit]; exact hc j u hu) (ecs_one _) (Nat.le_trans hnl (by decide)) (by omega) hb
    obtain ⟨A, c, rfl, _⟩ := own_is_slice ho'
    exact ⟨A, c, w', hr, ho', hg⟩
section
variable {P : Program}
/-- An 'append' whose run is known, in the walk. -/
theorem wpList_append_known (w : World) {ops : Array Oper} {rest : List Oper} {o : Oper} {a : Act} {Q : Exit → Act → World → Prop} (hgd : o.guard = none) (d s : Operand) (t t' : TypeId)
    (ho : o.op = .call { callee := .builtin .append, args := #[d, s], argTypes := #[t, t'] }) (v u : Value) (hd : a.eval d = v) (hs : a.eval s = u) {v' : Value} {w' : World}
    (hr : (Builtin.append_ #[t, t'] o.type #[v, u]).run P w = .ok v' w') (h : wpList P ops Q rest (a.put o.dst v') w') : wpList P ops Q (o :: rest) a w :=
  wpList_plain hgd fun K hK => by
    unfold Oper.wp
    simp [execOp, ho, resolve, invoke, builtin, hd, hs, hr, Result.andThen]
    exact hK _ _ h
end
theorem enil_t (n c : Nat) (W : World) : (binOp .eql 30 (.slice none n c) (.slice none 0 0)).run Try.prog W = .ok (.bool true) W := by kernel_rfl
theorem enil_f (a : Addr) (n c : Nat) (W : World) : (binOp .eql 30 (.slice (some a) n c) (.slice none 0 0)).run Try.prog W = .ok (.bool false) W := by kernel_rfl
/-- What a clone answers: a row of one's own, in new memory. -/
def ClonePost (es : List Net.Ent) (w : World) (e : Ending) (w' : World) : Prop := ∃ A c, e = .returned (.slice A es.length c) ∧ Hid (EOwn w' w.heap.size (.slice A es.length c) es) ∧ Hid (Below w.heap.size w w')
set_option maxRecDepth 100000 in
set_option maxHeartbeats 1000000 in
theorem eclone_any {w : World} {v : Value} {es : List Net.Ent} (h : Ents w v es) (hl : es.length ≤ 100000) : Calls Try.prog 36 #[v] w (ClonePost es w) := by
  have hb0 : Below w.heap.size w (w.alloc (.cells #[] 40)) := (Below.refl _ _).alloc (Nat.le_refl _) _
  obtain ⟨A', c', w1, hr, ho, hg⟩ := run_append_ents (empty_own (size := 6) 40 (Nat.le_refl w.heap.size)) (h.below hb0) (by simp) (by omega)
  have hb1 : Below w.heap.size w w1 := hb0.grown hg (by simp) fun k hk => by injection hk with hk; subst hk; simp
  rw [Nat.zero_add] at hr ho
  rw [List.nil_append] at ho
  obtain ⟨A, c, rfl, h1, h2, h3⟩ := h.len
  have HR := Lib.hid hr
  have HO := Lib.hid ho
  have HB := Lib.hid hb1
  clear hr ho hg hb1 hb0 h
  rcases A with _ | a
  · obtain ⟨h4, h5⟩ := h3 rfl
    obtain rfl : es = [] := List.eq_nil_of_length_eq_zero h4
    subst h5
    clear h3 h4
    simp only [List.length_nil] at *
    have hq := enil_t 0 0
    go_enter Try.func36, Try.ntmps36
    go_wp2
    go_ret
    exact ⟨none, 0, rfl, Lib.hid (EOwn.nil _ _), Lib.hid (Below.refl _ _)⟩
  · clear h3
    have hq := enil_f a es.length c
    go_enter Try.func36, Try.ntmps36
    go_wp2_with (at_builtin; refine wpList_append_known _ rfl _ _ _ _ rfl _ _ rfl rfl HR.out ?_)
    go_ret
    exact ⟨A', c', rfl, HO, HB⟩
/-- The block of a message. -/
theorem mail_cells {w : World} {b : Nat} {h : Net.Hd} {v : Value} {t : TypeId} (hb : w.heap[b]? = some (.cells (mcells h v).toArray t (0, 0))) (j : Nat) : w.cell? ⟨b, j, none⟩ = (mcells h v)[j]? := by
  rw [cell_of_row w b j _ _ _ hb]; simp
/-- A whole message stored. -/
theorem store_mail {W : World} {b : Nat} {old : Array Value} {t : TypeId} (h : Net.Hd) (A : Option Addr) (n c : Nat) (hb : W.heap[b]? = some (.cells old t (0, 0))) (ho : old.size = 18) :
    ∃ W', (storeCells ⟨b, 0, none⟩ (mcells h (.slice A n c))).run Try.prog W = .ok () W' ∧ W'.heap[b]? = some (.cells (mcells h (.slice A n c)).toArray t (0, 0)) ∧ Foot (fun k => k = b) W W' := by
  have hr := run_storeVar_row (P := Try.prog) W b t 36 old (mcells h (.slice A n c)).toArray hb (by kernel_rfl) ho (by simp [mcells, Value.oneCell'])
  refine ⟨W.setRow b (mcells h (.slice A n c)).toArray, ?_, setRow_heap W b _ _ _ _ hb, Foot.row (fun k => k = b) _ b _ rfl⟩
  cases hq : Try.prog.info? 36 with
  | none =>
    obtain ⟨i0, hi, _⟩ := info_parts Try.info_mail
    rw [hq] at hi; cases hi
  | some i =>
    have hs : i.size = 18 := by
      obtain ⟨i0, hi, hz0, hz1, hz2⟩ := info_parts Try.info_mail
      rw [hq] at hi; injection hi with hi; rw [hi]; exact hz1
    have hl : (mcells h (.slice A n c)).toArray.size = 18 := rfl
    simpa [storeVar, sizeOf, typeInfo, hq, Value.cells, hs, hl] using hr
/-- What own answers: the message with a row of its own, in new memory. -/
def OwnPost (h : Net.Hd) (es : List Net.Ent) (w : World) (e : Ending) (w' : World) : Prop := ∃ A c, e = .returned (.agg (mcells h (.slice A es.length c)).toArray) ∧ Hid (EOwn w' w.heap.size (.slice A es.length c) es) ∧ Hid (Below w.heap.size w w')
set_option maxRecDepth 100000 in
set_option maxHeartbeats 1000000 in
theorem own_any {w : World} (hd : Net.Hd) {v : Value} {es : List Net.Ent} (h : Ents w v es) (hl : es.length ≤ 100000) : Calls Try.prog 31 #[mval hd v] w (OwnPost hd es w) := by
  obtain ⟨W0, hW0⟩ : ∃ W0, W0 = (w.alloc (.cells (mcells hd v).toArray 36)).alloc (.cells #[.int .i64 0, .int .i64 0, .int .i64 0, .int .i64 0, .int .i64 0, .int .i64 0, .int .i64 0, .int .i64 0, .int .i64 0, .slice none 0 0, .int .i64 0, .int .i64 0, .int .i64 0, .int .i64 0, .int .i64 0, .int .i64 0, .int .i64 0, .int .i64 0] 36) := ⟨_, rfl⟩
  have hb0 : Below w.heap.size w W0 := by rw [hW0]; exact ((Below.refl _ _).alloc (Nat.le_refl _) _).alloc (by simp) _
  have n1 : W0.heap[w.heap.size]? = some (.cells (mcells hd v).toArray 36 (0, 0)) := by rw [hW0]; exact heap_alloc2_old w _ _
  have n2 : W0.heap[w.heap.size + 1]? = some (.cells (mcells Net.hd0 (.slice none 0 0)).toArray 36 (0, 0)) := by rw [hW0]; exact heap_alloc2_new w _ _
  have hsz : W0.heap.size = w.heap.size + 2 := by rw [hW0]; simp
  have hC := Lib.hid (eclone_any (h.below hb0) hl)
  obtain ⟨A, c, rfl, h1, h2, h3⟩ := h.len
  have HB := Lib.hid hb0
  have N1 := Lib.hid n1
  have N2 := Lib.hid n2
  have g9 : (mcells hd (.slice A es.length c))[9]? = some (.slice A es.length c) := rfl
  have c00 : W0.cell? ⟨w.heap.size, 9, none⟩ = some (.slice A es.length c) := by rw [cell_of_row W0 _ _ _ _ _ n1]; rfl
  unfold mval
  clear h h3 hb0 n1 n2
  go_enter Try.func31, Try.ntmps31
  have HW := Lib.hid hW0
  go_wp2_with (rw [← HW.out])
  refine hC.out.mono ?_
  rintro e w' ⟨A', c', rfl, HE, HB'⟩
  have m1 := (HB'.out.block w.heap.size (by omega)).trans N1.out
  have m2 := (HB'.out.block (w.heap.size + 1) (by omega)).trans N2.out
  have s1 := HB'.out.size
  have c0 : w'.cell? ⟨w.heap.size, 9, none⟩ = some (.slice A es.length c) := by rw [cell_of_row w' _ _ _ _ _ m1]; rfl
  have z0 : w'.frozen? ⟨w.heap.size, 9, none⟩ = false := frozen_of_row w' _ _ _ _ m1
  obtain ⟨w2, hw2⟩ : ∃ w2, w2 = w'.setCell ⟨w.heap.size, 9, none⟩ (.slice A' es.length c') := ⟨_, rfl⟩
  have k1 : w2.heap[w.heap.size]? = some (.cells (mcells hd (.slice A' es.length c')).toArray 36 (0, 0)) := by
    rw [hw2, setCell_eq_setRow w' _ 9 _ _ _ _ m1, setRow_heap w' _ _ _ _ _ m1]; rfl
  have k2 : w2.heap[w.heap.size + 1]? = w'.heap[w.heap.size + 1]? := by rw [hw2]; exact Below.heap_setCell w' _ _ _ (by simp)
  rw [m2] at k2
  have HW2 := Lib.hid hw2
  obtain ⟨w3, hst, k3, f3⟩ := store_mail hd A' es.length c' k2 rfl
  have hb3 : Below w.heap.size w w3 := ((HB.out.trans (HB'.out.mono (by omega))).trans (by rw [hw2]; exact (Below.refl w.heap.size w').setCell (p := ⟨w.heap.size, 9, none⟩) (Nat.le_refl _) _)).trans (f3.below fun k hk => by rw [hw2]; simp [World.setCell]; omega)
  have f2 : Foot (fun k => k = w.heap.size ∨ k = w.heap.size + 1) w' w3 := (Foot.set (fun k => k = w.heap.size ∨ k = w.heap.size + 1) w' ⟨w.heap.size, 9, none⟩ (.slice A' es.length c') (.inl rfl)).trans (hw2 ▸ f3) fun k _ e => .inr e
  have HE3 : Hid (EOwn w3 w.heap.size (.slice A' es.length c') es) := (HE.out.foot f2 fun k hk => by have := (HE.out.lt hk).1; omega).base (by omega)
  have HB3 := Lib.hid hb3
  have K3 := Lib.hid k3
  clear hb3 k3 f3 m1 m2 k2 hw2 hW0 g9 c00 f2 HE HB' N1 N2
  go_wp2_with (first | rw [← HW2.out] | (refine wpList_load_row rfl _ _ rfl w.heap.size rfl _ _ _ _ k1 Try.underlying36 rfl (by kernel_rfl) ?_))
  refine bodyPost_ret (results_cell_row rfl _ _ _ _ _ _ _ rfl K3.out Try.underlying36 rfl (by kernel_rfl)) rfl ?_
  exact ⟨A', c', rfl, HE3, HB3⟩
set_option maxRecDepth 100000 in
set_option maxHeartbeats 1000000 in
theorem twin_any {w : World} (hd : Net.Hd) {v : Value} {es : List Net.Ent} (h : Ents w v es) (hl : es.length ≤ 100000) : Calls Try.prog 35 #[mval hd v] w (OwnPost hd es w) := by
  obtain ⟨W0, hW0⟩ : ∃ W0, W0 = (w.alloc (.cells (mcells hd v).toArray 36)).alloc (.cells #[.int .i64 0, .int .i64 0, .int .i64 0, .int .i64 0, .int .i64 0, .int .i64 0, .int .i64 0, .int .i64 0, .int .i64 0, .slice none 0 0, .int .i64 0, .int .i64 0, .int .i64 0, .int .i64 0, .int .i64 0, .int .i64 0, .int .i64 0, .int .i64 0] 36) := ⟨_, rfl⟩
  have hb0 : Below w.heap.size w W0 := by rw [hW0]; exact ((Below.refl _ _).alloc (Nat.le_refl _) _).alloc (by simp) _
  have n1 : W0.heap[w.heap.size]? = some (.cells (mcells hd v).toArray 36 (0, 0)) := by rw [hW0]; exact heap_alloc2_old w _ _
  have n2 : W0.heap[w.heap.size + 1]? = some (.cells (mcells Net.hd0 (.slice none 0 0)).toArray 36 (0, 0)) := by rw [hW0]; exact heap_alloc2_new w _ _
  have hsz : W0.heap.size = w.heap.size + 2 := by rw [hW0]; simp
  obtain ⟨A', c', w', hr, ho, hg⟩ := run_append_ents (World.ownsRow_nil W0 W0.heap.size 40 6) (h.below hb0) (Nat.le_refl _) (by omega)
  rw [Nat.zero_add] at hr ho
  rw [List.nil_append] at ho
  have HB' : Below W0.heap.size W0 w' := (Below.refl _ _).grown hg (Nat.le_refl _) fun k hk => by cases hk
  obtain ⟨A, c, rfl, h1, h2, h3⟩ := h.len
  have m1 := (HB'.block w.heap.size (by omega)).trans n1
  have m2 := (HB'.block (w.heap.size + 1) (by omega)).trans n2
  have s1 := HB'.size
  have g9 : (mcells hd (.slice A es.length c))[9]? = some (.slice A es.length c) := rfl
  have c0 : w'.cell? ⟨w.heap.size, 9, none⟩ = some (.slice A es.length c) := by rw [cell_of_row w' _ _ _ _ _ m1]; rfl
  have c00 : W0.cell? ⟨w.heap.size, 9, none⟩ = some (.slice A es.length c) := by rw [cell_of_row W0 _ _ _ _ _ n1]; rfl
  have z0 : w'.frozen? ⟨w.heap.size, 9, none⟩ = false := frozen_of_row w' _ _ _ _ m1
  obtain ⟨w2, hw2⟩ : ∃ w2, w2 = w'.setCell ⟨w.heap.size, 9, none⟩ (.slice A' es.length c') := ⟨_, rfl⟩
  have k1 : w2.heap[w.heap.size]? = some (.cells (mcells hd (.slice A' es.length c')).toArray 36 (0, 0)) := by
    rw [hw2, setCell_eq_setRow w' _ 9 _ _ _ _ m1, setRow_heap w' _ _ _ _ _ m1]; rfl
  have k2 : w2.heap[w.heap.size + 1]? = w'.heap[w.heap.size + 1]? := by rw [hw2]; exact Below.heap_setCell w' _ _ _ (by simp)
  rw [m2] at k2
  have HW2 := Lib.hid hw2
  obtain ⟨w3, hst, k3, f3⟩ := store_mail hd A' es.length c' k2 rfl
  have hb3 : Below w.heap.size w w3 := ((hb0.trans (HB'.mono (by omega))).trans (by rw [hw2]; exact (Below.refl w.heap.size w').setCell (p := ⟨w.heap.size, 9, none⟩) (Nat.le_refl _) _)).trans (f3.below fun k hk => by rw [hw2]; simp [World.setCell]; omega)
  have f2 : Foot (fun k => k = w.heap.size ∨ k = w.heap.size + 1) w' w3 := (Foot.set (fun k => k = w.heap.size ∨ k = w.heap.size + 1) w' ⟨w.heap.size, 9, none⟩ (.slice A' es.length c') (.inl rfl)).trans (hw2 ▸ f3) fun k _ e => .inr e
  have HE3 : Hid (EOwn w3 w.heap.size (.slice A' es.length c') es) := (EOwn.foot ho f2 fun k hk => by have := (World.ownsRow.lt ho k hk).1; omega).base (by omega)
  have HB3 := Lib.hid hb3
  have K3 := Lib.hid k3
  have HW := Lib.hid hW0
  have HR := Lib.hid hr
  unfold mval
  clear hb3 k3 f3 m1 m2 k2 hw2 hW0 f2 HB' n1 n2 h h3 hb0 hr ho hg hsz s1
  go_enter Try.func35, Try.ntmps35
  go_wp2_with (first | rw [← HW.out] | rw [← HW2.out] | (at_builtin; refine wpList_append_known _ rfl _ _ _ _ rfl _ _ rfl rfl HR.out ?_) | (refine wpList_load_row rfl _ _ rfl w.heap.size rfl _ _ _ _ k1 Try.underlying36 rfl (by kernel_rfl) ?_))
  refine bodyPost_ret (results_cell_row rfl _ _ _ _ _ _ _ rfl K3.out Try.underlying36 rfl (by kernel_rfl)) rfl ?_
  exact ⟨A', c', rfl, HE3, HB3⟩
end Go.Proofs.Ytlejlmlgcehjiaa
