/-
  A box of one's own beside the net; a literal of one act.
-/
import Derived.Test.YtlejlmlgcehjiaaNPlay
namespace Go.Proofs.Ytlejlmlgcehjiaa
open Go.RowKit
section
variable {P : Program}
/-- A struct built, whose cells are known. -/
theorem wpList_build_known {ops : Array Oper} {rest : List Oper} {o : Oper} {a : Act} {w : World} {Q : Exit → Act → World → Prop} (hgd : o.guard = none) (t : TypeId) (parts : Array (Nat × Operand)) (ho : o.op = .build t parts)
    (ps : Array (Nat × Value)) (hp : parts.map (fun (i, x) => (i, a.eval x)) = ps) (cs : Array Value) (hr : P.built t ps.toList = some cs) (h : wpList P ops Q rest (a.put o.dst (.agg cs)) w) : wpList P ops Q (o :: rest) a w := by
  refine wpList_build hgd t parts ho ?_ ?_
  · rw [hp, hr]; rfl
  · rw [hp, hr]; exact h
/-- A guarded load whose run is known. -/
theorem wpList_load_want {ops : Array Oper} {rest : List Oper} {o : Oper} {a : Act} {w : World} {Q : Exit → Act → World → Prop} (hw : Region.wanted o (yielded ops a.tmps) = true) (ty : TypeId) (x : Operand) (ho : o.op = .load ty x)
    (ad : Addr) (hx : a.eval x = .pointer (some ad)) {v : Value} (hr : (loadVar ty ad).run P w = .ok v w) (h : wpList P ops Q rest (a.put o.dst v) w) : wpList P ops Q (o :: rest) a w := by
  show (if Region.wanted o (yielded ops a.tmps) then o.wp P a w (wpList P ops Q rest) Q ∨ (o.asks P a w ∧ LetsOut Q) else wpList P ops Q rest (a.put o.dst undef) w)
  rw [if_pos hw]
  left
  unfold Oper.wp execOp
  simp only [ho, hx, Instr.loadAt, Instr.sureAddr, Sem.run_bind, Sem.run_pure, Result.andThen_ok, hr]
  exact h
/-- A slice's literal whose run is known. -/
theorem wpList_buildSlice_known {ops : Array Oper} {rest : List Oper} {o : Oper} {a : Act} {w : World} {Q : Exit → Act → World → Prop} (hgd : o.guard = none) (t : TypeId) (n : Nat) (parts : Array (Nat × Operand)) (ho : o.op = .buildSlice t n parts)
    (ps : Array (Nat × Value)) (hp : parts.map (fun (i, x) => (i, a.eval x)) = ps) {v' : Value} {w' : World} (hr : (Instr.buildSlice t n ps).run P w = .ok v' w') (h : wpList P ops Q rest (a.put o.dst v') w') : wpList P ops Q (o :: rest) a w :=
  wpList_plain hgd fun K hK => by
    unfold Oper.wp
    simp only [execOp, ho, Sem.run_bind, Sem.run_pure]
    rw [hp, hr]
    exact hK _ _ h
end
def av0 (h : Net.Hd) (A : Option Addr) (c : Nat) (es : List Net.Ent) : AV := ⟨0, h, A, c, es, 0⟩
theorem built_act (h : Net.Hd) (A : Option Addr) (c : Nat) (es : List Net.Ent) : Try.prog.built 38 [(1, .agg (mcells h (.slice A es.length c)).toArray)] = some (acells (av0 h A c es)).toArray := by kernel_rfl
theorem slice_act (x : AV) (X : World) : (Instr.buildSlice 22 1 #[(0, .agg (acells x).toArray)]).run Try.prog X = .ok (.slice (some ⟨X.heap.size, 0, none⟩) 1 1) (X.alloc (.cells (acells x).toArray 38)) := by kernel_rfl
theorem lit_act {X : World} {x : AV} (h : Ents X x.v x.es) : ARead (X.alloc (.cells (acells x).toArray 38)) (.slice (some ⟨X.heap.size, 0, none⟩) 1 1) [x] := by
  refine ⟨_, _, rfl, Nat.le_refl _, by unfold maxLen; simp, fun _ => ⟨X.heap.size, 0, rfl, by simp, fun i hi j hj => ?_⟩, fun y hy => ?_⟩
  · obtain rfl : i = 0 := by simpa using hi
    rw [cell_of_row _ _ _ _ _ _ (heap_alloc_new X _), Nat.zero_mul, Nat.zero_add]
    simp
  · obtain rfl : y = x := by simpa using hy
    exact h.below (below_alloc1 X _)
section
variable {w0 wB w w' : World} {SB : Nat → Prop} {n b : Nat} {M : List Net.Ml}
theorem On.lower {wl : World} (h : On w0 wB SB n M w) (hb : Below wl.heap.size wl w0) : On wl wB SB n M w := ⟨h.1, fun k hk => Nat.le_trans hb.size (h.2.1 k hk), hb.trans (h.2.2.mono hb.size)⟩
/-- A block off the net is written: begun anew. -/
theorem On.wrote (h : On w0 wB SB n M w) (hb0 : w0.heap.size ≤ b) (hb : b < wB.heap.size) (hn : ¬ SB b) (hf : Foot (fun k => k = b) w w') : ∃ S, On w0 w' S n M w' ∧ ¬ S b ∧ b < w'.heap.size ∧ (∀ k, S k → k < w'.heap.size) ∧ ∀ k, k < wB.heap.size → ¬ SB k → k ≠ b → ¬ S k ∧ w'.heap[k]? = wB.heap[k]? := by
  have hbel := h.bel
  obtain ⟨⟨S, h1, hf1, h2⟩, h3, h4⟩ := h
  have hnS : ¬ S b := fun e => (h2 b e).elim hn fun e => by omega
  have hN := h1.foot hf fun k hk e => hnS (e ▸ hk)
  refine ⟨S, ⟨⟨S, hN, Foot.refl _ _, fun _ e => .inl e⟩, fun k hk => (h2 k hk).elim (h3 k) fun e => Nat.le_trans h4.size e, hbel.trans (hf.below fun k hk => ⟨Nat.lt_of_lt_of_le hk hbel.size, by omega⟩)⟩, hnS, Nat.lt_of_lt_of_le hb (Nat.le_trans hf1.size hf.size), fun k hk => hN.lt hk, fun k hk hns hne => ⟨fun e => (h2 k e).elim hns fun e => by omega, (hf.block k (Nat.lt_of_lt_of_le hk hf1.size) hne).trans (hf1.block k hk hns)⟩⟩
end
theorem EOwn.ne_mail {w : World} {base b k : Nat} {v : Value} {es : List Net.Ent} {cs : Array Value} (h : EOwn w base v es) (hb : w.heap[b]? = some (.cells cs 36 (0, 0))) (hk : v.ownBlock = some k) : k ≠ b := by
  rintro rfl
  rcases h.2 with ⟨rfl, _⟩ | ⟨g, cap, cur, rfl, _, hg, _⟩
  · cases hk
  · have e : g = k := Option.some.inj hk
    subst e
    rw [hg] at hb
    have h2 := Option.some.inj hb
    injection h2 with _ h3 _
    exact absurd h3 (by decide)
theorem On.skip_ {w0 wB w w' : World} {SB : Nat → Prop} {n : Nat} {M : List Net.Ml} {T : Nat → Prop} (h : On w0 wB SB n M w) (hT : ∀ k, T k → w0.heap.size ≤ k ∧ k < wB.heap.size ∧ ¬ SB k) (hf : Foot T w w') :
    ∃ S, On w0 w' S n M w' ∧ (∀ k, S k → k < w'.heap.size) ∧ ∀ k, k < wB.heap.size → ¬ SB k → ¬ T k → ¬ S k ∧ w'.heap[k]? = wB.heap[k]? := by
  have hbel := h.bel
  obtain ⟨⟨S, h1, hf1, h2⟩, h3, h4⟩ := h
  have hnS : ∀ k, S k → ¬ T k := fun k e hk => (h2 k e).elim (hT k hk).2.2 fun e => by have := (hT k hk).2.1; omega
  have hN := h1.foot hf hnS
  exact ⟨S, ⟨⟨S, hN, Foot.refl _ _, fun _ e => .inl e⟩, fun k hk => (h2 k hk).elim (h3 k) fun e => Nat.le_trans h4.size e, hbel.trans (hf.below fun k hk => ⟨Nat.lt_of_lt_of_le hk hbel.size, fun e => by have := (hT k e).1; omega⟩)⟩, fun k hk => hN.lt hk, fun k hk hns hne => ⟨fun e => (h2 k e).elim hns fun e => by omega, (hf.block k (Nat.lt_of_lt_of_le hk hf1.size) hne).trans (hf1.block k hk hns)⟩⟩
theorem load_box {X : World} {b : Nat} {h : Net.Hd} {v : Value} (hb : X.heap[b]? = some (.cells (mcells h v).toArray 36 (0, 0))) : (loadVar 36 ⟨b, 0, none⟩).run Try.prog X = .ok (.agg (mcells h v).toArray) X :=
  run_loadVar_row X b _ _ (mcells h v).toArray _ _ hb Try.underlying36 rfl (by kernel_rfl)
/-- A message's stamp in its box is set. -/
theorem set_stamp {X : World} {b : Nat} {h : Net.Hd} {v : Value} (hb : X.heap[b]? = some (.cells (mcells h v).toArray 36 (0, 0))) (s : Int) :
    (X.setCell ⟨b, 8, none⟩ (.int .i64 s)).heap[b]? = some (.cells (mcells { h with sp := s } v).toArray 36 (0, 0)) := by
  rw [setCell_eq_setRow X b 8 _ _ _ _ hb, setRow_heap X b _ _ _ _ hb]; rfl
theorem set_ents {X : World} {b : Nat} {h : Net.Hd} {v : Value} (hb : X.heap[b]? = some (.cells (mcells h v).toArray 36 (0, 0))) (u : Value) :
    (X.setCell ⟨b, 9, none⟩ u).heap[b]? = some (.cells (mcells h u).toArray 36 (0, 0)) := by
  rw [setCell_eq_setRow X b 9 _ _ _ _ hb, setRow_heap X b _ _ _ _ hb]; rfl
end Go.Proofs.Ytlejlmlgcehjiaa
