/-
  The message that has these numbers, in plain words. What is stored into a message's box.
-/
import Derived.Test.YtkdnhfeamibmdaaDoorMlUnm
import Derived.Test.YtkdnhfeamibmdaaDoorRcDec
namespace Go.Proofs.YtkdnhfeamibmdaaDoor
open Go.RowKit
def numAt (ns : List Int) (j : Nat) : Int := ns.getD j 0
def entAt (ns : List Int) (k : Nat) : En := ⟨numAt ns (10 + 6 * k), ⟨numAt ns (10 + 6 * k + 1), numAt ns (10 + 6 * k + 2), numAt ns (10 + 6 * k + 3), numAt ns (10 + 6 * k + 4), numAt ns (10 + 6 * k + 5)⟩⟩
def entsOf (ns : List Int) (X : Nat) : List En := (List.range X).map (entAt ns)
def mofM (ns : List Int) (X : Nat) : Ml :=
  ⟨numAt ns 0, numAt ns 1, numAt ns 2, numAt ns 3, numAt ns 4, numAt ns 5, numAt ns 6, numAt ns 7, numAt ns 8, entsOf ns X,
    ⟨numAt ns (10 + 6 * X), numAt ns (10 + 6 * X + 1), numAt ns (10 + 6 * X + 2), numAt ns (10 + 6 * X + 3), numAt ns (10 + 6 * X + 4)⟩, numAt ns (10 + 6 * X + 5), numAt ns (10 + 6 * X + 6), numAt ns (10 + 6 * X + 7)⟩
theorem numAt_eq {ns : List Int} {j : Nat} (h : j < ns.length) : numAt ns j = ns[j] := by simp [numAt, List.getD, h]
theorem rng6 (g : Nat → Int) (a : Nat) : ∀ X, ((List.range X).map fun k => [g (a + 6 * k), g (a + 6 * k + 1), g (a + 6 * k + 2), g (a + 6 * k + 3), g (a + 6 * k + 4), g (a + 6 * k + 5)]).flatten = (List.range (6 * X)).map fun j => g (a + j)
  | 0 => rfl
  | X + 1 => by
    rw [List.range_succ, List.map_append, List.flatten_append, rng6 g a X, show 6 * (X + 1) = 6 * X + 6 by omega, List.range_add, List.map_append, List.map_map]
    congr 1
theorem all_nums (ns : List Int) : (List.range ns.length).map (numAt ns) = ns := by
  refine List.ext_getElem (by simp) fun i h1 h2 => ?_
  simp [numAt_eq h2]
theorem entsOf_len (ns : List Int) (X : Nat) : (entsOf ns X).length = X := by simp [entsOf]
theorem entsOf_succ (ns : List Int) (k : Nat) : entsOf ns (k + 1) = entsOf ns k ++ [entAt ns k] := by simp [entsOf, List.range_succ]
theorem mofM_l {ns : List Int} {X : Nat} (hl : ns.length = 18 + 6 * X) (h9 : numAt ns 9 = (X : Int)) : (mofM ns X).l = ns := by
  have h1 : (((entsOf ns X).map En.l).flatten) = (List.range (6 * X)).map fun j => numAt ns (10 + j) := by
    rw [← rng6 (numAt ns) 10 X, entsOf, List.map_map]
    rfl
  have h2 : esL (entsOf ns X) = (X : Int) :: (List.range (6 * X)).map fun j => numAt ns (10 + j) := by
    rw [← h1, esL, entsOf_len]
  conv => rhs; rw [← all_nums ns, hl, show 18 + 6 * X = 10 + (6 * X + 8) by omega, List.range_add, List.map_append, List.map_map, List.range_add, List.map_append, List.map_map]
  show (mofM ns X).hd ++ (esL (entsOf ns X) ++ (mofM ns X).tl) = _
  rw [h2, ← h9]
  show [numAt ns 0, numAt ns 1, numAt ns 2, numAt ns 3, numAt ns 4, numAt ns 5, numAt ns 6, numAt ns 7, numAt ns 8] ++ (numAt ns 9 :: _ ++ _) = _
  rw [show (List.range 10).map (numAt ns) = [numAt ns 0, numAt ns 1, numAt ns 2, numAt ns 3, numAt ns 4, numAt ns 5, numAt ns 6, numAt ns 7, numAt ns 8] ++ [numAt ns 9] from rfl]
  simp only [List.cons_append, List.nil_append]
  congr 10
theorem l_nine (m : Ml) : numAt m.l 9 = (m.es.length : Int) := rfl
/-- A whole message stored into a box. -/
theorem MlBox.store {W : World} {b : Nat} {old m : Ml} {u : Value} {A : Option Addr} {n c : Nat} (h : MlBox W b old u) :
    (storeVar 45 ⟨b, 0, none⟩ (.agg (m.cells (.slice A n c)).toArray)).run Tryd.prog W = .ok () (W.setRow b (m.cells (.slice A n c)).toArray) ∧ MlBox (W.setRow b (m.cells (.slice A n c)).toArray) b m (.slice A n c) :=
  ⟨run_storeVar_row (P := Tryd.prog) W b 45 45 (old.cells u).toArray (m.cells (.slice A n c)).toArray h (by kernel_rfl) (by simp [Ml.cells]) (by simp [Ml.cells, Value.oneCell']), setRow_heap W b _ _ _ _ h⟩
theorem MlBox.of {W : World} {b : Nat} {m : Ml} {v : Value} {cs : Array Value} (h : W.heap[b]? = some (.cells cs 45 (0, 0))) (hc : (m.cells v).toArray = cs) : MlBox W b m v := by rw [← hc] at h; exact h
theorem MlBox.foot {S : Nat → Prop} {w w' : World} {b : Nat} {m : Ml} {v : Value} (h : MlBox w b m v) (hf : Foot S w w') (hn : ¬ S b) : MlBox w' b m v := hf.kept h hn
def ml0 : Ml := ⟨0, 0, 0, 0, 0, 0, 0, 0, 0, [], Od.none, 0, 0, 0⟩
theorem MlBox.set9 {w : World} {b : Nat} {m : Ml} {v : Value} (h : MlBox w b m v) (u : Value) : MlBox (w.setCell ⟨b, 9, none⟩ u) b m u := by
  unfold MlBox
  rw [setCell_eq_setRow w b 9 _ _ _ _ h, setRow_heap w b _ _ _ _ h]
  rfl
theorem MlBox.o10 {w : World} {b : Nat} {m : Ml} {v : Value} (h : MlBox w b m v) (x : Int) : MlBox (w.setCell ⟨b, 10, none⟩ (.int .i64 x)) b { m with o := { m.o with id := x } } v := by
  unfold MlBox
  rw [setCell_eq_setRow w b 10 _ _ _ _ h, setRow_heap w b _ _ _ _ h]
  rfl
theorem MlBox.o11 {w : World} {b : Nat} {m : Ml} {v : Value} (h : MlBox w b m v) (x : Int) : MlBox (w.setCell ⟨b, 11, none⟩ (.int .i64 x)) b { m with o := { m.o with st := x } } v := by
  unfold MlBox
  rw [setCell_eq_setRow w b 11 _ _ _ _ h, setRow_heap w b _ _ _ _ h]
  rfl
theorem MlBox.o12 {w : World} {b : Nat} {m : Ml} {v : Value} (h : MlBox w b m v) (x : Int) : MlBox (w.setCell ⟨b, 12, none⟩ (.int .i64 x)) b { m with o := { m.o with ex := x } } v := by
  unfold MlBox
  rw [setCell_eq_setRow w b 12 _ _ _ _ h, setRow_heap w b _ _ _ _ h]
  rfl
theorem MlBox.o13 {w : World} {b : Nat} {m : Ml} {v : Value} (h : MlBox w b m v) (x : Int) : MlBox (w.setCell ⟨b, 13, none⟩ (.int .i64 x)) b { m with o := { m.o with ki := x } } v := by
  unfold MlBox
  rw [setCell_eq_setRow w b 13 _ _ _ _ h, setRow_heap w b _ _ _ _ h]
  rfl
theorem MlBox.o14 {w : World} {b : Nat} {m : Ml} {v : Value} (h : MlBox w b m v) (x : Int) : MlBox (w.setCell ⟨b, 14, none⟩ (.int .i64 x)) b { m with o := { m.o with ar := x } } v := by
  unfold MlBox
  rw [setCell_eq_setRow w b 14 _ _ _ _ h, setRow_heap w b _ _ _ _ h]
  rfl
theorem MlBox.o15 {w : World} {b : Nat} {m : Ml} {v : Value} (h : MlBox w b m v) (x : Int) : MlBox (w.setCell ⟨b, 15, none⟩ (.int .i64 x)) b { m with ai := x } v := by
  unfold MlBox
  rw [setCell_eq_setRow w b 15 _ _ _ _ h, setRow_heap w b _ _ _ _ h]
  rfl
theorem MlBox.o16 {w : World} {b : Nat} {m : Ml} {v : Value} (h : MlBox w b m v) (x : Int) : MlBox (w.setCell ⟨b, 16, none⟩ (.int .i64 x)) b { m with ac := x } v := by
  unfold MlBox
  rw [setCell_eq_setRow w b 16 _ _ _ _ h, setRow_heap w b _ _ _ _ h]
  rfl
theorem MlBox.o17 {w : World} {b : Nat} {m : Ml} {v : Value} (h : MlBox w b m v) (x : Int) : MlBox (w.setCell ⟨b, 17, none⟩ (.int .i64 x)) b { m with av := x } v := by
  unfold MlBox
  rw [setCell_eq_setRow w b 17 _ _ _ _ h, setRow_heap w b _ _ _ _ h]
  rfl
theorem MlBox.set_ord {w : World} {b : Nat} {m : Ml} {v : Value} (h : MlBox w b m v) (a0 a1 a2 a3 a4 : Int) :
    MlBox (((((w.setCell ⟨b, 10, none⟩ (.int .i64 a0)).setCell ⟨b, 11, none⟩ (.int .i64 a1)).setCell ⟨b, 12, none⟩ (.int .i64 a2)).setCell ⟨b, 13, none⟩ (.int .i64 a3)).setCell ⟨b, 14, none⟩ (.int .i64 a4)) b { m with o := ⟨a0, a1, a2, a3, a4⟩ } v ∧
    Foot (fun k => k = b) w (((((w.setCell ⟨b, 10, none⟩ (.int .i64 a0)).setCell ⟨b, 11, none⟩ (.int .i64 a1)).setCell ⟨b, 12, none⟩ (.int .i64 a2)).setCell ⟨b, 13, none⟩ (.int .i64 a3)).setCell ⟨b, 14, none⟩ (.int .i64 a4)) :=
  ⟨((((h.o10 a0).o11 a1).o12 a2).o13 a3).o14 a4,
    (((((Foot.set (fun k => k = b) w ⟨b, 10, none⟩ _ rfl).trans (Foot.set (fun k => k = b) _ ⟨b, 11, none⟩ _ rfl) fun _ _ h => h).trans (Foot.set (fun k => k = b) _ ⟨b, 12, none⟩ _ rfl) fun _ _ h => h).trans (Foot.set (fun k => k = b) _ ⟨b, 13, none⟩ _ rfl) fun _ _ h => h).trans (Foot.set (fun k => k = b) _ ⟨b, 14, none⟩ _ rfl) fun _ _ h => h)⟩
theorem MlBox.set_ans {w : World} {b : Nat} {m : Ml} {v : Value} (h : MlBox w b m v) (a0 a1 a2 : Int) :
    MlBox (((w.setCell ⟨b, 15, none⟩ (.int .i64 a0)).setCell ⟨b, 16, none⟩ (.int .i64 a1)).setCell ⟨b, 17, none⟩ (.int .i64 a2)) b { m with ai := a0, ac := a1, av := a2 } v ∧
    Foot (fun k => k = b) w (((w.setCell ⟨b, 15, none⟩ (.int .i64 a0)).setCell ⟨b, 16, none⟩ (.int .i64 a1)).setCell ⟨b, 17, none⟩ (.int .i64 a2)) :=
  ⟨((h.o15 a0).o16 a1).o17 a2, ((Foot.set (fun k => k = b) w ⟨b, 15, none⟩ _ rfl).trans (Foot.set (fun k => k = b) _ ⟨b, 16, none⟩ _ rfl) fun _ _ h => h).trans (Foot.set (fun k => k = b) _ ⟨b, 17, none⟩ _ rfl) fun _ _ h => h⟩
theorem OwnE.offm {w : World} {base b : Nat} {v u : Value} {es : List En} {m : Ml} (h : OwnE w base v es) (hb : MlBox w b m u) : ¬ v.ownBlock = some b := by
  intro hk
  rcases h.2 with ⟨rfl, _⟩ | ⟨g, cap, cur, rfl, _, hg, _⟩
  · cases hk
  · have e1 : g = b := Option.some.inj hk
    subst e1
    unfold MlBox at hb
    rw [hg] at hb
    have h2 := Option.some.inj hb
    injection h2 with _ h3 _
    exact absurd h3 (by decide)
theorem OwnE.lt {w : World} {base : Nat} {v : Value} {es : List En} (h : OwnE w base v es) {k : Nat} (hk : v.ownBlock = some k) : base ≤ k ∧ k < w.heap.size := World.ownsRow.lt h k hk
section
variable {P : Program}
theorem step_append_known {ops : Array Oper} {o : Oper} {a : Act} {w : World} {K : Act → World → Prop} {Q : Exit → Act → World → Prop} {E : Prop}
    (hg : o.guard = none) (d x : Operand) (dT sT : TypeId) (hop : o.op = Op.call { callee := Callee.builtin Builtin.append, args := #[d, x], argTypes := #[dT, sT] })
    (v u : Value) (hd : a.eval d = v) (hx : a.eval x = u) {v' : Value} {w' : World} (hr : (Builtin.append_ #[dT, sT] o.type #[v, u]).run P w = .ok v' w') (hK : K (a.put o.dst v') w') :
    if Region.wanted o (yielded ops a.tmps) = true then Oper.wp P o a w K Q else E := by
  rw [if_pos (by simp [Region.wanted, hg])]
  unfold Oper.wp
  simp [execOp, hop, resolve, invoke, builtin, hd, hx, hr, Result.andThen]
  exact hK
end
/-- What is read of numbers: a message, or none. -/
def MofPost (ns : List Int) (w : World) (e : Ending) (w' : World) : Prop := Below w.heap.size w w' ∧
  ((∃ (m : Ml) (A : Option Addr) (c : Nat), m.l = ns ∧ m.es.length ≤ 64 ∧ e = .returned (.tuple #[m.v (.slice A m.es.length c), .bool true]) ∧ OwnE w' w.heap.size (.slice A m.es.length c) m.es) ∨
    ((∀ m : Ml, m.l = ns → 64 < m.es.length) ∧ e = .returned (.tuple #[ml0.v (.slice none 0 0), .bool false])))
end Go.Proofs.YtkdnhfeamibmdaaDoor
