/-
  What a row that lists orders.asked gives: the ten numbers lie in block 0.
-/
import Derived.Test.YtkdnhfeamibmdaaDoorRows
import Derived.Test.YtkdnhfeamibmdaaDoorOMath
import Derived.Lib.LaidTab
import Derived.OpenShut
namespace Go.Proofs.YtkdnhfeamibmdaaDoor
open Go.RowKit Go.ChangeShapes
theorem asked_global : Tryd.prog.globalNamed "archipelago/orders.asked" = some 8 := by kernel_rfl
theorem asked_type : (Tryd.prog.globals[8]?).map (·.type) = some 134 := by kernel_rfl
set_option maxRecDepth 100000 in
theorem span_cells {H : Type} {enc : TypeId × Value → H} {w : World} {base : Nat} {sp : Nat → Bool} {held : Bool} {fuel : Nat} {cs : List Value} {a b : Int} {p : List MemPlace}
    (h : DataW.trod enc Tryd.prog w base sp held fuel 133 cs = some (.agg [.lit (.int .i64 a), .lit (.int .i64 b)], p)) : cs = [.int .i64 a, .int .i64 b] := by
  obtain ⟨y0, y1, n, hx, hl, h0, h1⟩ := trod_struct2 Tryd.underlying133 h
  rw [show Tryd.prog.cellsOf 133 = 2 by kernel_rfl] at hl
  match cs, hl with
  | [c0, c1], _ =>
    obtain ⟨z0, e0, rfl, _⟩ := DataW.trod_int Tryd.underlying3 h0
    obtain ⟨z1, e1, rfl, _⟩ := DataW.trod_int Tryd.underlying3 h1
    rw [show Tryd.prog.cellsOf 3 = 1 by kernel_rfl] at e0 e1
    simp at e0 e1 hx
    obtain ⟨⟨rfl, rfl⟩, _⟩ := hx
    rw [e0, e1]
set_option maxRecDepth 100000 in
theorem asked_of {W : World} (h : laidMetH Tryd.prog [("archipelago/orders.asked", Rows.laid_archipelago_orders_asked)] W) : Asked W := by
  obtain ⟨ps, ⟨g', t', cs, fuel, p, q, hg', ht', hvar, hd, _, _⟩, _⟩ := (h : laidMet Tryd.prog [("archipelago/orders.asked", Rows.laid_archipelago_orders_asked)] W)
  obtain rfl := Option.some.inj (asked_global.symm.trans hg')
  obtain rfl := Option.some.inj (asked_type.symm.trans ht')
  obtain ⟨xs, m, rfl, hx, hl, hlen, hf⟩ := DataW.trod_array Tryd.underlying134 hd
  rw [show Tryd.prog.cellsOf 134 = 10 by kernel_rfl] at hl
  rw [show Tryd.prog.cellsOf 133 = 2 by kernel_rfl] at hf
  match xs, hlen with
  | [x0, x1, x2, x3, x4], _ =>
    simp only [Rows.laid_archipelago_orders_asked, Prod.mk.injEq, DataW.agg.injEq, List.map_cons, List.map_nil, List.cons.injEq, and_true] at hx
    obtain ⟨⟨e0, e1, e2, e3, e4⟩, _⟩ := hx
    have k0 := hf 0 (by omega)
    have k1 := hf 1 (by omega)
    have k2 := hf 2 (by omega)
    have k3 := hf 3 (by omega)
    have k4 := hf 4 (by omega)
    simp only [List.getElem?_cons_zero, List.getElem?_cons_succ] at k0 k1 k2 k3 k4
    have j0 := span_cells (k0.trans (by rw [show x0 = (x0.1, x0.2) from rfl, ← e0]))
    have j1 := span_cells (k1.trans (by rw [show x1 = (x1.1, x1.2) from rfl, ← e1]))
    have j2 := span_cells (k2.trans (by rw [show x2 = (x2.1, x2.2) from rfl, ← e2]))
    have j3 := span_cells (k3.trans (by rw [show x3 = (x3.1, x3.2) from rfl, ← e3]))
    have j4 := span_cells (k4.trans (by rw [show x4 = (x4.1, x4.2) from rfl, ← e4]))
    have at_ : ∀ i : Nat, i < 10 → W.cell? ⟨8, i, none⟩ = cs.toList[i]? := fun i hi => by
      have := World.var?_cell asked_global hvar i
      rw [this]; simp
    have A := fun (j : Nat) (a b : Value) (hj : ((cs.toList.drop (j * 2)).take 2) = [a, b]) => (show cs.toList[j * 2]? = some a ∧ cs.toList[j * 2 + 1]? = some b by
      have h0 := congrArg (·[0]?) hj
      have h1 := congrArg (·[1]?) hj
      simp only [List.getElem?_take, List.getElem?_drop] at h0 h1
      exact ⟨by simpa using h0, by simpa using h1⟩)
    obtain ⟨a0, b0⟩ := A 0 _ _ j0
    obtain ⟨a1, b1⟩ := A 1 _ _ j1
    obtain ⟨a2, b2⟩ := A 2 _ _ j2
    obtain ⟨a3, b3⟩ := A 3 _ _ j3
    obtain ⟨a4, b4⟩ := A 4 _ _ j4
    have c0 := at_ 0 (by omega)
    refine ⟨(at_ 0 (by omega)).trans a0, (at_ 1 (by omega)).trans b0, (at_ 2 (by omega)).trans a1, (at_ 3 (by omega)).trans b1, (at_ 4 (by omega)).trans a2, (at_ 5 (by omega)).trans b2, (at_ 6 (by omega)).trans a3, (at_ 7 (by omega)).trans b3, (at_ 8 (by omega)).trans a4, (at_ 9 (by omega)).trans b4, ?_⟩
    have hc : W.cell? ⟨8, 0, none⟩ = some (.int .i64 1) := (at_ 0 (by omega)).trans a0
    exact World.block_lt_of_cell? W _ hc
set_option maxRecDepth 100000 in
/-- An order that is handed in. -/
theorem open_order {H : Type} {enc : TypeId × Value → H} {w : World} {base : Nat} {sp : Nat → Bool} {held : Bool} {fuel : Nat} {cs : List Value} {d : DataW H} {p : List MemPlace}
    (h : DataW.trod enc Tryd.prog w base sp held fuel 28 cs = some (d, p)) : ∃ o : Od, cs = [.int .i64 o.id, .int .i64 o.st, .int .i64 o.ex, .int .i64 o.ki, .int .i64 o.ar] ∧ o.ints := by
  obtain ⟨xs, n, _, hx, hl, hlen, hf⟩ := DataW.trod_struct Tryd.underlying28 h
  rw [show Tryd.prog.cellsOf 28 = 5 by kernel_rfl] at hl
  match cs, hl with
  | [c0, c1, c2, c3, c4], _ =>
    have step : ∀ i : Nat, i < 5 → ∃ y, xs[i]? = some y := fun i hi => by
      rw [show (#[_, _, _, _, _] : Array Field).size = 5 from rfl] at hlen
      exact ⟨xs[i]'(by omega), by simp⟩
    obtain ⟨y0, g0⟩ := step 0 (by omega)
    obtain ⟨y1, g1⟩ := step 1 (by omega)
    obtain ⟨y2, g2⟩ := step 2 (by omega)
    obtain ⟨y3, g3⟩ := step 3 (by omega)
    obtain ⟨y4, g4⟩ := step 4 (by omega)
    obtain ⟨z0, e0, -, w0⟩ := DataW.trod_int Tryd.underlying3 ((hf 0 _ rfl).trans g0)
    obtain ⟨z1, e1, -, w1⟩ := DataW.trod_int Tryd.underlying3 ((hf 1 _ rfl).trans g1)
    obtain ⟨z2, e2, -, w2⟩ := DataW.trod_int Tryd.underlying3 ((hf 2 _ rfl).trans g2)
    obtain ⟨z3, e3, -, w3⟩ := DataW.trod_int Tryd.underlying3 ((hf 3 _ rfl).trans g3)
    obtain ⟨z4, e4, -, w4⟩ := DataW.trod_int Tryd.underlying3 ((hf 4 _ rfl).trans g4)
    have hc : Tryd.prog.cellsOf 3 = 1 := by kernel_rfl
    simp [hc] at e0 e1 e2 e3 e4
    subst e0 e1 e2 e3 e4
    refine ⟨⟨z0, z1, z2, z3, z4⟩, rfl, ?_⟩
    intro n hn
    simp [Od.l] at hn
    simp [Lit.wf, IntKind.min, IntKind.max, IntKind.signed, IntKind.bits] at w0 w1 w2 w3 w4
    rcases hn with rfl | rfl | rfl | rfl | rfl <;> assumption
end Go.Proofs.YtkdnhfeamibmdaaDoor
