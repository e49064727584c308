/-
  What a row that lists orders.asked gives; entries, logs, registers, records, rows of records and small numbers that are handed in.
-/
import Derived.Test.YtnbhdehpdfojlaaDoorRows
import Derived.Test.YtnbhdehpdfojlaaDoorRgRecs
import Derived.Lib.LaidTab
import Derived.OpenShut
import Derived.ProofKit
import Derived.Deep.Slices
namespace Go.Proofs.YtnbhdehpdfojlaaDoor
open Go.RowKit Go.ChangeShapes
theorem asked_global : Tryd.prog.globalNamed "archipelago/orders.asked" = some 0 := by kernel_rfl
theorem asked_type : (Tryd.prog.globals[0]?).map (·.type) = some 62 := by kernel_rfl
set_option maxRecDepth 100000 in
theorem span_cells {H : Type} {enc : TypeId × Value → H} {w : World} {base : Nat} {sp : Nat → Bool} {held : Bool} {fuel : Nat} {cs : List Value} {a b : Int} {p : List MemPlace}
    (h : DataW.trod enc Tryd.prog w base sp held fuel 61 cs = some (.agg [.lit (.int .i64 a), .lit (.int .i64 b)], p)) : cs = [.int .i64 a, .int .i64 b] := by
  obtain ⟨y0, y1, n, hx, hl, h0, h1⟩ := trod_struct2 Tryd.underlying61 h
  rw [show Tryd.prog.cellsOf 61 = 2 by kernel_rfl] at hl
  match cs, hl with
  | [c0, c1], _ =>
    obtain ⟨z0, e0, rfl, _⟩ := DataW.trod_int Tryd.underlying3 h0
    obtain ⟨z1, e1, rfl, _⟩ := DataW.trod_int Tryd.underlying3 h1
    rw [show Tryd.prog.cellsOf 3 = 1 by kernel_rfl] at e0 e1
    simp at e0 e1 hx
    obtain ⟨⟨rfl, rfl⟩, _⟩ := hx
    rw [e0, e1]
set_option maxRecDepth 100000 in
theorem asked_of {W : World} (h : laidMetH Tryd.prog [("archipelago/orders.asked", Rows.laid_archipelago_orders_asked)] W) : Asked W := by
  obtain ⟨ps, ⟨g', t', cs, fuel, p, q, hg', ht', hvar, hd, _, _⟩, _⟩ := (h : laidMet Tryd.prog [("archipelago/orders.asked", Rows.laid_archipelago_orders_asked)] W)
  obtain rfl := Option.some.inj (asked_global.symm.trans hg')
  obtain rfl := Option.some.inj (asked_type.symm.trans ht')
  obtain ⟨xs, m, rfl, hx, hl, hlen, hf⟩ := DataW.trod_array Tryd.underlying62 hd
  rw [show Tryd.prog.cellsOf 62 = 10 by kernel_rfl] at hl
  rw [show Tryd.prog.cellsOf 61 = 2 by kernel_rfl] at hf
  match xs, hlen with
  | [x0, x1, x2, x3, x4], _ =>
    simp only [Rows.laid_archipelago_orders_asked, Prod.mk.injEq, DataW.agg.injEq, List.map_cons, List.map_nil, List.cons.injEq, and_true] at hx
    obtain ⟨⟨e0, e1, e2, e3, e4⟩, _⟩ := hx
    have k0 := hf 0 (by omega)
    have k1 := hf 1 (by omega)
    have k2 := hf 2 (by omega)
    have k3 := hf 3 (by omega)
    have k4 := hf 4 (by omega)
    simp only [List.getElem?_cons_zero, List.getElem?_cons_succ] at k0 k1 k2 k3 k4
    have j0 := span_cells (k0.trans (by rw [show x0 = (x0.1, x0.2) from rfl, ← e0]))
    have j1 := span_cells (k1.trans (by rw [show x1 = (x1.1, x1.2) from rfl, ← e1]))
    have j2 := span_cells (k2.trans (by rw [show x2 = (x2.1, x2.2) from rfl, ← e2]))
    have j3 := span_cells (k3.trans (by rw [show x3 = (x3.1, x3.2) from rfl, ← e3]))
    have j4 := span_cells (k4.trans (by rw [show x4 = (x4.1, x4.2) from rfl, ← e4]))
    have at_ : ∀ i : Nat, i < 10 → W.cell? ⟨0, i, none⟩ = cs.toList[i]? := fun i hi => by
      have := World.var?_cell asked_global hvar i
      rw [this]; simp
    have A := fun (j : Nat) (a b : Value) (hj : ((cs.toList.drop (j * 2)).take 2) = [a, b]) => (show cs.toList[j * 2]? = some a ∧ cs.toList[j * 2 + 1]? = some b by
      have h0 := congrArg (·[0]?) hj
      have h1 := congrArg (·[1]?) hj
      simp only [List.getElem?_take, List.getElem?_drop] at h0 h1
      exact ⟨by simpa using h0, by simpa using h1⟩)
    obtain ⟨a0, b0⟩ := A 0 _ _ j0
    obtain ⟨a1, b1⟩ := A 1 _ _ j1
    obtain ⟨a2, b2⟩ := A 2 _ _ j2
    obtain ⟨a3, b3⟩ := A 3 _ _ j3
    obtain ⟨a4, b4⟩ := A 4 _ _ j4
    have c0 := at_ 0 (by omega)
    refine ⟨(at_ 0 (by omega)).trans a0, (at_ 1 (by omega)).trans b0, (at_ 2 (by omega)).trans a1, (at_ 3 (by omega)).trans b1, (at_ 4 (by omega)).trans a2, (at_ 5 (by omega)).trans b2, (at_ 6 (by omega)).trans a3, (at_ 7 (by omega)).trans b3, (at_ 8 (by omega)).trans a4, (at_ 9 (by omega)).trans b4, ?_⟩
    have hc : W.cell? ⟨0, 0, none⟩ = some (.int .i64 1) := (at_ 0 (by omega)).trans a0
    exact World.block_lt_of_cell? W _ hc
set_option maxRecDepth 100000 in
/-- An order that is handed in. -/
theorem open_order {H : Type} {enc : TypeId × Value → H} {w : World} {base : Nat} {sp : Nat → Bool} {held : Bool} {fuel : Nat} {cs : List Value} {d : DataW H} {p : List MemPlace}
    (h : DataW.trod enc Tryd.prog w base sp held fuel 42 cs = some (d, p)) : ∃ o : Od, cs = [.int .i64 o.id, .int .i64 o.st, .int .i64 o.ex, .int .i64 o.ki, .int .i64 o.ar] ∧ o.ints := by
  obtain ⟨xs, n, _, hx, hl, hlen, hf⟩ := DataW.trod_struct Tryd.underlying42 h
  rw [show Tryd.prog.cellsOf 42 = 5 by kernel_rfl] at hl
  match cs, hl with
  | [c0, c1, c2, c3, c4], _ =>
    have step : ∀ i : Nat, i < 5 → ∃ y, xs[i]? = some y := fun i hi => by
      rw [show (#[_, _, _, _, _] : Array Field).size = 5 from rfl] at hlen
      exact ⟨xs[i]'(by omega), by simp⟩
    obtain ⟨y0, g0⟩ := step 0 (by omega)
    obtain ⟨y1, g1⟩ := step 1 (by omega)
    obtain ⟨y2, g2⟩ := step 2 (by omega)
    obtain ⟨y3, g3⟩ := step 3 (by omega)
    obtain ⟨y4, g4⟩ := step 4 (by omega)
    obtain ⟨z0, e0, -, w0⟩ := DataW.trod_int Tryd.underlying3 ((hf 0 _ rfl).trans g0)
    obtain ⟨z1, e1, -, w1⟩ := DataW.trod_int Tryd.underlying3 ((hf 1 _ rfl).trans g1)
    obtain ⟨z2, e2, -, w2⟩ := DataW.trod_int Tryd.underlying3 ((hf 2 _ rfl).trans g2)
    obtain ⟨z3, e3, -, w3⟩ := DataW.trod_int Tryd.underlying3 ((hf 3 _ rfl).trans g3)
    obtain ⟨z4, e4, -, w4⟩ := DataW.trod_int Tryd.underlying3 ((hf 4 _ rfl).trans g4)
    have hc : Tryd.prog.cellsOf 3 = 1 := by kernel_rfl
    simp [hc] at e0 e1 e2 e3 e4
    subst e0 e1 e2 e3 e4
    refine ⟨⟨z0, z1, z2, z3, z4⟩, rfl, ?_⟩
    intro n hn
    simp [Od.l] at hn
    simp [Lit.wf, IntKind.min, IntKind.max, IntKind.signed, IntKind.bits] at w0 w1 w2 w3 w4
    rcases hn with rfl | rfl | rfl | rfl | rfl <;> assumption
theorem cOrder : Tryd.prog.cellsOf 42 = 5 := by kernel_rfl
theorem cEntry : Tryd.prog.cellsOf 44 = 6 := by kernel_rfl
theorem cInt : Tryd.prog.cellsOf 3 = 1 := by kernel_rfl
section
variable {H : Type} {enc : TypeId × Value → H} {w : World} {sp : Nat → Bool} {fuel : Nat} {cs : List Value} {y : DataW H × List MemPlace}
theorem wf_int {z : Int} (h : (Lit.int .i64 z).wf) : -9223372036854775808 ≤ z ∧ z ≤ 9223372036854775807 := by
  simp [Lit.wf, IntKind.min, IntKind.max, IntKind.signed, IntKind.bits] at h
  exact h
set_option maxRecDepth 100000 in
theorem open_en (h : DataW.trod enc Tryd.prog w 0 sp true fuel 44 cs = some y) : ∃ e : En, cs = e.l.map (Value.int .i64) ∧ IntsOk e.l := by
  obtain ⟨xs, n, _, _, hl, hlen, hf⟩ := DataW.trod_struct Tryd.underlying44 h
  rw [cEntry] at hl
  match cs, hl with
  | [c0, c1, c2, c3, c4, c5], _ =>
    match xs, hlen with
    | [y0, y1], _ =>
      have g0 := hf 0 _ rfl
      have g1 := hf 1 _ rfl
      simp only [List.getElem?_cons_zero, List.getElem?_cons_succ, List.getElem_toArray, List.getElem_cons_succ, List.getElem_cons_zero] at g0 g1
      obtain ⟨a0, e0, _, w0⟩ := DataW.trod_int Tryd.underlying3 g0
      obtain ⟨o, e1, w1⟩ := open_order g1
      simp only [cOrder, List.drop_succ_cons, List.drop_zero, List.take_succ_cons, List.take_zero] at e1
      injection e0 with e0
      injection e1 with e1 f1; injection f1 with e2 f2; injection f2 with e3 f3; injection f3 with e4 f4; injection f4 with e5 f5
      subst e0 e1 e2 e3 e4 e5
      refine ⟨⟨a0, o⟩, rfl, fun m hm => ?_⟩
      rcases List.mem_cons.1 hm with rfl | hm
      · exact wf_int w0
      · exact w1 m hm
set_option maxRecDepth 100000 in
theorem open_es (h : DataW.trod enc Tryd.prog w 0 sp true fuel 22 cs = some y) : ∃ A c es, cs = [.slice A es.length c] ∧ EsB w.heap.size w (.slice A es.length c) es ∧ ∀ e ∈ es, IntsOk (En.l e) := by
  rcases Go.Deep.open_slice Tryd.underlying22 h with ⟨rfl, _⟩ | ⟨a, len, cap, m, n, D, Pl, rfl, _, hl, hm, hmm, _, hx⟩
  · exact ⟨none, 0, [], rfl, ⟨none, 0, rfl, Nat.le_refl _, Nat.zero_le _, fun _ => ⟨rfl, rfl⟩, fun h => by simp at h⟩, fun e he => by cases he⟩
  · have each : ∀ i, i < len → ∃ e : En, (∀ j, j < 6 → w.cell? (a.add (i * 6 + j)) = (e.l.map (Value.int .i64))[j]?) ∧ IntsOk e.l := by
      intro i hi
      have hlm : len ≤ m := by rw [hmm]; split <;> omega
      obtain ⟨cs', h1, h2⟩ := hx i (by omega)
      rw [cEntry] at h1
      obtain ⟨_, hlen, hcell⟩ := World.cells?_some h1
      obtain ⟨e, rfl, he⟩ := open_en h2
      refine ⟨e, fun j hj => ?_, he⟩
      have e := hcell j hj
      rw [Go.Deep.add_add] at e
      exact e
    have : Inhabited En := ⟨⟨0, Od.none⟩⟩
    obtain ⟨X, hX⟩ := Go.Deep.choose_lt each
    have hln : ((List.range len).map X).length = len := by simp
    refine ⟨some a, cap, (List.range len).map X, by rw [hln], ⟨some a, cap, rfl, by omega, hm, (fun e => by cases e), fun h0 => ?_⟩, fun e he => ?_⟩
    · rw [hln] at h0
      obtain ⟨b, o, spot⟩ := a
      have hc0 := (hX 0 h0).1 0 (by omega)
      have hv0 : ∃ v, ((X 0).l.map (Value.int .i64))[0]? = some v := ⟨_, rfl⟩
      obtain ⟨v0, hv0⟩ := hv0
      have hspot : spot = none := by
        have := World.cell?_spot (hc0.trans hv0)
        simpa [Addr.add] using this
      subst hspot
      refine ⟨b, o, rfl, block_lt_of_cell ((by rw [Addr.add_lit] at hc0; exact hc0.trans hv0) : w.cell? ⟨b, o + (0 * 6 + 0), none⟩ = some _), fun j u hu => ?_⟩
      have hr : ∀ r ∈ ((List.range len).map X).map En.l, r.length = 6 := fun x hx => by obtain ⟨e, _, rfl⟩ := List.mem_map.1 hx; rfl
      have hj := (List.getElem?_eq_some_iff.1 hu).1
      rw [flatten_len hr, List.length_map, hln] at hj
      have h1 : j / 6 < len := by omega
      have h2 := flat_at hr (i := j / 6) (by rw [List.length_map, hln]; exact h1) (j := j % 6) (by omega)
      have h3 := (hX (j / 6) h1).1 (j % 6) (by omega)
      rw [Addr.add_lit, show j / 6 * 6 + j % 6 = j by omega] at h3
      rw [show j / 6 * 6 + j % 6 = j by omega, hu] at h2
      rw [h3, List.getElem?_map]
      have h4 : (((List.range len).map X).map En.l)[j / 6]'(by rw [List.length_map, hln]; exact h1) = (X (j / 6)).l := by simp
      rw [h4] at h2
      rw [← h2]; rfl
    · obtain ⟨i, hi, rfl⟩ := List.mem_map.1 he
      exact (hX i (List.mem_range.1 hi)).2
theorem ints_at {ik : IntKind} {w : World} {a : Addr} {zs : List Int} {n : Nat} (h : ∀ j, j < n → w.cell? (a.add j) = some (.int ik (zs.getD j 0))) (hn : 0 < n) : ∃ b off, a = ⟨b, off, none⟩ ∧ ∀ j, j < n → w.cell? ⟨b, off + j, none⟩ = some (.int ik (zs.getD j 0)) := by
  obtain ⟨b, off, spot⟩ := a
  have h0 := h 0 hn
  have hs : spot = none := by simpa [Addr.add] using World.cell?_spot h0
  subst hs
  exact ⟨b, off, rfl, fun j hj => by have := h j hj; rwa [Addr.add_lit] at this⟩
end
theorem okWide_array {P : Program} {w : World} {r : Reach} {base n : Nat} {t e : TypeId} {v : Value} (ht : P.underlying t = some (.array n e)) (h : Value.okWide P w r base t v) : ∃ cs, v = .agg cs ∧ cs.size = P.cellsOf t := by
  simp only [Value.okWide, ht] at h
  obtain ⟨cs, h1, h2, _⟩ := h
  exact ⟨cs, h1, h2⟩
theorem cReg : Tryd.prog.cellsOf 24 = 4 := by kernel_rfl
theorem cRec : Tryd.prog.cellsOf 27 = 8 := by kernel_rfl
theorem cLog : Tryd.prog.cellsOf 22 = 1 := by kernel_rfl
theorem cFeed : Tryd.prog.cellsOf 25 = 1 := by kernel_rfl
theorem cU8 : Tryd.prog.cellsOf 5 = 1 := by kernel_rfl
theorem cPair8 : Tryd.prog.cellsOf 47 = 2 := by kernel_rfl
section
variable {H : Type} {enc : TypeId × Value → H} {w : World} {sp : Nat → Bool} {fuel : Nat} {cs : List Value} {y : DataW H × List MemPlace}
set_option maxRecDepth 100000 in
theorem open_reg (h : DataW.trod enc Tryd.prog w 0 sp true fuel 24 cs = some y) : ∃ (r : Re) (A : Option Addr) (c : Nat), cs = [.int .i64 r.p, .int .i64 r.v, .slice A r.es.length c, .int .i64 r.m] ∧ EsB w.heap.size w (.slice A r.es.length c) r.es := by
  obtain ⟨xs, n, _, _, hl, hlen, hf⟩ := DataW.trod_struct Tryd.underlying24 h
  rw [cReg] at hl
  match cs, hl with
  | [c0, c1, c2, c3], _ =>
    match xs, hlen with
    | [y0, y1, y2, y3], _ =>
      have g0 := hf 0 _ rfl
      have g1 := hf 1 _ rfl
      have g2 := hf 2 _ rfl
      have g3 := hf 3 _ rfl
      simp only [List.getElem?_cons_zero, List.getElem?_cons_succ, List.getElem_toArray, List.getElem_cons_succ, List.getElem_cons_zero] at g0 g1 g2 g3
      obtain ⟨a0, e0, _, _⟩ := DataW.trod_int Tryd.underlying3 g0
      obtain ⟨a1, e1, _, _⟩ := DataW.trod_int Tryd.underlying3 g1
      obtain ⟨A, c, es, e2, hE, _⟩ := open_es g2
      obtain ⟨a3, e3, _, _⟩ := DataW.trod_int Tryd.underlying3 g3
      simp only [cInt, cLog, List.drop_succ_cons, List.drop_zero, List.take_succ_cons, List.take_zero] at e0 e1 e2 e3
      injection e0 with e0
      injection e1 with e1
      injection e2 with e2
      injection e3 with e3
      subst e0 e1 e2 e3
      exact ⟨⟨a0, a1, es, a3⟩, A, c, rfl, hE⟩
set_option maxRecDepth 100000 in
theorem open_feed (h : DataW.trod enc Tryd.prog w 0 sp true fuel 25 cs = some y) : ∃ A n c, cs = [.slice A n c] := by
  rcases Go.Deep.open_slice Tryd.underlying25 h with ⟨rfl, _⟩ | ⟨a, len, cap, m, n, D, Pl, rfl, _⟩
  · exact ⟨none, 0, 0, rfl⟩
  · exact ⟨some a, len, cap, rfl⟩
set_option maxRecDepth 100000 in
set_option maxHeartbeats 1000000 in
theorem open_rce (h : DataW.trod enc Tryd.prog w 0 sp true fuel 27 cs = some y) : ∃ r : RcE, cs = r.cells ∧ EsB w.heap.size w (.slice r.A r.x.es.length r.c) r.x.es := by
  obtain ⟨xs, n, _, _, hl, hlen, hf⟩ := DataW.trod_struct Tryd.underlying27 h
  rw [cRec] at hl
  match cs, hl with
  | [c0, c1, c2, c3, c4, c5, c6, c7], _ =>
    match xs, hlen with
    | [y0, y1, y2, y3, y4, y5, y6, y7], _ =>
      have g0 := hf 0 _ rfl
      have g1 := hf 1 _ rfl
      have g2 := hf 2 _ rfl
      have g3 := hf 3 _ rfl
      have g4 := hf 4 _ rfl
      have g5 := hf 5 _ rfl
      have g6 := hf 6 _ rfl
      have g7 := hf 7 _ rfl
      simp only [List.getElem?_cons_zero, List.getElem?_cons_succ, List.getElem_toArray, List.getElem_cons_succ, List.getElem_cons_zero] at g0 g1 g2 g3 g4 g5 g6 g7
      obtain ⟨a0, e0, _, _⟩ := DataW.trod_int Tryd.underlying3 g0
      obtain ⟨a1, e1, _, _⟩ := DataW.trod_int Tryd.underlying3 g1
      obtain ⟨a2, e2, _, _⟩ := DataW.trod_int Tryd.underlying3 g2
      obtain ⟨a3, e3, _, _⟩ := DataW.trod_int Tryd.underlying3 g3
      obtain ⟨a4, e4, _, _⟩ := DataW.trod_int Tryd.underlying3 g4
      obtain ⟨a5, e5, _, _⟩ := DataW.trod_int Tryd.underlying3 g5
      obtain ⟨A, c, es, e6, hE, _⟩ := open_es g6
      obtain ⟨FA, fn, fc, e7⟩ := open_feed g7
      simp only [cInt, cLog, List.drop_succ_cons, List.drop_zero, List.take_succ_cons, List.take_zero] at e0 e1 e2 e3 e4 e5 e6 e7
      injection e0 with e0; injection e1 with e1; injection e2 with e2; injection e3 with e3; injection e4 with e4; injection e5 with e5; injection e6 with e6
      have e7' : [c7] = [Value.slice FA fn fc] := e7
      injection e7' with e7'
      subst e0 e1 e2 e3 e4 e5 e6 e7'
      exact ⟨⟨⟨a0, a2, a3, a4, a5, es⟩, a1, A, c, FA, fn, fc⟩, rfl, hE⟩
set_option maxRecDepth 100000 in
theorem open_recs (h : DataW.trod enc Tryd.prog w 0 sp true fuel 35 cs = some y) : ∃ A c l, cs = [.slice A l.length c] ∧ RcsB w.heap.size w (.slice A l.length c) l := by
  rcases Go.Deep.open_slice Tryd.underlying35 h with ⟨rfl, _⟩ | ⟨a, len, cap, m, n, D, Pl, rfl, _, hl, hm, hmm, _, hx⟩
  · exact ⟨none, 0, [], rfl, none, 0, rfl, Nat.le_refl _, Nat.zero_le _, fun _ => ⟨rfl, rfl⟩, (fun h => by simp at h), fun r hr => by cases hr⟩
  · have each : ∀ i, i < len → ∃ r : RcE, (∀ j, j < 8 → w.cell? (a.add (i * 8 + j)) = r.cells[j]?) ∧ EsB w.heap.size w (.slice r.A r.x.es.length r.c) r.x.es := by
      intro i hi
      have hlm : len ≤ m := by rw [hmm]; split <;> omega
      obtain ⟨cs', h1, h2⟩ := hx i (by omega)
      rw [cRec] at h1
      obtain ⟨_, hlen, hcell⟩ := World.cells?_some h1
      obtain ⟨r, rfl, hE⟩ := open_rce h2
      refine ⟨r, fun j hj => ?_, hE⟩
      have e := hcell j hj
      rw [Go.Deep.add_add] at e
      exact e
    have : Inhabited RcE := ⟨⟨⟨0, 0, 0, 0, 0, []⟩, 0, none, 0, none, 0, 0⟩⟩
    obtain ⟨X, hX⟩ := Go.Deep.choose_lt each
    have hln : ((List.range len).map X).length = len := by simp
    refine ⟨some a, cap, (List.range len).map X, by rw [hln], some a, cap, rfl, by omega, hm, (fun e => by cases e), fun h0 => ?_, fun r hr => ?_⟩
    · rw [hln] at h0
      obtain ⟨b, o, spot⟩ := a
      have hc0 := (hX 0 h0).1 0 (by omega)
      have hspot : spot = none := by
        have := World.cell?_spot (hc0.trans (by rfl))
        simpa [Addr.add] using this
      subst hspot
      refine ⟨b, o, rfl, block_lt_of_cell ((by rw [Addr.add_lit] at hc0; exact hc0.trans (by rfl)) : w.cell? ⟨b, o + (0 * 8 + 0), none⟩ = some _), fun k hk j u hu => ?_⟩
      have hkl : k < len := by rw [← hln]; exact hk
      have hg : ((List.range len).map X)[k] = X k := by simp
      rw [hg] at hu
      have hj : j < 8 := (List.getElem?_eq_some_iff.1 hu).1
      have q := (hX k hkl).1 j hj
      rw [Addr.add_lit, ← Nat.add_assoc] at q
      exact q.trans hu
    · obtain ⟨i, hi, rfl⟩ := List.mem_map.1 hr
      exact (hX i (List.mem_range.1 hi)).2
theorem one_u8 {c : List Value} (h : DataW.trod enc Tryd.prog w 0 sp true fuel 5 c = some y) : ∃ n : Nat, c = [.int .u8 (n : Int)] ∧ n < 256 := by
  obtain ⟨a, rfl, _, hw⟩ := DataW.trod_int Tryd.underlying5 h
  simp [Lit.wf, IntKind.min, IntKind.max, IntKind.signed, IntKind.bits] at hw
  exact ⟨a.toNat, by rw [Int.toNat_of_nonneg hw.1], by omega⟩
theorem open_u8s (h : DataW.trod enc Tryd.prog w 0 sp true fuel 47 cs = some y) : ∃ a b : Nat, cs = [.int .u8 (a : Int), .int .u8 (b : Int)] ∧ a < 256 ∧ b < 256 := by
  obtain ⟨xs, m, _, _, hl, hlen, hf⟩ := DataW.trod_array Tryd.underlying47 h
  rw [cPair8] at hl
  match cs, hl with
  | [c0, c1], _ =>
    match xs, hlen with
    | [y0, y1], _ =>
      have g0 := hf 0 (by decide)
      have g1 := hf 1 (by decide)
      rw [cU8] at g0 g1
      obtain ⟨a, ha, ha'⟩ := one_u8 g0
      obtain ⟨b, hb, hb'⟩ := one_u8 g1
      simp only [Nat.zero_mul, Nat.one_mul, List.drop_succ_cons, List.drop_zero, List.take_succ_cons, List.take_zero, List.cons.injEq, and_true] at ha hb
      subst ha hb
      exact ⟨a, b, rfl, ha', hb'⟩
end
/-- A slice of bytes that reads so. -/
def Bys (w : World) (v : Value) (l : List Nat) : Prop := ∃ A c, v = .slice A l.length c ∧ l.length ≤ c ∧ c ≤ maxLen ∧ (A = none → l.length = 0 ∧ c = 0) ∧ (0 < l.length → ∃ b off, A = some ⟨b, off, none⟩ ∧ b < w.heap.size ∧ ∀ j, j < l.length → w.cell? ⟨b, off + j, none⟩ = some (.int .u8 (l.getD j 0 : Nat)) ∧ l.getD j 0 < 256)
theorem open_bys {H : Type} {enc : TypeId × Value → H} {w : World} {sp : Nat → Bool} {fuel : Nat} {cs : List Value} {y : DataW H × List MemPlace} (h : DataW.trod enc Tryd.prog w 0 sp true fuel 46 cs = some y) :
    ∃ A n c, cs = [.slice A n c] ∧ ∃ l, l.length = n ∧ Bys w (.slice A n c) l := by
  rcases open_ints Tryd.underlying46 Tryd.underlying5 cU8 h with ⟨rfl, _⟩ | ⟨a, len, cap, zs, rfl, _, hl, hm, hz, _, hcell, hwf⟩
  · exact ⟨none, 0, 0, rfl, [], rfl, none, 0, rfl, Nat.le_refl _, Nat.zero_le _, fun _ => ⟨rfl, rfl⟩, fun h => by simp at h⟩
  · have hzl : len ≤ zs.length := by rw [hz]; split <;> omega
    have hlen : ((zs.take len).map Int.toNat).length = len := by rw [List.length_map, List.length_take]; omega
    refine ⟨some a, len, cap, rfl, (zs.take len).map Int.toNat, hlen, some a, cap, by rw [hlen], by omega, hm, fun e => (by cases e), fun h0 => ?_⟩
    have h0' : 0 < zs.length := by omega
    obtain ⟨b, off, rfl, hc⟩ := ints_at hcell h0'
    refine ⟨b, off, rfl, World.block_lt_of_cell? w _ (hc 0 h0'), fun j hj => ?_⟩
    have hjl : j < len := by omega
    have hjz : j < zs.length := by omega
    have e : ((zs.take len).map Int.toNat).getD j 0 = (zs.getD j 0).toNat := by
      simp only [List.getD, List.getElem?_map, List.getElem?_take_of_lt hjl, List.getElem?_eq_getElem hjz]; rfl
    have hw := hwf (zs.getD j 0) (by rw [List.getD, List.getElem?_eq_getElem hjz]; exact List.getElem_mem hjz)
    simp [Lit.wf, IntKind.min, IntKind.max, IntKind.signed, IntKind.bits] at hw
    rw [e, hc j hjz]
    obtain ⟨g1, g2⟩ : 0 ≤ zs.getD j 0 ∧ zs.getD j 0 < 256 := by simp only [List.getD]; omega
    refine ⟨?_, by omega⟩
    congr 2
    omega
end Go.Proofs.YtnbhdehpdfojlaaDoor
