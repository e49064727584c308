/-
  What a row that lists orders.asked gives: the ten numbers lie in block 0. What a row that lists the seven variables gives; records, entries and spots that are handed in. What a row that lists the nine variables gives; messages and answers that are handed in. The walk of the law MailDecode: it returns true and writes nothing that was there. The law MailDecode: for every input the call returns true, and each argument reads afterwards as it read before. No condition.
-/
import Derived.Test.YtkdnhfeamibmdaaDoorRows
import Derived.Test.YtkdnhfeamibmdaaDoorOMath
import Derived.Lib.LaidTab
import Derived.OpenShut
import Derived.Test.YtkdnhfeamibmdaaDoorRcMem
import Derived.ProofKit
import Derived.ChangeSame
import Derived.Deep.Slices
import Derived.Test.YtkdnhfeamibmdaaDoorMlMem
import Derived.Test.YtkdnhfeamibmdaaDoorMmDec
import Derived.Deep.MidRow
import Derived.Test.YtkdnhfeamibmdaaDoorMmWo
import Derived.Test.YtkdnhfeamibmdaaDoorCards
import Derived.Test.YtkdnhfeamibmdaaDoorTie
import Derived.WalkKit
import Derived.Deep.DeepHandedRow
import Derived.ShutString
namespace Go.Proofs.YtkdnhfeamibmdaaDoor
open Go.RowKit Go.ChangeShapes
theorem asked_global : Tryd.prog.globalNamed "archipelago/orders.asked" = some 8 := by kernel_rfl
theorem asked_type : (Tryd.prog.globals[8]?).map (·.type) = some 134 := by kernel_rfl
set_option maxRecDepth 100000 in
theorem span_cells {H : Type} {enc : TypeId × Value → H} {w : World} {base : Nat} {sp : Nat → Bool} {held : Bool} {fuel : Nat} {cs : List Value} {a b : Int} {p : List MemPlace}
    (h : DataW.trod enc Tryd.prog w base sp held fuel 133 cs = some (.agg [.lit (.int .i64 a), .lit (.int .i64 b)], p)) : cs = [.int .i64 a, .int .i64 b] := by
  obtain ⟨y0, y1, n, hx, hl, h0, h1⟩ := trod_struct2 Tryd.underlying133 h
  rw [show Tryd.prog.cellsOf 133 = 2 by kernel_rfl] at hl
  match cs, hl with
  | [c0, c1], _ =>
    obtain ⟨z0, e0, rfl, _⟩ := DataW.trod_int Tryd.underlying3 h0
    obtain ⟨z1, e1, rfl, _⟩ := DataW.trod_int Tryd.underlying3 h1
    rw [show Tryd.prog.cellsOf 3 = 1 by kernel_rfl] at e0 e1
    simp at e0 e1 hx
    obtain ⟨⟨rfl, rfl⟩, _⟩ := hx
    rw [e0, e1]
set_option maxRecDepth 100000 in
theorem asked_of {W : World} (h : laidMetH Tryd.prog [("archipelago/orders.asked", Rows.laid_archipelago_orders_asked)] W) : Asked W := by
  obtain ⟨ps, ⟨g', t', cs, fuel, p, q, hg', ht', hvar, hd, _, _⟩, _⟩ := (h : laidMet Tryd.prog [("archipelago/orders.asked", Rows.laid_archipelago_orders_asked)] W)
  obtain rfl := Option.some.inj (asked_global.symm.trans hg')
  obtain rfl := Option.some.inj (asked_type.symm.trans ht')
  obtain ⟨xs, m, rfl, hx, hl, hlen, hf⟩ := DataW.trod_array Tryd.underlying134 hd
  rw [show Tryd.prog.cellsOf 134 = 10 by kernel_rfl] at hl
  rw [show Tryd.prog.cellsOf 133 = 2 by kernel_rfl] at hf
  match xs, hlen with
  | [x0, x1, x2, x3, x4], _ =>
    simp only [Rows.laid_archipelago_orders_asked, Prod.mk.injEq, DataW.agg.injEq, List.map_cons, List.map_nil, List.cons.injEq, and_true] at hx
    obtain ⟨⟨e0, e1, e2, e3, e4⟩, _⟩ := hx
    have k0 := hf 0 (by omega)
    have k1 := hf 1 (by omega)
    have k2 := hf 2 (by omega)
    have k3 := hf 3 (by omega)
    have k4 := hf 4 (by omega)
    simp only [List.getElem?_cons_zero, List.getElem?_cons_succ] at k0 k1 k2 k3 k4
    have j0 := span_cells (k0.trans (by rw [show x0 = (x0.1, x0.2) from rfl, ← e0]))
    have j1 := span_cells (k1.trans (by rw [show x1 = (x1.1, x1.2) from rfl, ← e1]))
    have j2 := span_cells (k2.trans (by rw [show x2 = (x2.1, x2.2) from rfl, ← e2]))
    have j3 := span_cells (k3.trans (by rw [show x3 = (x3.1, x3.2) from rfl, ← e3]))
    have j4 := span_cells (k4.trans (by rw [show x4 = (x4.1, x4.2) from rfl, ← e4]))
    have at_ : ∀ i : Nat, i < 10 → W.cell? ⟨8, i, none⟩ = cs.toList[i]? := fun i hi => by
      have := World.var?_cell asked_global hvar i
      rw [this]; simp
    have A := fun (j : Nat) (a b : Value) (hj : ((cs.toList.drop (j * 2)).take 2) = [a, b]) => (show cs.toList[j * 2]? = some a ∧ cs.toList[j * 2 + 1]? = some b by
      have h0 := congrArg (·[0]?) hj
      have h1 := congrArg (·[1]?) hj
      simp only [List.getElem?_take, List.getElem?_drop] at h0 h1
      exact ⟨by simpa using h0, by simpa using h1⟩)
    obtain ⟨a0, b0⟩ := A 0 _ _ j0
    obtain ⟨a1, b1⟩ := A 1 _ _ j1
    obtain ⟨a2, b2⟩ := A 2 _ _ j2
    obtain ⟨a3, b3⟩ := A 3 _ _ j3
    obtain ⟨a4, b4⟩ := A 4 _ _ j4
    have c0 := at_ 0 (by omega)
    refine ⟨(at_ 0 (by omega)).trans a0, (at_ 1 (by omega)).trans b0, (at_ 2 (by omega)).trans a1, (at_ 3 (by omega)).trans b1, (at_ 4 (by omega)).trans a2, (at_ 5 (by omega)).trans b2, (at_ 6 (by omega)).trans a3, (at_ 7 (by omega)).trans b3, (at_ 8 (by omega)).trans a4, (at_ 9 (by omega)).trans b4, ?_⟩
    have hc : W.cell? ⟨8, 0, none⟩ = some (.int .i64 1) := (at_ 0 (by omega)).trans a0
    exact World.block_lt_of_cell? W _ hc
set_option maxRecDepth 100000 in
/-- An order that is handed in. -/
theorem open_order {H : Type} {enc : TypeId × Value → H} {w : World} {base : Nat} {sp : Nat → Bool} {held : Bool} {fuel : Nat} {cs : List Value} {d : DataW H} {p : List MemPlace}
    (h : DataW.trod enc Tryd.prog w base sp held fuel 28 cs = some (d, p)) : ∃ o : Od, cs = [.int .i64 o.id, .int .i64 o.st, .int .i64 o.ex, .int .i64 o.ki, .int .i64 o.ar] ∧ o.ints := by
  obtain ⟨xs, n, _, hx, hl, hlen, hf⟩ := DataW.trod_struct Tryd.underlying28 h
  rw [show Tryd.prog.cellsOf 28 = 5 by kernel_rfl] at hl
  match cs, hl with
  | [c0, c1, c2, c3, c4], _ =>
    have step : ∀ i : Nat, i < 5 → ∃ y, xs[i]? = some y := fun i hi => by
      rw [show (#[_, _, _, _, _] : Array Field).size = 5 from rfl] at hlen
      exact ⟨xs[i]'(by omega), by simp⟩
    obtain ⟨y0, g0⟩ := step 0 (by omega)
    obtain ⟨y1, g1⟩ := step 1 (by omega)
    obtain ⟨y2, g2⟩ := step 2 (by omega)
    obtain ⟨y3, g3⟩ := step 3 (by omega)
    obtain ⟨y4, g4⟩ := step 4 (by omega)
    obtain ⟨z0, e0, -, w0⟩ := DataW.trod_int Tryd.underlying3 ((hf 0 _ rfl).trans g0)
    obtain ⟨z1, e1, -, w1⟩ := DataW.trod_int Tryd.underlying3 ((hf 1 _ rfl).trans g1)
    obtain ⟨z2, e2, -, w2⟩ := DataW.trod_int Tryd.underlying3 ((hf 2 _ rfl).trans g2)
    obtain ⟨z3, e3, -, w3⟩ := DataW.trod_int Tryd.underlying3 ((hf 3 _ rfl).trans g3)
    obtain ⟨z4, e4, -, w4⟩ := DataW.trod_int Tryd.underlying3 ((hf 4 _ rfl).trans g4)
    have hc : Tryd.prog.cellsOf 3 = 1 := by kernel_rfl
    simp [hc] at e0 e1 e2 e3 e4
    subst e0 e1 e2 e3 e4
    refine ⟨⟨z0, z1, z2, z3, z4⟩, rfl, ?_⟩
    intro n hn
    simp [Od.l] at hn
    simp [Lit.wf, IntKind.min, IntKind.max, IntKind.signed, IntKind.bits] at w0 w1 w2 w3 w4
    rcases hn with rfl | rfl | rfl | rfl | rfl <;> assumption
end Go.Proofs.YtkdnhfeamibmdaaDoor
namespace Go.Proofs.YtkdnhfeamibmdaaDoor
open Go.RowKit Go.ChangeShapes Go.WideShapes Go.ChangeAt
theorem laid_head {P : Program} {n : String} {d : DataW Unit} {r : List (String × DataW Unit)} {w : World} (h : laidMet P ((n, d) :: r) w) : laidMet P [(n, d)] w := by
  obtain ⟨ps, ⟨g, t, cs, fuel, p, q, a, b, c, e, f, rfl⟩, nd, hc⟩ := h
  refine ⟨MemPlace.row ⟨g, 0, none⟩ cs.size ++ p ++ [], ⟨g, t, cs, fuel, p, [], a, b, c, e, rfl, rfl⟩, ?_, fun x off hm => hc x off ?_⟩
  · rw [List.append_nil]; exact nd.sublist (List.sublist_append_left _ _)
  · rw [List.append_nil] at hm; exact List.mem_append_left _ hm
theorem laid_tail {P : Program} {n : String} {d : DataW Unit} {r : List (String × DataW Unit)} {w : World} (h : laidMet P ((n, d) :: r) w) : laidMet P r w := by
  obtain ⟨ps, ⟨g, t, cs, fuel, p, q, a, b, c, e, f, rfl⟩, nd, hc⟩ := h
  exact ⟨q, f, nd.sublist (List.sublist_append_right _ _), fun x off hm => hc x off (List.mem_append_right _ hm)⟩
set_option maxRecDepth 100000 in
theorem rspan_of {W : World} {n : String} {g : Nat} {a b : Int} (hn : Tryd.prog.globalNamed n = some g) (hT : (Tryd.prog.globals[g]?).map (·.type) = some 72)
    (h : laidMet Tryd.prog [(n, .agg [.lit (.int .i64 a), .lit (.int .i64 b)])] W) : (W.cell? ⟨g, 0, none⟩ = some (.int .i64 a) ∧ W.cell? ⟨g, 1, none⟩ = some (.int .i64 b)) ∧ g < W.heap.size := by
  obtain ⟨ps, ⟨g', t', cs, fuel, p, q, hg', ht', hvar, hd, _, _⟩, _⟩ := h
  obtain rfl := Option.some.inj (hn.symm.trans hg')
  obtain rfl := Option.some.inj (hT.symm.trans ht')
  obtain ⟨y0, y1, m, hx, hl, h0, h1⟩ := trod_struct2 Tryd.underlying72 hd
  rw [show Tryd.prog.cellsOf 72 = 2 by kernel_rfl] at hl
  have at_ : ∀ i : Nat, i < 2 → W.cell? ⟨g, i, none⟩ = cs.toList[i]? := fun i hi => by
    have := World.var?_cell hn hvar i
    rw [this]; simp
  generalize cs.toList = l at *
  match l, hl with
  | [c0, c1], _ =>
    obtain ⟨z0, e0, rfl, _⟩ := DataW.trod_int Tryd.underlying3 h0
    obtain ⟨z1, e1, rfl, _⟩ := DataW.trod_int Tryd.underlying3 h1
    rw [show Tryd.prog.cellsOf 3 = 1 by kernel_rfl] at e0 e1
    simp at e0 e1 hx
    obtain ⟨⟨rfl, rfl⟩, _⟩ := hx
    have k0 := at_ 0 (by omega)
    have k1 := at_ 1 (by omega)
    simp only [List.getElem?_cons_zero, List.getElem?_cons_succ, e0, e1] at k0 k1
    exact ⟨⟨k0, k1⟩, World.block_lt_of_cell? W _ k0⟩
/-- The seven variables, as a row lists them. -/
def sevenLaid : List (String × DataW Unit) := [("archipelago/orders.asked", Rows.laid_archipelago_orders_asked), ("archipelago/records.streams", Rows.laid_archipelago_records_streams), ("archipelago/records.epochs", Rows.laid_archipelago_records_epochs), ("archipelago/records.epochsOrNone", Rows.laid_archipelago_records_epochsOrNone), ("archipelago/records.logs", Rows.laid_archipelago_records_logs), ("archipelago/records.indices", Rows.laid_archipelago_records_indices), ("archipelago/records.feeds", Rows.laid_archipelago_records_feeds)]
theorem askR_of {W : World} (h : laidMetH Tryd.prog sevenLaid W) : AskR W := by
  have h0 : laidMet Tryd.prog sevenLaid W := h
  unfold sevenLaid at h0
  have hA := asked_of (W := W) (laid_head h0)
  have h1 := laid_tail h0
  have h2 := laid_tail h1
  have h3 := laid_tail h2
  have h4 := laid_tail h3
  have h5 := laid_tail h4
  have h6 := laid_tail h5
  obtain ⟨s1, l1⟩ := rspan_of (g := 0) (by kernel_rfl) (by kernel_rfl) (laid_head h1)
  obtain ⟨s2, l2⟩ := rspan_of (g := 1) (by kernel_rfl) (by kernel_rfl) (laid_head h2)
  obtain ⟨s3, l3⟩ := rspan_of (g := 3) (by kernel_rfl) (by kernel_rfl) (laid_head h3)
  obtain ⟨s4, l4⟩ := rspan_of (g := 2) (by kernel_rfl) (by kernel_rfl) (laid_head h4)
  obtain ⟨s5, l5⟩ := rspan_of (g := 5) (by kernel_rfl) (by kernel_rfl) (laid_head h5)
  obtain ⟨s6, l6⟩ := rspan_of (g := 4) (by kernel_rfl) (by kernel_rfl) (laid_head h6)
  exact ⟨hA, s1, s2, s3, s4, s5, s6, l1, l2, l3, l4, l5, l6⟩
theorem cOrder : Tryd.prog.cellsOf 28 = 5 := by kernel_rfl
theorem cEntry : Tryd.prog.cellsOf 30 = 6 := by kernel_rfl
theorem cSpot : Tryd.prog.cellsOf 32 = 2 := by kernel_rfl
theorem cRecord : Tryd.prog.cellsOf 25 = 8 := by kernel_rfl
theorem cInt : Tryd.prog.cellsOf 3 = 1 := by kernel_rfl
theorem cEnts : Tryd.prog.cellsOf 22 = 1 := by kernel_rfl
section
variable {H : Type} {enc : TypeId × Value → H} {w : World} {sp : Nat → Bool} {fuel : Nat} {cs : List Value} {y : DataW H × List MemPlace}
theorem wf_int {z : Int} (h : (Lit.int .i64 z).wf) : -9223372036854775808 ≤ z ∧ z ≤ 9223372036854775807 := by
  simp [Lit.wf, IntKind.min, IntKind.max, IntKind.signed, IntKind.bits] at h
  exact h
set_option maxRecDepth 100000 in
theorem open_en (h : DataW.trod enc Tryd.prog w 0 sp true fuel 30 cs = some y) : ∃ e : En, cs = e.l.map (Value.int .i64) ∧ IntsOk e.l := by
  obtain ⟨xs, n, _, _, hl, hlen, hf⟩ := DataW.trod_struct Tryd.underlying30 h
  rw [cEntry] at hl
  match cs, hl with
  | [c0, c1, c2, c3, c4, c5], _ =>
    match xs, hlen with
    | [y0, y1], _ =>
      have g0 := hf 0 _ rfl
      have g1 := hf 1 _ rfl
      simp only [List.getElem?_cons_zero, List.getElem?_cons_succ, List.getElem_toArray, List.getElem_cons_succ, List.getElem_cons_zero] at g0 g1
      obtain ⟨a0, e0, _, w0⟩ := DataW.trod_int Tryd.underlying3 g0
      obtain ⟨o, e1, w1⟩ := open_order g1
      simp only [cOrder, List.drop_succ_cons, List.drop_zero, List.take_succ_cons, List.take_zero] at e1
      injection e0 with e0
      injection e1 with e1 f1; injection f1 with e2 f2; injection f2 with e3 f3; injection f3 with e4 f4; injection f4 with e5 f5
      subst e0 e1 e2 e3 e4 e5
      refine ⟨⟨a0, o⟩, rfl, fun m hm => ?_⟩
      rcases List.mem_cons.1 hm with rfl | hm
      · exact wf_int w0
      · exact w1 m hm
set_option maxRecDepth 100000 in
theorem open_sp (h : DataW.trod enc Tryd.prog w 0 sp true fuel 32 cs = some y) : ∃ e : Sp, cs = e.l.map (Value.int .i64) ∧ IntsOk e.l := by
  obtain ⟨y0, y1, n, hx, hl, h0, h1⟩ := trod_struct2 Tryd.underlying32 h
  rw [cSpot] at hl
  match cs, hl with
  | [c0, c1], _ =>
    obtain ⟨z0, e0, _, w0⟩ := DataW.trod_int Tryd.underlying3 h0
    obtain ⟨z1, e1, _, w1⟩ := DataW.trod_int Tryd.underlying3 h1
    simp [cInt] at e0 e1
    subst e0 e1
    refine ⟨⟨z0, z1⟩, rfl, fun m hm => ?_⟩
    simp only [Sp.l, List.mem_cons, List.not_mem_nil, or_false] at hm
    rcases hm with rfl | rfl
    · exact wf_int w0
    · exact wf_int w1
set_option maxRecDepth 100000 in
theorem open_es (h : DataW.trod enc Tryd.prog w 0 sp true fuel 22 cs = some y) : ∃ A c es, cs = [.slice A es.length c] ∧ EsB w.heap.size w (.slice A es.length c) es ∧ ∀ e ∈ es, IntsOk (En.l e) := by
  rcases Go.Deep.open_slice Tryd.underlying22 h with ⟨rfl, _⟩ | ⟨a, len, cap, m, n, D, Pl, rfl, _, hl, hm, hmm, _, hx⟩
  · exact ⟨none, 0, [], rfl, ⟨none, 0, rfl, Nat.le_refl _, Nat.zero_le _, fun _ => ⟨rfl, rfl⟩, fun h => by simp at h⟩, fun e he => by cases he⟩
  · have each : ∀ i, i < len → ∃ e : En, (∀ j, j < 6 → w.cell? (a.add (i * 6 + j)) = (e.l.map (Value.int .i64))[j]?) ∧ IntsOk e.l := by
      intro i hi
      have hlm : len ≤ m := by rw [hmm]; split <;> omega
      obtain ⟨cs', h1, h2⟩ := hx i (by omega)
      rw [cEntry] at h1
      obtain ⟨_, hlen, hcell⟩ := World.cells?_some h1
      obtain ⟨e, rfl, he⟩ := open_en h2
      refine ⟨e, fun j hj => ?_, he⟩
      have e := hcell j hj
      rw [Go.Deep.add_add] at e
      exact e
    have : Inhabited En := ⟨⟨0, Od.none⟩⟩
    obtain ⟨X, hX⟩ := Go.Deep.choose_lt each
    have hln : ((List.range len).map X).length = len := by simp
    refine ⟨some a, cap, (List.range len).map X, by rw [hln], ⟨some a, cap, rfl, by omega, hm, (fun e => by cases e), fun h0 => ?_⟩, fun e he => ?_⟩
    · rw [hln] at h0
      obtain ⟨b, o, spot⟩ := a
      have hc0 := (hX 0 h0).1 0 (by omega)
      have hv0 : ∃ v, ((X 0).l.map (Value.int .i64))[0]? = some v := ⟨_, rfl⟩
      obtain ⟨v0, hv0⟩ := hv0
      have hspot : spot = none := by
        have := World.cell?_spot (hc0.trans hv0)
        simpa [Addr.add] using this
      subst hspot
      refine ⟨b, o, rfl, block_lt_of_cell ((by rw [Addr.add_lit] at hc0; exact hc0.trans hv0) : w.cell? ⟨b, o + (0 * 6 + 0), none⟩ = some _), fun j u hu => ?_⟩
      have hr : ∀ r ∈ ((List.range len).map X).map En.l, r.length = 6 := fun x hx => by obtain ⟨e, _, rfl⟩ := List.mem_map.1 hx; rfl
      have hj := (List.getElem?_eq_some_iff.1 hu).1
      rw [flatten_len hr, List.length_map, hln] at hj
      have h1 : j / 6 < len := by omega
      have h2 := flat_at hr (i := j / 6) (by rw [List.length_map, hln]; exact h1) (j := j % 6) (by omega)
      have h3 := (hX (j / 6) h1).1 (j % 6) (by omega)
      rw [Addr.add_lit, show j / 6 * 6 + j % 6 = j by omega] at h3
      rw [show j / 6 * 6 + j % 6 = j by omega, hu] at h2
      rw [h3, List.getElem?_map]
      have h4 : (((List.range len).map X).map En.l)[j / 6]'(by rw [List.length_map, hln]; exact h1) = (X (j / 6)).l := by simp
      rw [h4] at h2
      rw [← h2]; rfl
    · obtain ⟨i, hi, rfl⟩ := List.mem_map.1 he
      exact (hX i (List.mem_range.1 hi)).2
set_option maxRecDepth 100000 in
theorem open_fd (h : DataW.trod enc Tryd.prog w 0 sp true fuel 23 cs = some y) : ∃ A c es, cs = [.slice A es.length c] ∧ FdB w.heap.size w (.slice A es.length c) es ∧ ∀ e ∈ es, IntsOk (Sp.l e) := by
  rcases Go.Deep.open_slice Tryd.underlying23 h with ⟨rfl, _⟩ | ⟨a, len, cap, m, n, D, Pl, rfl, _, hl, hm, hmm, _, hx⟩
  · exact ⟨none, 0, [], rfl, ⟨none, 0, rfl, Nat.le_refl _, Nat.zero_le _, fun _ => ⟨rfl, rfl⟩, fun h => by simp at h⟩, fun e he => by cases he⟩
  · have each : ∀ i, i < len → ∃ e : Sp, (∀ j, j < 2 → w.cell? (a.add (i * 2 + j)) = (e.l.map (Value.int .i64))[j]?) ∧ IntsOk e.l := by
      intro i hi
      have hlm : len ≤ m := by rw [hmm]; split <;> omega
      obtain ⟨cs', h1, h2⟩ := hx i (by omega)
      rw [cSpot] at h1
      obtain ⟨_, hlen, hcell⟩ := World.cells?_some h1
      obtain ⟨e, rfl, he⟩ := open_sp h2
      refine ⟨e, fun j hj => ?_, he⟩
      have e := hcell j hj
      rw [Go.Deep.add_add] at e
      exact e
    have : Inhabited Sp := ⟨⟨0, 0⟩⟩
    obtain ⟨X, hX⟩ := Go.Deep.choose_lt each
    have hln : ((List.range len).map X).length = len := by simp
    refine ⟨some a, cap, (List.range len).map X, by rw [hln], ⟨some a, cap, rfl, by omega, hm, (fun e => by cases e), fun h0 => ?_⟩, fun e he => ?_⟩
    · rw [hln] at h0
      obtain ⟨b, o, spot⟩ := a
      have hc0 := (hX 0 h0).1 0 (by omega)
      have hv0 : ∃ v, ((X 0).l.map (Value.int .i64))[0]? = some v := ⟨_, rfl⟩
      obtain ⟨v0, hv0⟩ := hv0
      have hspot : spot = none := by
        have := World.cell?_spot (hc0.trans hv0)
        simpa [Addr.add] using this
      subst hspot
      refine ⟨b, o, rfl, block_lt_of_cell ((by rw [Addr.add_lit] at hc0; exact hc0.trans hv0) : w.cell? ⟨b, o + (0 * 2 + 0), none⟩ = some _), fun j u hu => ?_⟩
      have hr : ∀ r ∈ ((List.range len).map X).map Sp.l, r.length = 2 := fun x hx => by obtain ⟨e, _, rfl⟩ := List.mem_map.1 hx; rfl
      have hj := (List.getElem?_eq_some_iff.1 hu).1
      rw [flatten_len hr, List.length_map, hln] at hj
      have h1 : j / 2 < len := by omega
      have h2 := flat_at hr (i := j / 2) (by rw [List.length_map, hln]; exact h1) (j := j % 2) (by omega)
      have h3 := (hX (j / 2) h1).1 (j % 2) (by omega)
      rw [Addr.add_lit, show j / 2 * 2 + j % 2 = j by omega] at h3
      rw [show j / 2 * 2 + j % 2 = j by omega, hu] at h2
      rw [h3, List.getElem?_map]
      have h4 : (((List.range len).map X).map Sp.l)[j / 2]'(by rw [List.length_map, hln]; exact h1) = (X (j / 2)).l := by simp
      rw [h4] at h2
      rw [← h2]; rfl
    · obtain ⟨i, hi, rfl⟩ := List.mem_map.1 he
      exact (hX i (List.mem_range.1 hi)).2
set_option maxRecDepth 100000 in
set_option maxHeartbeats 1000000 in
theorem open_rec (h : DataW.trod enc Tryd.prog w 0 sp true fuel 25 cs = some y) : ∃ (r : Rec) (A A' : Option Addr) (c c' : Nat), cs = [.int .i64 r.ki, .int .i64 r.st, .int .i64 r.ep, .int .i64 r.vi, .int .i64 r.fr, .int .i64 r.le, .slice A r.es.length c, .slice A' r.fd.length c'] ∧
    EsB w.heap.size w (.slice A r.es.length c) r.es ∧ FdB w.heap.size w (.slice A' r.fd.length c') r.fd ∧ r.ints := by
  obtain ⟨xs, n, _, _, hl, hlen, hf⟩ := DataW.trod_struct Tryd.underlying25 h
  rw [cRecord] at hl
  match cs, hl with
  | [c0, c1, c2, c3, c4, c5, c6, c7], _ =>
    match xs, hlen with
    | [y0, y1, y2, y3, y4, y5, y6, y7], _ =>
      have g0 := hf 0 _ rfl
      have g1 := hf 1 _ rfl
      have g2 := hf 2 _ rfl
      have g3 := hf 3 _ rfl
      have g4 := hf 4 _ rfl
      have g5 := hf 5 _ rfl
      have g6 := hf 6 _ rfl
      have g7 := hf 7 _ rfl
      simp only [List.getElem?_cons_zero, List.getElem?_cons_succ, List.getElem_toArray, List.getElem_cons_succ, List.getElem_cons_zero] at g0 g1 g2 g3 g4 g5 g6 g7
      obtain ⟨a0, e0, _, w0⟩ := DataW.trod_int Tryd.underlying3 g0
      obtain ⟨a1, e1, _, w1⟩ := DataW.trod_int Tryd.underlying3 g1
      obtain ⟨a2, e2, _, w2⟩ := DataW.trod_int Tryd.underlying3 g2
      obtain ⟨a3, e3, _, w3⟩ := DataW.trod_int Tryd.underlying3 g3
      obtain ⟨a4, e4, _, w4⟩ := DataW.trod_int Tryd.underlying3 g4
      obtain ⟨a5, e5, _, w5⟩ := DataW.trod_int Tryd.underlying3 g5
      obtain ⟨A, c, es, e6, hE, wE⟩ := open_es g6
      obtain ⟨A', c', fd, e7, hF, wF⟩ := open_fd g7
      simp only [cEnts, List.drop_succ_cons, List.drop_zero, List.take_succ_cons, List.take_zero] at e6 e7
      injection e0 with e0; injection e1 with e1; injection e2 with e2; injection e3 with e3; injection e4 with e4; injection e5 with e5; injection e6 with e6
      have e7' : [c7] = [Value.slice A' fd.length c'] := e7
      injection e7' with e7'
      subst e0 e1 e2 e3 e4 e5 e6 e7'
      refine ⟨⟨a0, a1, a2, a3, a4, a5, es, fd⟩, A, A', c, c', rfl, hE, hF, ?_, wE, wF⟩
      intro n hn
      simp only [Rec.hd, List.mem_cons, List.not_mem_nil, or_false] at hn
      rcases hn with rfl | rfl | rfl | rfl | rfl | rfl
      · exact wf_int w0
      · exact wf_int w1
      · exact wf_int w2
      · exact wf_int w3
      · exact wf_int w4
      · exact wf_int w5
end
end Go.Proofs.YtkdnhfeamibmdaaDoor
namespace Go.Proofs.YtkdnhfeamibmdaaDoor
open Go.RowKit Go.ChangeShapes Go.WideShapes Go.ChangeAt
set_option maxRecDepth 100000 in
theorem kinds_of {W : World} (h : laidMet Tryd.prog [("archipelago/mail.kinds", Rows.laid_archipelago_mail_kinds)] W) : Kinds W := by
  obtain ⟨ps, ⟨g', t', cs, fuel, p, q, hg', ht', hvar, hd, _, _⟩, _⟩ := h
  obtain rfl := Option.some.inj ((show Tryd.prog.globalNamed "archipelago/mail.kinds" = some 6 by kernel_rfl).symm.trans hg')
  obtain rfl := Option.some.inj ((show (Tryd.prog.globals[6]?).map (·.type) = some 119 by kernel_rfl).symm.trans ht')
  have hcs : cs.toList = [0, 35, 119, 3, 123, 51, 19, 128, 257, 3, 3].map fun z => Value.int .u64 z := Lib.cells_of_tab (n := 11) Tryd.underlying119 Tryd.underlying89 (by kernel_rfl) (by kernel_rfl) hd
  have at_ : ∀ i : Nat, i < 11 → W.cell? ⟨6, i, none⟩ = cs.toList[i]? := fun i hi => by
    have := World.var?_cell (show Tryd.prog.globalNamed "archipelago/mail.kinds" = some 6 by kernel_rfl) hvar i
    rw [this]; simp
  have h0 := at_ 0 (by omega)
  rw [hcs] at h0
  refine ⟨World.block_lt_of_cell? W _ h0, fun i hi => ?_⟩
  rw [at_ i hi, hcs, List.getElem?_map]
set_option maxRecDepth 100000 in
theorem mask_cells {H : Type} {enc : TypeId × Value → H} {w : World} {base : Nat} {sp : Nat → Bool} {held : Bool} {fuel : Nat} {cs : List Value} {f a b : Int} {p : List MemPlace}
    (h : DataW.trod enc Tryd.prog w base sp held fuel 122 cs = some (.agg [.lit (.int .u64 f), .lit (.int .i64 a), .lit (.int .i64 b)], p)) : cs = [.int .u64 f, .int .i64 a, .int .i64 b] := by
  obtain ⟨xs, n, _, hx, hl, hlen, hf⟩ := DataW.trod_struct Tryd.underlying122 h
  rw [show Tryd.prog.cellsOf 122 = 3 by kernel_rfl] at hl
  match cs, hl with
  | [c0, c1, c2], _ =>
    match xs, hlen with
    | [y0, y1, y2], _ =>
      simp only [Prod.mk.injEq, DataW.agg.injEq, List.map_cons, List.map_nil, List.cons.injEq, and_true] at hx
      obtain ⟨⟨e0, e1, e2⟩, _⟩ := hx
      have g0 := hf 0 _ rfl
      have g1 := hf 1 _ rfl
      have g2 := hf 2 _ rfl
      simp only [List.getElem?_cons_zero, List.getElem?_cons_succ, List.getElem_toArray, List.getElem_cons_succ, List.getElem_cons_zero] at g0 g1 g2
      rw [show y0 = (y0.1, y0.2) from rfl, ← e0] at g0
      rw [show y1 = (y1.1, y1.2) from rfl, ← e1] at g1
      rw [show y2 = (y2.1, y2.2) from rfl, ← e2] at g2
      obtain ⟨z0, q0, r0, _⟩ := DataW.trod_int Tryd.underlying89 g0
      obtain ⟨z1, q1, r1, _⟩ := DataW.trod_int Tryd.underlying3 g1
      obtain ⟨z2, q2, r2, _⟩ := DataW.trod_int Tryd.underlying3 g2
      simp [show Tryd.prog.cellsOf 3 = 1 by kernel_rfl, show Tryd.prog.cellsOf 89 = 1 by kernel_rfl] at q0 q1 q2 r0 r1 r2
      rw [q0, q1, q2, r0.1, r1.1, r2.1]
set_option maxRecDepth 100000 in
theorem masks_of {W : World} (h : laidMet Tryd.prog [("archipelago/mail.asked", Rows.laid_archipelago_mail_asked)] W) : Masks W := by
  obtain ⟨ps, ⟨g', t', cs, fuel, p, q, hg', ht', hvar, hd, _, _⟩, _⟩ := h
  obtain rfl := Option.some.inj ((show Tryd.prog.globalNamed "archipelago/mail.asked" = some 7 by kernel_rfl).symm.trans hg')
  obtain rfl := Option.some.inj ((show (Tryd.prog.globals[7]?).map (·.type) = some 123 by kernel_rfl).symm.trans ht')
  obtain ⟨xs, m, rfl, hx, hl, hlen, hf⟩ := DataW.trod_array Tryd.underlying123 hd
  rw [show Tryd.prog.cellsOf 123 = 18 by kernel_rfl] at hl
  rw [show Tryd.prog.cellsOf 122 = 3 by kernel_rfl] at hf
  have at_ : ∀ i : Nat, i < 18 → W.cell? ⟨7, i, none⟩ = cs.toList[i]? := fun i hi => by
    have := World.var?_cell (show Tryd.prog.globalNamed "archipelago/mail.asked" = some 7 by kernel_rfl) hvar i
    rw [this]; simp
  match xs, hlen with
  | [x0, x1, x2, x3, x4, x5], _ =>
    simp only [Rows.laid_archipelago_mail_asked, Prod.mk.injEq, DataW.agg.injEq, List.map_cons, List.map_nil, List.cons.injEq, and_true] at hx
    obtain ⟨⟨e0, e1, e2, e3, e4, e5⟩, _⟩ := hx
    have k0 := hf 0 (by omega)
    have k1 := hf 1 (by omega)
    have k2 := hf 2 (by omega)
    have k3 := hf 3 (by omega)
    have k4 := hf 4 (by omega)
    have k5 := hf 5 (by omega)
    simp only [List.getElem?_cons_zero, List.getElem?_cons_succ] at k0 k1 k2 k3 k4 k5
    have j0 := mask_cells (k0.trans (by rw [show x0 = (x0.1, x0.2) from rfl, ← e0]))
    have j1 := mask_cells (k1.trans (by rw [show x1 = (x1.1, x1.2) from rfl, ← e1]))
    have j2 := mask_cells (k2.trans (by rw [show x2 = (x2.1, x2.2) from rfl, ← e2]))
    have j3 := mask_cells (k3.trans (by rw [show x3 = (x3.1, x3.2) from rfl, ← e3]))
    have j4 := mask_cells (k4.trans (by rw [show x4 = (x4.1, x4.2) from rfl, ← e4]))
    have j5 := mask_cells (k5.trans (by rw [show x5 = (x5.1, x5.2) from rfl, ← e5]))
    generalize cs.toList = l at *
    match l, hl with
    | [c0, c1, c2, c3, c4, c5, c6, c7, c8, c9, c10, c11, c12, c13, c14, c15, c16, c17], _ =>
      simp at j0 j1 j2 j3 j4 j5
      obtain ⟨rfl, rfl, rfl⟩ := j0
      obtain ⟨rfl, rfl, rfl⟩ := j1
      obtain ⟨rfl, rfl, rfl⟩ := j2
      obtain ⟨rfl, rfl, rfl⟩ := j3
      obtain ⟨rfl, rfl, rfl⟩ := j4
      obtain ⟨rfl, rfl, rfl⟩ := j5
      exact ⟨World.block_lt_of_cell? W _ (at_ 0 (by omega)), fun i hi => at_ i hi⟩
/-- The nine variables, as a row lists them. -/
def nineLaid : List (String × DataW Unit) := sevenLaid ++ [("archipelago/mail.kinds", Rows.laid_archipelago_mail_kinds), ("archipelago/mail.asked", Rows.laid_archipelago_mail_asked)]
theorem askM_of {W : World} (h : laidMetH Tryd.prog nineLaid W) : AskM W := by
  have h0 : laidMet Tryd.prog nineLaid W := h
  unfold nineLaid sevenLaid at h0
  have hA := asked_of (W := W) (laid_head h0)
  have h1 := laid_tail h0
  have h2 := laid_tail h1
  have h3 := laid_tail h2
  have h4 := laid_tail h3
  have h5 := laid_tail h4
  have h6 := laid_tail h5
  have h7 := laid_tail h6
  have h8 := laid_tail h7
  obtain ⟨s1, l1⟩ := rspan_of (g := 0) (by kernel_rfl) (by kernel_rfl) (laid_head h1)
  obtain ⟨s2, l2⟩ := rspan_of (g := 1) (by kernel_rfl) (by kernel_rfl) (laid_head h2)
  obtain ⟨s3, l3⟩ := rspan_of (g := 3) (by kernel_rfl) (by kernel_rfl) (laid_head h3)
  obtain ⟨s4, l4⟩ := rspan_of (g := 2) (by kernel_rfl) (by kernel_rfl) (laid_head h4)
  obtain ⟨s5, l5⟩ := rspan_of (g := 5) (by kernel_rfl) (by kernel_rfl) (laid_head h5)
  obtain ⟨s6, l6⟩ := rspan_of (g := 4) (by kernel_rfl) (by kernel_rfl) (laid_head h6)
  exact ⟨⟨hA, s1, s2, s3, s4, s5, s6, l1, l2, l3, l4, l5, l6⟩, kinds_of (laid_head h7), masks_of h8⟩
theorem cMail : Tryd.prog.cellsOf 45 = 18 := by kernel_rfl
theorem cAnswer : Tryd.prog.cellsOf 43 = 3 := by kernel_rfl
section
variable {H : Type} {enc : TypeId × Value → H} {w : World} {sp : Nat → Bool} {fuel : Nat} {cs : List Value} {y : DataW H × List MemPlace}
set_option maxRecDepth 100000 in
theorem open_ans (h : DataW.trod enc Tryd.prog w 0 sp true fuel 43 cs = some y) : ∃ a b c : Int, cs = [.int .i64 a, .int .i64 b, .int .i64 c] ∧ IntsOk [a, b, c] := by
  obtain ⟨xs, n, _, _, hl, hlen, hf⟩ := DataW.trod_struct Tryd.underlying43 h
  rw [cAnswer] at hl
  match cs, hl with
  | [c0, c1, c2], _ =>
    match xs, hlen with
    | [y0, y1, y2], _ =>
      have g0 := hf 0 _ rfl
      have g1 := hf 1 _ rfl
      have g2 := hf 2 _ rfl
      simp only [List.getElem?_cons_zero, List.getElem?_cons_succ, List.getElem_toArray, List.getElem_cons_succ, List.getElem_cons_zero] at g0 g1 g2
      obtain ⟨z0, q0, _, w0⟩ := DataW.trod_int Tryd.underlying3 g0
      obtain ⟨z1, q1, _, w1⟩ := DataW.trod_int Tryd.underlying3 g1
      obtain ⟨z2, q2, _, w2⟩ := DataW.trod_int Tryd.underlying3 g2
      simp [cInt] at q0 q1 q2
      subst q0 q1 q2
      refine ⟨z0, z1, z2, rfl, fun m hm => ?_⟩
      simp only [List.mem_cons, List.not_mem_nil, or_false] at hm
      rcases hm with rfl | rfl | rfl
      · exact wf_int w0
      · exact wf_int w1
      · exact wf_int w2
set_option maxRecDepth 100000 in
set_option maxHeartbeats 2000000 in
theorem open_ml (h : DataW.trod enc Tryd.prog w 0 sp true fuel 45 cs = some y) : ∃ (m : Ml) (A : Option Addr) (c : Nat), cs = m.cells (.slice A m.es.length c) ∧ EsB w.heap.size w (.slice A m.es.length c) m.es ∧ m.ints := by
  obtain ⟨xs, n, _, _, hl, hlen, hf⟩ := DataW.trod_struct Tryd.underlying45 h
  rw [cMail] at hl
  match cs, hl with
  | [c0, c1, c2, c3, c4, c5, c6, c7, c8, c9, c10, c11, c12, c13, c14, c15, c16, c17], _ =>
    match xs, hlen with
    | [y0, y1, y2, y3, y4, y5, y6, y7, y8, y9, y10, y11], _ =>
      have g0 := hf 0 _ rfl
      have g1 := hf 1 _ rfl
      have g2 := hf 2 _ rfl
      have g3 := hf 3 _ rfl
      have g4 := hf 4 _ rfl
      have g5 := hf 5 _ rfl
      have g6 := hf 6 _ rfl
      have g7 := hf 7 _ rfl
      have g8 := hf 8 _ rfl
      have g9 := hf 9 _ rfl
      have g10 := hf 10 _ rfl
      have g11 := hf 11 _ rfl
      simp only [List.getElem?_cons_zero, List.getElem?_cons_succ, List.getElem_toArray, List.getElem_cons_succ, List.getElem_cons_zero] at g0 g1 g2 g3 g4 g5 g6 g7 g8 g9 g10 g11
      obtain ⟨a0, e0, _, w0⟩ := DataW.trod_int Tryd.underlying3 g0
      obtain ⟨a1, e1, _, w1⟩ := DataW.trod_int Tryd.underlying3 g1
      obtain ⟨a2, e2, _, w2⟩ := DataW.trod_int Tryd.underlying3 g2
      obtain ⟨a3, e3, _, w3⟩ := DataW.trod_int Tryd.underlying3 g3
      obtain ⟨a4, e4, _, w4⟩ := DataW.trod_int Tryd.underlying3 g4
      obtain ⟨a5, e5, _, w5⟩ := DataW.trod_int Tryd.underlying3 g5
      obtain ⟨a6, e6, _, w6⟩ := DataW.trod_int Tryd.underlying3 g6
      obtain ⟨a7, e7, _, w7⟩ := DataW.trod_int Tryd.underlying3 g7
      obtain ⟨a8, e8, _, w8⟩ := DataW.trod_int Tryd.underlying3 g8
      obtain ⟨A, c, es, e9, hE, wE⟩ := open_es g9
      obtain ⟨o, e10, wO⟩ := open_order g10
      obtain ⟨p, q, r, e11, wA⟩ := open_ans g11
      simp [cInt] at e0 e1 e2 e3 e4 e5 e6 e7 e8
      simp [cEnts] at e9
      simp [cOrder] at e10
      simp [cAnswer] at e11
      obtain ⟨rfl, rfl, rfl, rfl, rfl⟩ := e10
      obtain ⟨rfl, rfl, rfl⟩ := e11
      subst e0 e1 e2 e3 e4 e5 e6 e7 e8 e9
      refine ⟨⟨a0, a1, a2, a3, a4, a5, a6, a7, a8, es, o, p, q, r⟩, A, c, rfl, hE, ?_, wE, ?_⟩
      · intro n hn
        simp only [Ml.hd, List.mem_cons, List.not_mem_nil, or_false] at hn
        rcases hn with rfl | rfl | rfl | rfl | rfl | rfl | rfl | rfl | rfl
        · exact wf_int w0
        · exact wf_int w1
        · exact wf_int w2
        · exact wf_int w3
        · exact wf_int w4
        · exact wf_int w5
        · exact wf_int w6
        · exact wf_int w7
        · exact wf_int w8
      · intro n hn
        rcases List.mem_append.1 hn with hn | hn
        · exact wO n hn
        · exact wA n hn
end
end Go.Proofs.YtkdnhfeamibmdaaDoor
namespace Go.Proofs.YtkdnhfeamibmdaaDoor.mailDecodeW
open Go.RowKit Go.Sort
theorem setCells_foot (b : Nat) : ∀ (vs : List Value) (o : Nat) (w : World), Foot (fun j => j = b) w (w.setCells b o vs)
  | [], _, w => by unfold World.setCells; exact Foot.refl _ _
  | v :: r, o, w => by
    unfold World.setCells
    exact (Foot.set (fun j => j = b) w ⟨b, o, none⟩ v rfl).trans (setCells_foot b r (o + 1) _) fun _ _ h => h
/-- A row of the call's own, whatever stands in it. -/
def RowT (w : World) (base : Nat) (t : TypeId) (size : Nat) (A : Option Addr) (n c : Nat) : Prop := ∃ xs, w.ownsRow base t size (.slice A n c) n xs
theorem RowT.stores {base n c size g : Nat} {t : TypeId} : ∀ (vs : List Value) (o : Nat) (w : World), RowT w base t size (some ⟨g, 0, none⟩) n c → RowT (w.setCells g o vs) base t size (some ⟨g, 0, none⟩) n c
  | [], _, _, h => h
  | v :: r, o, w, h => by
    obtain ⟨xs, ho⟩ := h
    unfold World.setCells
    exact RowT.stores r (o + 1) _ ⟨_, (World.ownsRow.stored ho o v).1⟩
theorem RowT.at_ {w : World} {base n c size k : Nat} {t : TypeId} {A : Option Addr} (h : RowT w base t size A n c) (hk : k < n) :
    ∃ g, A = some ⟨g, 0, none⟩ ∧ base ≤ g ∧ g < w.heap.size ∧ w.there g (k * size) size := by
  obtain ⟨xs, ho⟩ := h
  have ho' := ho
  rcases ho.2 with ⟨h1, h2⟩ | ⟨g, cap, cur, h1, h2, h3, _⟩
  · omega
  · injection h1 with h1 _ h3'
    subst h1 h3'
    refine ⟨g, rfl, h2, heap_lt h3, fun j hj => ?_⟩
    have hl := ho.1
    have hx : k * size + j < n * size := by
      have := Nat.mul_le_mul_right size (show k + 1 ≤ n from hk)
      rw [Nat.succ_mul] at this
      omega
    have hc := World.ownsRow.cellAt ho' (k * size + j) hx
    rw [List.getElem?_eq_getElem (by omega)] at hc
    exact ⟨by rw [hc]; rfl, World.ownsRow.frozenAt ho' _⟩
/-- What both answer: a message, and whether. -/
def ResM (m : Ml) (er : Int) (w : World) (e : Ending) (w' : World) : Prop :=
  Below w.heap.size w w' ∧ ∃ (A : Option Addr) (c : Nat), e = .returned (.tuple #[m.v (.slice A m.es.length c), .int .i64 er]) ∧ OwnE w' w.heap.size (.slice A m.es.length c) m.es
theorem ml_res (l : List UInt8) (n : Int) : ∃ (m : Ml) (er : Int), m.es.length ≤ 64 ∧ ∀ w e w', MlDecPost l n w e w' → ResM m er w e w' := by
  by_cases h : ∃ m : Ml, m.may n = true ∧ m.enc = l
  · obtain ⟨m, hm, he⟩ := h
    refine ⟨m, 0, Ml.may_es hm, fun w e w' hp => ⟨hp.1, ?_⟩⟩
    rcases hp.2 with ⟨x, A, c, hx, hxe, rfl, hO⟩ | ⟨hn, _⟩
    · obtain rfl : x = m := Ml.enc_inj (Ml.ints_l (Ml.may_ints hx) (by have := Ml.may_es hx; omega)) (Ml.ints_l (Ml.may_ints hm) (by have := Ml.may_es hm; omega)) (hxe.trans he.symm)
      exact ⟨A, c, rfl, hO⟩
    · exact absurd he (hn m hm)
  · refine ⟨ml0, 30, by simp [ml0], fun w e w' hp => ⟨hp.1, ?_⟩⟩
    rcases hp.2 with ⟨x, A, c, hx, hxe, _⟩ | ⟨_, rfl⟩
    · exact absurd ⟨x, hx, hxe⟩ h
    · exact ⟨none, 0, rfl, World.ownsRow_nil _ _ _ _⟩
set_option maxRecDepth 100000 in
set_option maxHeartbeats 1000000 in
theorem walk_off (s : ByteArray) (n : Int) (w : World) (h : 20000 < s.size) : Calls Tryd.prog 6 #[.string s, .int .i64 n] w fun e w' => e = .returned (.bool true) ∧ Below w.heap.size w w' := by
  have t : (20000 : Int) < (s.size : Int) := by omega
  have t' : decide (20000 < (s.size : Int)) = true := decide_eq_true t
  go_enter Tryd.func6, Tryd.ntmps6
  go_wp2_with fail
  go_ret
  exact ⟨rfl, Below.refl _ _⟩
set_option maxRecDepth 100000 in
set_option maxHeartbeats 16000000 in
theorem walk (s : ByteArray) (n : Int) (w : World) (hA : AskM w) (_ : s.size ≤ maxLen) (_ : (Lit.int .i64 n).wf) : Calls Tryd.prog 6 #[.string s, .int .i64 n] w fun e w' => e = .returned (.bool true) ∧ Below w.heap.size w w' := by
  by_cases hbig : 20000 < s.size
  · exact walk_off s n w hbig
  have t : ¬ (20000 : Int) < (s.size : Int) := by omega
  have t' : decide (20000 < (s.size : Int)) = false := decide_eq_false t
  have hs : s.size ≤ 1000000 := by omega
  have hsz : s.size ≤ 9223372036854775807 := by omega
  obtain ⟨m, er, hl1, hres⟩ := ml_res (bytesOf s) n
  have HAK := Lib.hid (fun X (hX : Below w.heap.size w X) => hA.keep hX)
  have HD := Lib.hid (fun X (hX : Below w.heap.size w X) => (mlDecode_any s hs n (HAK.out X hX)).mono (hres X))
  have HD2 := Lib.hid (fun X => (rmDec_any hs n X).mono (hres X))
  have HWK := Lib.hid (fun X (hX : Below w.heap.size w X) => mlWorks_any (HAK.out X hX))
  have HSM := Lib.hid (fun X {A' A'' : Option Addr} {c' c'' : Nat} (h1 : EsB X.heap.size X (.slice A' m.es.length c') m.es) (h2 : EsB X.heap.size X (.slice A'' m.es.length c'') m.es) => sameMail_any m h1 h2 (Nat.le_refl _) (Nat.le_refl _))
  unfold ResM at HD HD2
  clear hA hbig hs hres
  simp only [Ml.v] at *
  go_enter Tryd.func6, Tryd.ntmps6
  go_wp2_with fail
  refine (HD.out w (Below.refl _ _)).mono ?_
  rintro e w1 ⟨hb, A, c, rfl, hE⟩
  have hB1 : Below w.heap.size w w1 := hb
  have HE1 := Lib.hid hE
  clear hb hE
  obtain ⟨w2, HX2⟩ : ∃ W : World, Hid (W = w1.alloc (.cells (m.cells (.slice A m.es.length c)).toArray 45)) := ⟨_, Lib.hid rfl⟩
  obtain ⟨wz, HZ2⟩ : ∃ W : World, Hid (w1.alloc (.cells #[.int .i64 0, .int .i64 0, .int .i64 0, .int .i64 0, .int .i64 0, .int .i64 0, .int .i64 0, .int .i64 0, .int .i64 0, .slice none 0 0, .int .i64 0, .int .i64 0, .int .i64 0, .int .i64 0, .int .i64 0, .int .i64 0, .int .i64 0, .int .i64 0] 45) = W) := ⟨_, Lib.hid rfl⟩
  have HS2 : Hid ((storeVar 45 ⟨w1.heap.size, 0, none⟩ (.agg (m.cells (.slice A m.es.length c)).toArray)).run Tryd.prog wz = .ok () w2) := Lib.hid (by
    rw [← HZ2.out, HX2.out]
    exact run_storeVar_new w1 45 #[.int .i64 0, .int .i64 0, .int .i64 0, .int .i64 0, .int .i64 0, .int .i64 0, .int .i64 0, .int .i64 0, .int .i64 0, .slice none 0 0, .int .i64 0, .int .i64 0, .int .i64 0, .int .i64 0, .int .i64 0, .int .i64 0, .int .i64 0, .int .i64 0] (m.cells (.slice A m.es.length c)).toArray (by kernel_rfl) (by simp [Ml.cells]) (by simp [Ml.cells, Value.oneCell']))
  have h_r2 : w2.heap[w1.heap.size]? = some (.cells (m.cells (.slice A m.es.length c)).toArray 45 (0, 0)) := by rw [HX2.out]; exact heap_alloc_new _ _
  have hb12 : Below w1.heap.size w1 w2 := by rw [HX2.out]; exact (Below.refl _ _).alloc (Nat.le_refl _) _
  have hB2 := keepB hB1 hb12
  have HE2 := Lib.hid (HE1.out.below hb12)
  have HLE : Hid (∀ j, (Value.slice A m.es.length c).ownBlock = some j → j < w1.heap.size) := Lib.hid fun j hj => (World.ownsRow.lt HE1.out j hj).2
  clear HE1
  go_wp2_with (first | rw [HZ2.out] | (with_reducible refine wpList_store_known (by rfl) 45 _ _ (by rfl) ⟨w1.heap.size, 0, none⟩ _ (by with_unfolding_all rfl) (by with_unfolding_all rfl) HS2.out ?_))
  refine (HD2.out w2).mono ?_
  rintro e w3 ⟨hb, D, d, rfl, hE⟩
  have hB3 := keepB hB2 hb
  have h_r3 := keepH hb h_r2
  have HE3 := Lib.hid (HE2.out.below hb)
  have HWE3 := Lib.hid hE
  clear hb hE h_r2 HE2 HX2 HZ2 HS2 HD2
  obtain ⟨w4, HX4⟩ : ∃ W : World, Hid (W = w3.alloc (.cells (m.cells (.slice D m.es.length d)).toArray 45)) := ⟨_, Lib.hid rfl⟩
  obtain ⟨wz, HZ4⟩ : ∃ W : World, Hid (w3.alloc (.cells #[.int .i64 0, .int .i64 0, .int .i64 0, .int .i64 0, .int .i64 0, .int .i64 0, .int .i64 0, .int .i64 0, .int .i64 0, .slice none 0 0, .int .i64 0, .int .i64 0, .int .i64 0, .int .i64 0, .int .i64 0, .int .i64 0, .int .i64 0, .int .i64 0] 45) = W) := ⟨_, Lib.hid rfl⟩
  have HS4 : Hid ((storeVar 45 ⟨w3.heap.size, 0, none⟩ (.agg (m.cells (.slice D m.es.length d)).toArray)).run Tryd.prog wz = .ok () w4) := Lib.hid (by
    rw [← HZ4.out, HX4.out]
    exact run_storeVar_new w3 45 #[.int .i64 0, .int .i64 0, .int .i64 0, .int .i64 0, .int .i64 0, .int .i64 0, .int .i64 0, .int .i64 0, .int .i64 0, .slice none 0 0, .int .i64 0, .int .i64 0, .int .i64 0, .int .i64 0, .int .i64 0, .int .i64 0, .int .i64 0, .int .i64 0] (m.cells (.slice D m.es.length d)).toArray (by kernel_rfl) (by simp [Ml.cells]) (by simp [Ml.cells, Value.oneCell']))
  have h_w4 : w4.heap[w3.heap.size]? = some (.cells (m.cells (.slice D m.es.length d)).toArray 45 (0, 0)) := by rw [HX4.out]; exact heap_alloc_new _ _
  have hb34 : Below w3.heap.size w3 w4 := by rw [HX4.out]; exact (Below.refl _ _).alloc (Nat.le_refl _) _
  have hB4 := keepB hB3 hb34
  have h_r4 := keepH hb34 h_r3
  have HE4 := Lib.hid (HE3.out.below hb34)
  have HWE4 := Lib.hid (HWE3.out.below hb34)
  have hz13 : w1.heap.size < w3.heap.size := heap_lt h_r3
  have hz12 : w1.heap.size < w2.heap.size + 1 := by have := hb12.size; omega
  have hz12' : w1.heap.size ≤ w2.heap.size := hb12.size
  have HLR4 := Lib.hid (MlBox.load (w := w4) (b := w1.heap.size) (m := m) (v := .slice A m.es.length c) h_r4)
  have HLW4 := Lib.hid (MlBox.load (w := w4) (b := w3.heap.size) (m := m) (v := .slice D m.es.length d) h_w4)
  simp only [Ml.v] at HLR4 HLW4
  clear h_r3 HE3 HWE3 hb34 hb12
  go_wp2_with (first | rw [HZ4.out] | (with_reducible refine wpList_store_known (by rfl) 45 _ _ (by rfl) ⟨w3.heap.size, 0, none⟩ _ (by with_unfolding_all rfl) (by with_unfolding_all rfl) HS4.out ?_) | (with_reducible refine wpList_load_want (by kernel_rfl) 45 _ (by rfl) ⟨w1.heap.size, 0, none⟩ (by with_unfolding_all rfl) HLR4.out ?_) | (with_reducible refine wpList_load_want (by kernel_rfl) 45 _ (by rfl) ⟨w3.heap.size, 0, none⟩ (by with_unfolding_all rfl) HLW4.out ?_))
  refine (HSM.out w4 HE4.out.es HWE4.out.es).mono ?_
  rintro e w5 ⟨rfl, hb⟩
  have hB5 := keepB hB4 hb
  have h_r5 := Lib.hid (keepH hb h_r4)
  have h_w5 := Lib.hid (keepH hb h_w4)
  have HE5 : Hid (RowT w5 w.heap.size 30 6 A m.es.length c) := Lib.hid ⟨_, HE4.out.below hb⟩
  have HWE5 := Lib.hid (HWE4.out.below hb)
  clear hb h_r4 h_w4 HE4 HWE4 HX4 HZ4 HS4 HLR4 HLW4
  have d9 : w5.cell? ⟨w1.heap.size, 9, none⟩ = some (.slice A m.es.length c) := cell_at (i := 9) h_r5.out rfl
  go_wp2_with fail
  clear d9
  go_loopw [9] (fun iv wr => ∃ k : Nat, k ≤ m.es.length ∧ iv = .int .i64 k ∧ Hid (wr.heap[w1.heap.size]? = some (.cells (m.cells (.slice A m.es.length c)).toArray 45 (0, 0))) ∧ Hid (wr.heap[w3.heap.size]? = some (.cells (m.cells (.slice D m.es.length d)).toArray 45 (0, 0))) ∧ Hid (RowT wr w.heap.size 30 6 A m.es.length c) ∧ Hid (OwnE wr w2.heap.size (.slice D m.es.length d) m.es) ∧ Hid (Below w.heap.size w wr)) (fun iv _ => m.es.length - (intOf iv).toNat)
  case atStart => exact ⟨0, Nat.zero_le _, rfl, h_r5, h_w5, HE5, HWE5, Lib.hid hB5⟩
  case round =>
    clear h_r5 h_w5 HE5 HWE5 hB5
    obtain ⟨k, hk, rfl, h_r, h_w, hE, hWE, hB⟩ := hrel
    have d9 : wr.cell? ⟨w1.heap.size, 9, none⟩ = some (.slice A m.es.length c) := cell_at (i := 9) h_r.out rfl
    by_cases hlt : k < m.es.length
    · obtain ⟨g, rfl, hg1, hg2, hth⟩ := hE.out.at_ hlt
      have hii : (k : Int) < (m.es.length : Int) := by omega
      have hgl : g < w1.heap.size := HLE.out g rfl
      have HST := Lib.hid (run_storeVar_mid (P := Tryd.prog) wr g (k * 6) 30 #[.int .i64 (-9), .int .i64 0, .int .i64 0, .int .i64 0, .int .i64 0, .int .i64 0] hth (by kernel_rfl) (by simp [Value.oneCell']))
      obtain ⟨w6, HX6⟩ : ∃ W : World, Hid (W = wr.setCells g (k * 6) [.int .i64 (-9), .int .i64 0, .int .i64 0, .int .i64 0, .int .i64 0, .int .i64 0]) := ⟨_, Lib.hid rfl⟩
      have hft : Foot (fun j => j = g) wr w6 := by rw [HX6.out]; exact setCells_foot _ _ _ _
      have h_r6 := Lib.hid (hft.kept h_r.out (by omega))
      have h_w6 := Lib.hid (hft.kept h_w.out (by omega))
      have hE6 : Hid (RowT w6 w.heap.size 30 6 (some ⟨g, 0, none⟩) m.es.length c) := Lib.hid (by rw [HX6.out]; exact RowT.stores _ _ _ hE.out)
      have hWE6 : Hid (OwnE w6 w2.heap.size (.slice D m.es.length d) m.es) := Lib.hid (owns_foot hWE.out hft fun j hj e => by have := (World.ownsRow.lt hWE.out j hj).1; omega)
      have hB6 : Hid (Below w.heap.size w w6) := Lib.hid (hB.out.trans (hft.below (B := w.heap.size) fun j hj => ⟨by have := hB.out.size; omega, by omega⟩))
      have hST : (storeVar 30 ⟨g, k * 6, none⟩ (.agg #[.int .i64 (-9), .int .i64 0, .int .i64 0, .int .i64 0, .int .i64 0, .int .i64 0])).run Tryd.prog wr = .ok () w6 := by rw [HX6.out]; exact HST.out
      replace hST := Lib.hid hST
      clear hft HST HX6 hth h_r h_w hE hWE hB HD HWK HAK HSM
      go_wp2_with (refine wpList_store_known rfl 30 _ _ rfl ⟨g, k * 6, none⟩ (.agg #[.int .i64 (-9), .int .i64 0, .int .i64 0, .int .i64 0, .int .i64 0, .int .i64 0]) (by simp [Act.eval]) rfl hST.out ?_)
      go_roundw
      case rel => exact ⟨k + 1, by omega, by go_num, h_r6, h_w6, hE6, hWE6, hB6⟩
      case measure => simp [intOf]; omega
    · have hii : ¬ (k : Int) < (m.es.length : Int) := by omega
      clear hE
      go_wp2_with fail
      refine (HD.out _ hB.out).mono ?_
      rintro e w7 ⟨hb, E, e0, rfl, hE⟩
      have hB7 := keepB hB.out hb
      have h_w7 := keepH hb h_w.out
      have HWE7 := Lib.hid (hWE.out.below hb)
      have HGE7 := Lib.hid hE
      obtain ⟨w8, HX8⟩ : ∃ W : World, Hid (W = w7.alloc (.cells (m.cells (.slice E m.es.length e0)).toArray 45)) := ⟨_, Lib.hid rfl⟩
      obtain ⟨wz, HZ8⟩ : ∃ W : World, Hid (w7.alloc (.cells #[.int .i64 0, .int .i64 0, .int .i64 0, .int .i64 0, .int .i64 0, .int .i64 0, .int .i64 0, .int .i64 0, .int .i64 0, .slice none 0 0, .int .i64 0, .int .i64 0, .int .i64 0, .int .i64 0, .int .i64 0, .int .i64 0, .int .i64 0, .int .i64 0] 45) = W) := ⟨_, Lib.hid rfl⟩
      have HS8 : Hid ((storeVar 45 ⟨w7.heap.size, 0, none⟩ (.agg (m.cells (.slice E m.es.length e0)).toArray)).run Tryd.prog wz = .ok () w8) := Lib.hid (by
        rw [← HZ8.out, HX8.out]
        exact run_storeVar_new w7 45 #[.int .i64 0, .int .i64 0, .int .i64 0, .int .i64 0, .int .i64 0, .int .i64 0, .int .i64 0, .int .i64 0, .int .i64 0, .slice none 0 0, .int .i64 0, .int .i64 0, .int .i64 0, .int .i64 0, .int .i64 0, .int .i64 0, .int .i64 0, .int .i64 0] (m.cells (.slice E m.es.length e0)).toArray (by kernel_rfl) (by simp [Ml.cells]) (by simp [Ml.cells, Value.oneCell']))
      have h_g8 : w8.heap[w7.heap.size]? = some (.cells (m.cells (.slice E m.es.length e0)).toArray 45 (0, 0)) := by rw [HX8.out]; exact heap_alloc_new _ _
      have hb78 : Below w7.heap.size w7 w8 := by rw [HX8.out]; exact (Below.refl _ _).alloc (Nat.le_refl _) _
      have hB8 := keepB hB7 hb78
      have h_w8 := keepH hb78 h_w7
      have HWE8 := Lib.hid (HWE7.out.below hb78)
      have HGE8 := Lib.hid (HGE7.out.below hb78)
      have HLG8 := Lib.hid (MlBox.load (w := w8) (b := w7.heap.size) (m := m) (v := .slice E m.es.length e0) h_g8)
      have HLW8 := Lib.hid (MlBox.load (w := w8) (b := w3.heap.size) (m := m) (v := .slice D m.es.length d) h_w8)
      simp only [Ml.v] at HLG8 HLW8
      clear hb hE h_w h_r hWE HWE7 HGE7 h_w7 d9 hb78
      go_wp2_with (first | rw [HZ8.out] | (with_reducible refine wpList_store_known (by rfl) 45 _ _ (by rfl) ⟨w7.heap.size, 0, none⟩ _ (by with_unfolding_all rfl) (by with_unfolding_all rfl) HS8.out ?_) | (with_reducible refine wpList_load_want (by kernel_rfl) 45 _ (by rfl) ⟨w7.heap.size, 0, none⟩ (by with_unfolding_all rfl) HLG8.out ?_) | (with_reducible refine wpList_load_want (by kernel_rfl) 45 _ (by rfl) ⟨w3.heap.size, 0, none⟩ (by with_unfolding_all rfl) HLW8.out ?_))
      refine (HSM.out w8 HGE8.out.es HWE8.out.es).mono ?_
      rintro e w9 ⟨rfl, hb⟩
      have hB9 := keepB hB8 hb
      go_wp2_with fail
      refine (HWK.out w9 hB9).mono ?_
      rintro e w10 ⟨rfl, hb⟩
      go_wp2_with fail
      go_ret
      exact ⟨rfl, keepB hB9 hb⟩
end Go.Proofs.YtkdnhfeamibmdaaDoor.mailDecodeW
namespace Go.Proofs.YtkdnhfeamibmdaaDoor.mailDecode
open Go.ChangeShapes Go.WideShapes Go.ChangeAt Go.RowKit
open Go.ChangeMaps (open_string shut_string)
theorem own : ownKnob Tryd.prog.godebug = none := by kernel_rfl
noncomputable def laidWorld (os : Os) : World :=
  { World.holding Tryd.prog os ⟨#[], #[], []⟩ with heap := ((((((((((World.holding Tryd.prog os ⟨#[], #[], []⟩).heap.modify 8 fun
      | .cells _ t frozen => .cells #[.int .i64 1, .int .i64 2147483647, .int .i64 0, .int .i64 3, .int .i64 (-1), .int .i64 2147483647, .int .i64 1, .int .i64 4, .int .i64 (-1048576), .int .i64 1048576] t frozen
      | o => o).modify 0 fun
      | .cells _ t frozen => .cells #[.int .i64 0, .int .i64 3] t frozen
      | o => o).modify 1 fun
      | .cells _ t frozen => .cells #[.int .i64 1, .int .i64 1048576] t frozen
      | o => o).modify 3 fun
      | .cells _ t frozen => .cells #[.int .i64 0, .int .i64 1048576] t frozen
      | o => o).modify 2 fun
      | .cells _ t frozen => .cells #[.int .i64 0, .int .i64 64] t frozen
      | o => o).modify 5 fun
      | .cells _ t frozen => .cells #[.int .i64 0, .int .i64 63] t frozen
      | o => o).modify 4 fun
      | .cells _ t frozen => .cells #[.int .i64 0, .int .i64 256] t frozen
      | o => o).modify 6 fun
      | .cells _ t frozen => .cells #[.int .u64 0, .int .u64 35, .int .u64 119, .int .u64 3, .int .u64 123, .int .u64 51, .int .u64 19, .int .u64 128, .int .u64 257, .int .u64 3, .int .u64 3] t frozen
      | o => o).modify 7 fun
      | .cells _ t frozen => .cells #[.int .u64 1, .int .i64 0, .int .i64 3, .int .u64 2, .int .i64 1, .int .i64 1048576, .int .u64 4, .int .i64 0, .int .i64 1048576, .int .u64 8, .int .i64 0, .int .i64 64, .int .u64 16, .int .i64 0, .int .i64 64, .int .u64 32, .int .i64 0, .int .i64 1073741824] t frozen
      | o => o) }
theorem laid_met (os : Os) : laidMet Tryd.prog Rows.mailDecodeRow.laid ((laidWorld os).forCall (fun _ _ => 0) ⟨#[], #[.string ByteArray.empty, .int .i64 0], []⟩).memory :=
  laidMet_of_run' 8 (by kernel_rfl) (by kernel_rfl)
theorem reads (os : Os) {H : Type} (enc : TypeId × Value → H) : ∃ places, DataW.whole enc Tryd.prog ((laidWorld os).forCall (fun _ _ => 0) ⟨#[], #[.string ByteArray.empty, .int .i64 0], []⟩).memory Tryd.f6.params.toList Rows.mailDecodeSpec.vars false (#[.string ByteArray.empty, .int .i64 0] : Array Value).toList 8 = some ([.lit (.string []), .lit (.int .i64 0)], [], places) :=
  ⟨[], by kernel_rfl⟩
set_option maxRecDepth 100000 in
theorem lifted (os : Os) (started : os.Started) (H : Type) (enc : TypeId × Value → H) (F : Stop.Interp) :
    ReturnsInHanded {} Tryd.checked os 6 .any ((OpenSpec.ofChange Rows.mailDecodeSpec).preRow enc Tryd.prog Tryd.f6 Rows.mailDecodeRow.domain false Rows.mailDecodeRow.laid) (((OpenSpec.ofChange Rows.mailDecodeSpec).at F).post enc Tryd.prog Tryd.f6 false true false false) := by
  obtain ⟨places, hx⟩ := reads os enc
  refine returnsInHanded_of_row (C := Tryd.checked) (s := OpenSpec.ofChange Rows.mailDecodeSpec) own started (by kernel_rfl) Tryd.func6
    (witness_row_at (enc := enc) (C := Tryd.checked) false (laidWorld os) #[.string ByteArray.empty, .int .i64 0] rfl (by kernel_rfl) (by kernel_rfl) (by kernel_rfl)
      (OpenSpec.preRow_of_cond 8 hx (by kernel_rfl) (fun k hk => by cases hk) (by kernel_rfl) (laid_met os))) ?_
  intro W base args ds gs before hval0 hW _ _ hsz hL _ _
  have hAsk : AskM W := askM_of hL
  have hval : ∀ (j : Nat) t v, Tryd.f6.params[j]? = some t → args[j]? = some v → Value.okWide Tryd.prog W .any base t v := hval0
  have hW' := hW
  obtain ⟨p, q, hA0, hV, rfl, hfz, hnd⟩ := hW
  have hA : DataW.TrodAll enc Tryd.prog W 0 (fun _ => true) true Tryd.f6.params.toList args.toList ds p := hA0
  rw [Tryd.params6] at hA hval
  obtain ⟨v0, vs0, d0, ds0, p0, q0, hargs, rfl, rfl, h0, r0⟩ := trodAll_cons hA
  obtain ⟨v1, vs1, d1, ds1, p1, q1, rfl, rfl, rfl, h1, r1⟩ := trodAll_cons r0
  obtain ⟨rfl, rfl, rfl⟩ := trodAll_nil r1
  obtain rfl : args = #[v0, v1] := by cases args; simp_all
  obtain ⟨rfl, rfl⟩ := trodVars_none hV
  obtain ⟨a0, rfl, rfl, rfl, w0⟩ := open_string Tryd.underlying9 (hval 0 9 v0 rfl rfl) h0
  obtain ⟨a1, rfl, rfl, rfl, w1⟩ := open_int Tryd.underlying3 (hval 1 3 v1 rfl rfl) h1
  clear hA0 hval0
  refine (mailDecodeW.walk a0 a1 W hAsk w0 w1).mono fun e W' ⟨he, bel⟩ => ?_
  subst he
  exact ⟨_, rfl, _, _, _, [], _, [], hW', trodAll_mk1 (shut_bool Tryd.underlying4 _), (trodAll_cons_mk (shut_string Tryd.underlying9 w0) (trodAll_cons_mk (shut_int Tryd.underlying3 w1) trodAll_mk0)), rfl, bel.frame _, fun h => by cases h⟩
theorem said : Rows.MailDecodeSaid :=
  OpenClaim.holds_of_cond 6 Tryd.f6 rfl rfl rfl rfl rfl rfl rfl ⟨rfl, rfl, rfl, rfl, rfl⟩ rfl rfl rfl rfl rfl (by kernel_rfl) Tryd.func6 (by kernel_rfl)
    (of_decide_eq_true (by kernel_rfl)) (by unfold Func.isWrapper; first | (rw [if_pos (by decide +kernel)]; kernel_rfl) | (rw [if_neg (by decide +kernel)]; exact ⟨rfl, rfl⟩))
    (fun os started H enc _ F => by rw [OpenClaim.pre_eq_preRow]; exact lifted os started H enc F)
theorem plain (f : FuncId) (fn : Func) (hf : Tryd.pinned.checked.prog.funcNamed "archipelago/archipelagolaw11.MailDecode" = some f) (hfn : Tryd.pinned.checked.prog.funcs[f]? = some fn) :
    false = Tryd.pinned.checked.prog.looks [] ∧ ∀ (j : Nat) t, fn.params[j]? = some t → Tryd.pinned.checked.prog.wantsStandIn t = false := by
  obtain rfl : f = 6 := Option.some.inj ((show Tryd.prog.funcNamed "archipelago/archipelagolaw11.MailDecode" = some 6 by kernel_rfl).symm.trans hf) |>.symm
  obtain rfl : fn = Tryd.f6 := (Option.some.inj (Tryd.func6.symm.trans hfn)).symm
  refine ⟨by kernel_rfl, fun j t ht => ?_⟩
  rw [Tryd.params6] at ht
  have hm := Array.mem_of_getElem? ht
  have ht' : t = 9 ∨ t = 3 := by simpa using hm
  rcases ht' with rfl | rfl
  · exact (show Tryd.prog.wantsStandIn 9 = false by kernel_rfl)
  · exact (show Tryd.prog.wantsStandIn 3 = false by kernel_rfl)
theorem proved : Rows.MailDecodeCardSaid :=
  Claim7.holds_tied_plain_at .later [] _ _ _ _ said (fun _ h => by cases h) (by kernel_rfl) (fun _ h => by cases h) mailDecode_row_tie rfl ⟨rfl, rfl⟩ (by kernel_rfl) rfl plain (by kernel_rfl)
end Go.Proofs.YtkdnhfeamibmdaaDoor.mailDecode
