/-
  What a row that lists the seven variables gives; records, entries and spots that are handed in.
-/
import Derived.Test.YtkdnhfeamibmdaaDoorOLaid1
import Derived.Test.YtkdnhfeamibmdaaDoorRcMem
import Derived.ProofKit
import Derived.ChangeSame
import Derived.Deep.Slices
namespace Go.Proofs.YtkdnhfeamibmdaaDoor
open Go.RowKit Go.ChangeShapes Go.WideShapes Go.ChangeAt
theorem laid_head {P : Program} {n : String} {d : DataW Unit} {r : List (String × DataW Unit)} {w : World} (h : laidMet P ((n, d) :: r) w) : laidMet P [(n, d)] w := by
  obtain ⟨ps, ⟨g, t, cs, fuel, p, q, a, b, c, e, f, rfl⟩, nd, hc⟩ := h
  refine ⟨MemPlace.row ⟨g, 0, none⟩ cs.size ++ p ++ [], ⟨g, t, cs, fuel, p, [], a, b, c, e, rfl, rfl⟩, ?_, fun x off hm => hc x off ?_⟩
  · rw [List.append_nil]; exact nd.sublist (List.sublist_append_left _ _)
  · rw [List.append_nil] at hm; exact List.mem_append_left _ hm
theorem laid_tail {P : Program} {n : String} {d : DataW Unit} {r : List (String × DataW Unit)} {w : World} (h : laidMet P ((n, d) :: r) w) : laidMet P r w := by
  obtain ⟨ps, ⟨g, t, cs, fuel, p, q, a, b, c, e, f, rfl⟩, nd, hc⟩ := h
  exact ⟨q, f, nd.sublist (List.sublist_append_right _ _), fun x off hm => hc x off (List.mem_append_right _ hm)⟩
set_option maxRecDepth 100000 in
theorem rspan_of {W : World} {n : String} {g : Nat} {a b : Int} (hn : Tryd.prog.globalNamed n = some g) (hT : (Tryd.prog.globals[g]?).map (·.type) = some 72)
    (h : laidMet Tryd.prog [(n, .agg [.lit (.int .i64 a), .lit (.int .i64 b)])] W) : (W.cell? ⟨g, 0, none⟩ = some (.int .i64 a) ∧ W.cell? ⟨g, 1, none⟩ = some (.int .i64 b)) ∧ g < W.heap.size := by
  obtain ⟨ps, ⟨g', t', cs, fuel, p, q, hg', ht', hvar, hd, _, _⟩, _⟩ := h
  obtain rfl := Option.some.inj (hn.symm.trans hg')
  obtain rfl := Option.some.inj (hT.symm.trans ht')
  obtain ⟨y0, y1, m, hx, hl, h0, h1⟩ := trod_struct2 Tryd.underlying72 hd
  rw [show Tryd.prog.cellsOf 72 = 2 by kernel_rfl] at hl
  have at_ : ∀ i : Nat, i < 2 → W.cell? ⟨g, i, none⟩ = cs.toList[i]? := fun i hi => by
    have := World.var?_cell hn hvar i
    rw [this]; simp
  generalize cs.toList = l at *
  match l, hl with
  | [c0, c1], _ =>
    obtain ⟨z0, e0, rfl, _⟩ := DataW.trod_int Tryd.underlying3 h0
    obtain ⟨z1, e1, rfl, _⟩ := DataW.trod_int Tryd.underlying3 h1
    rw [show Tryd.prog.cellsOf 3 = 1 by kernel_rfl] at e0 e1
    simp at e0 e1 hx
    obtain ⟨⟨rfl, rfl⟩, _⟩ := hx
    have k0 := at_ 0 (by omega)
    have k1 := at_ 1 (by omega)
    simp only [List.getElem?_cons_zero, List.getElem?_cons_succ, e0, e1] at k0 k1
    exact ⟨⟨k0, k1⟩, World.block_lt_of_cell? W _ k0⟩
/-- The seven variables, as a row lists them. -/
def sevenLaid : List (String × DataW Unit) := [("archipelago/orders.asked", Rows.laid_archipelago_orders_asked), ("archipelago/records.streams", Rows.laid_archipelago_records_streams), ("archipelago/records.epochs", Rows.laid_archipelago_records_epochs), ("archipelago/records.epochsOrNone", Rows.laid_archipelago_records_epochsOrNone), ("archipelago/records.logs", Rows.laid_archipelago_records_logs), ("archipelago/records.indices", Rows.laid_archipelago_records_indices), ("archipelago/records.feeds", Rows.laid_archipelago_records_feeds)]
theorem askR_of {W : World} (h : laidMetH Tryd.prog sevenLaid W) : AskR W := by
  have h0 : laidMet Tryd.prog sevenLaid W := h
  unfold sevenLaid at h0
  have hA := asked_of (W := W) (laid_head h0)
  have h1 := laid_tail h0
  have h2 := laid_tail h1
  have h3 := laid_tail h2
  have h4 := laid_tail h3
  have h5 := laid_tail h4
  have h6 := laid_tail h5
  obtain ⟨s1, l1⟩ := rspan_of (g := 0) (by kernel_rfl) (by kernel_rfl) (laid_head h1)
  obtain ⟨s2, l2⟩ := rspan_of (g := 1) (by kernel_rfl) (by kernel_rfl) (laid_head h2)
  obtain ⟨s3, l3⟩ := rspan_of (g := 3) (by kernel_rfl) (by kernel_rfl) (laid_head h3)
  obtain ⟨s4, l4⟩ := rspan_of (g := 2) (by kernel_rfl) (by kernel_rfl) (laid_head h4)
  obtain ⟨s5, l5⟩ := rspan_of (g := 5) (by kernel_rfl) (by kernel_rfl) (laid_head h5)
  obtain ⟨s6, l6⟩ := rspan_of (g := 4) (by kernel_rfl) (by kernel_rfl) (laid_head h6)
  exact ⟨hA, s1, s2, s3, s4, s5, s6, l1, l2, l3, l4, l5, l6⟩
theorem cOrder : Tryd.prog.cellsOf 28 = 5 := by kernel_rfl
theorem cEntry : Tryd.prog.cellsOf 30 = 6 := by kernel_rfl
theorem cSpot : Tryd.prog.cellsOf 32 = 2 := by kernel_rfl
theorem cRecord : Tryd.prog.cellsOf 25 = 8 := by kernel_rfl
theorem cInt : Tryd.prog.cellsOf 3 = 1 := by kernel_rfl
theorem cEnts : Tryd.prog.cellsOf 22 = 1 := by kernel_rfl
section
variable {H : Type} {enc : TypeId × Value → H} {w : World} {sp : Nat → Bool} {fuel : Nat} {cs : List Value} {y : DataW H × List MemPlace}
theorem wf_int {z : Int} (h : (Lit.int .i64 z).wf) : -9223372036854775808 ≤ z ∧ z ≤ 9223372036854775807 := by
  simp [Lit.wf, IntKind.min, IntKind.max, IntKind.signed, IntKind.bits] at h
  exact h
set_option maxRecDepth 100000 in
theorem open_en (h : DataW.trod enc Tryd.prog w 0 sp true fuel 30 cs = some y) : ∃ e : En, cs = e.l.map (Value.int .i64) ∧ IntsOk e.l := by
  obtain ⟨xs, n, _, _, hl, hlen, hf⟩ := DataW.trod_struct Tryd.underlying30 h
  rw [cEntry] at hl
  match cs, hl with
  | [c0, c1, c2, c3, c4, c5], _ =>
    match xs, hlen with
    | [y0, y1], _ =>
      have g0 := hf 0 _ rfl
      have g1 := hf 1 _ rfl
      simp only [List.getElem?_cons_zero, List.getElem?_cons_succ, List.getElem_toArray, List.getElem_cons_succ, List.getElem_cons_zero] at g0 g1
      obtain ⟨a0, e0, _, w0⟩ := DataW.trod_int Tryd.underlying3 g0
      obtain ⟨o, e1, w1⟩ := open_order g1
      simp only [cOrder, List.drop_succ_cons, List.drop_zero, List.take_succ_cons, List.take_zero] at e1
      injection e0 with e0
      injection e1 with e1 f1; injection f1 with e2 f2; injection f2 with e3 f3; injection f3 with e4 f4; injection f4 with e5 f5
      subst e0 e1 e2 e3 e4 e5
      refine ⟨⟨a0, o⟩, rfl, fun m hm => ?_⟩
      rcases List.mem_cons.1 hm with rfl | hm
      · exact wf_int w0
      · exact w1 m hm
set_option maxRecDepth 100000 in
theorem open_sp (h : DataW.trod enc Tryd.prog w 0 sp true fuel 32 cs = some y) : ∃ e : Sp, cs = e.l.map (Value.int .i64) ∧ IntsOk e.l := by
  obtain ⟨y0, y1, n, hx, hl, h0, h1⟩ := trod_struct2 Tryd.underlying32 h
  rw [cSpot] at hl
  match cs, hl with
  | [c0, c1], _ =>
    obtain ⟨z0, e0, _, w0⟩ := DataW.trod_int Tryd.underlying3 h0
    obtain ⟨z1, e1, _, w1⟩ := DataW.trod_int Tryd.underlying3 h1
    simp [cInt] at e0 e1
    subst e0 e1
    refine ⟨⟨z0, z1⟩, rfl, fun m hm => ?_⟩
    simp only [Sp.l, List.mem_cons, List.not_mem_nil, or_false] at hm
    rcases hm with rfl | rfl
    · exact wf_int w0
    · exact wf_int w1
set_option maxRecDepth 100000 in
theorem open_es (h : DataW.trod enc Tryd.prog w 0 sp true fuel 22 cs = some y) : ∃ A c es, cs = [.slice A es.length c] ∧ EsB w.heap.size w (.slice A es.length c) es ∧ ∀ e ∈ es, IntsOk (En.l e) := by
  rcases Go.Deep.open_slice Tryd.underlying22 h with ⟨rfl, _⟩ | ⟨a, len, cap, m, n, D, Pl, rfl, _, hl, hm, hmm, _, hx⟩
  · exact ⟨none, 0, [], rfl, ⟨none, 0, rfl, Nat.le_refl _, Nat.zero_le _, fun _ => ⟨rfl, rfl⟩, fun h => by simp at h⟩, fun e he => by cases he⟩
  · have each : ∀ i, i < len → ∃ e : En, (∀ j, j < 6 → w.cell? (a.add (i * 6 + j)) = (e.l.map (Value.int .i64))[j]?) ∧ IntsOk e.l := by
      intro i hi
      have hlm : len ≤ m := by rw [hmm]; split <;> omega
      obtain ⟨cs', h1, h2⟩ := hx i (by omega)
      rw [cEntry] at h1
      obtain ⟨_, hlen, hcell⟩ := World.cells?_some h1
      obtain ⟨e, rfl, he⟩ := open_en h2
      refine ⟨e, fun j hj => ?_, he⟩
      have e := hcell j hj
      rw [Go.Deep.add_add] at e
      exact e
    have : Inhabited En := ⟨⟨0, Od.none⟩⟩
    obtain ⟨X, hX⟩ := Go.Deep.choose_lt each
    have hln : ((List.range len).map X).length = len := by simp
    refine ⟨some a, cap, (List.range len).map X, by rw [hln], ⟨some a, cap, rfl, by omega, hm, (fun e => by cases e), fun h0 => ?_⟩, fun e he => ?_⟩
    · rw [hln] at h0
      obtain ⟨b, o, spot⟩ := a
      have hc0 := (hX 0 h0).1 0 (by omega)
      have hv0 : ∃ v, ((X 0).l.map (Value.int .i64))[0]? = some v := ⟨_, rfl⟩
      obtain ⟨v0, hv0⟩ := hv0
      have hspot : spot = none := by
        have := World.cell?_spot (hc0.trans hv0)
        simpa [Addr.add] using this
      subst hspot
      refine ⟨b, o, rfl, block_lt_of_cell ((by rw [Addr.add_lit] at hc0; exact hc0.trans hv0) : w.cell? ⟨b, o + (0 * 6 + 0), none⟩ = some _), fun j u hu => ?_⟩
      have hr : ∀ r ∈ ((List.range len).map X).map En.l, r.length = 6 := fun x hx => by obtain ⟨e, _, rfl⟩ := List.mem_map.1 hx; rfl
      have hj := (List.getElem?_eq_some_iff.1 hu).1
      rw [flatten_len hr, List.length_map, hln] at hj
      have h1 : j / 6 < len := by omega
      have h2 := flat_at hr (i := j / 6) (by rw [List.length_map, hln]; exact h1) (j := j % 6) (by omega)
      have h3 := (hX (j / 6) h1).1 (j % 6) (by omega)
      rw [Addr.add_lit, show j / 6 * 6 + j % 6 = j by omega] at h3
      rw [show j / 6 * 6 + j % 6 = j by omega, hu] at h2
      rw [h3, List.getElem?_map]
      have h4 : (((List.range len).map X).map En.l)[j / 6]'(by rw [List.length_map, hln]; exact h1) = (X (j / 6)).l := by simp
      rw [h4] at h2
      rw [← h2]; rfl
    · obtain ⟨i, hi, rfl⟩ := List.mem_map.1 he
      exact (hX i (List.mem_range.1 hi)).2
set_option maxRecDepth 100000 in
theorem open_fd (h : DataW.trod enc Tryd.prog w 0 sp true fuel 23 cs = some y) : ∃ A c es, cs = [.slice A es.length c] ∧ FdB w.heap.size w (.slice A es.length c) es ∧ ∀ e ∈ es, IntsOk (Sp.l e) := by
  rcases Go.Deep.open_slice Tryd.underlying23 h with ⟨rfl, _⟩ | ⟨a, len, cap, m, n, D, Pl, rfl, _, hl, hm, hmm, _, hx⟩
  · exact ⟨none, 0, [], rfl, ⟨none, 0, rfl, Nat.le_refl _, Nat.zero_le _, fun _ => ⟨rfl, rfl⟩, fun h => by simp at h⟩, fun e he => by cases he⟩
  · have each : ∀ i, i < len → ∃ e : Sp, (∀ j, j < 2 → w.cell? (a.add (i * 2 + j)) = (e.l.map (Value.int .i64))[j]?) ∧ IntsOk e.l := by
      intro i hi
      have hlm : len ≤ m := by rw [hmm]; split <;> omega
      obtain ⟨cs', h1, h2⟩ := hx i (by omega)
      rw [cSpot] at h1
      obtain ⟨_, hlen, hcell⟩ := World.cells?_some h1
      obtain ⟨e, rfl, he⟩ := open_sp h2
      refine ⟨e, fun j hj => ?_, he⟩
      have e := hcell j hj
      rw [Go.Deep.add_add] at e
      exact e
    have : Inhabited Sp := ⟨⟨0, 0⟩⟩
    obtain ⟨X, hX⟩ := Go.Deep.choose_lt each
    have hln : ((List.range len).map X).length = len := by simp
    refine ⟨some a, cap, (List.range len).map X, by rw [hln], ⟨some a, cap, rfl, by omega, hm, (fun e => by cases e), fun h0 => ?_⟩, fun e he => ?_⟩
    · rw [hln] at h0
      obtain ⟨b, o, spot⟩ := a
      have hc0 := (hX 0 h0).1 0 (by omega)
      have hv0 : ∃ v, ((X 0).l.map (Value.int .i64))[0]? = some v := ⟨_, rfl⟩
      obtain ⟨v0, hv0⟩ := hv0
      have hspot : spot = none := by
        have := World.cell?_spot (hc0.trans hv0)
        simpa [Addr.add] using this
      subst hspot
      refine ⟨b, o, rfl, block_lt_of_cell ((by rw [Addr.add_lit] at hc0; exact hc0.trans hv0) : w.cell? ⟨b, o + (0 * 2 + 0), none⟩ = some _), fun j u hu => ?_⟩
      have hr : ∀ r ∈ ((List.range len).map X).map Sp.l, r.length = 2 := fun x hx => by obtain ⟨e, _, rfl⟩ := List.mem_map.1 hx; rfl
      have hj := (List.getElem?_eq_some_iff.1 hu).1
      rw [flatten_len hr, List.length_map, hln] at hj
      have h1 : j / 2 < len := by omega
      have h2 := flat_at hr (i := j / 2) (by rw [List.length_map, hln]; exact h1) (j := j % 2) (by omega)
      have h3 := (hX (j / 2) h1).1 (j % 2) (by omega)
      rw [Addr.add_lit, show j / 2 * 2 + j % 2 = j by omega] at h3
      rw [show j / 2 * 2 + j % 2 = j by omega, hu] at h2
      rw [h3, List.getElem?_map]
      have h4 : (((List.range len).map X).map Sp.l)[j / 2]'(by rw [List.length_map, hln]; exact h1) = (X (j / 2)).l := by simp
      rw [h4] at h2
      rw [← h2]; rfl
    · obtain ⟨i, hi, rfl⟩ := List.mem_map.1 he
      exact (hX i (List.mem_range.1 hi)).2
set_option maxRecDepth 100000 in
set_option maxHeartbeats 1000000 in
theorem open_rec (h : DataW.trod enc Tryd.prog w 0 sp true fuel 25 cs = some y) : ∃ (r : Rec) (A A' : Option Addr) (c c' : Nat), cs = [.int .i64 r.ki, .int .i64 r.st, .int .i64 r.ep, .int .i64 r.vi, .int .i64 r.fr, .int .i64 r.le, .slice A r.es.length c, .slice A' r.fd.length c'] ∧
    EsB w.heap.size w (.slice A r.es.length c) r.es ∧ FdB w.heap.size w (.slice A' r.fd.length c') r.fd ∧ r.ints := by
  obtain ⟨xs, n, _, _, hl, hlen, hf⟩ := DataW.trod_struct Tryd.underlying25 h
  rw [cRecord] at hl
  match cs, hl with
  | [c0, c1, c2, c3, c4, c5, c6, c7], _ =>
    match xs, hlen with
    | [y0, y1, y2, y3, y4, y5, y6, y7], _ =>
      have g0 := hf 0 _ rfl
      have g1 := hf 1 _ rfl
      have g2 := hf 2 _ rfl
      have g3 := hf 3 _ rfl
      have g4 := hf 4 _ rfl
      have g5 := hf 5 _ rfl
      have g6 := hf 6 _ rfl
      have g7 := hf 7 _ rfl
      simp only [List.getElem?_cons_zero, List.getElem?_cons_succ, List.getElem_toArray, List.getElem_cons_succ, List.getElem_cons_zero] at g0 g1 g2 g3 g4 g5 g6 g7
      obtain ⟨a0, e0, _, w0⟩ := DataW.trod_int Tryd.underlying3 g0
      obtain ⟨a1, e1, _, w1⟩ := DataW.trod_int Tryd.underlying3 g1
      obtain ⟨a2, e2, _, w2⟩ := DataW.trod_int Tryd.underlying3 g2
      obtain ⟨a3, e3, _, w3⟩ := DataW.trod_int Tryd.underlying3 g3
      obtain ⟨a4, e4, _, w4⟩ := DataW.trod_int Tryd.underlying3 g4
      obtain ⟨a5, e5, _, w5⟩ := DataW.trod_int Tryd.underlying3 g5
      obtain ⟨A, c, es, e6, hE, wE⟩ := open_es g6
      obtain ⟨A', c', fd, e7, hF, wF⟩ := open_fd g7
      simp only [cEnts, List.drop_succ_cons, List.drop_zero, List.take_succ_cons, List.take_zero] at e6 e7
      injection e0 with e0; injection e1 with e1; injection e2 with e2; injection e3 with e3; injection e4 with e4; injection e5 with e5; injection e6 with e6
      have e7' : [c7] = [Value.slice A' fd.length c'] := e7
      injection e7' with e7'
      subst e0 e1 e2 e3 e4 e5 e6 e7'
      refine ⟨⟨a0, a1, a2, a3, a4, a5, es, fd⟩, A, A', c, c', rfl, hE, hF, ?_, wE, wF⟩
      intro n hn
      simp only [Rec.hd, List.mem_cons, List.not_mem_nil, or_false] at hn
      rcases hn with rfl | rfl | rfl | rfl | rfl | rfl
      · exact wf_int w0
      · exact wf_int w1
      · exact wf_int w2
      · exact wf_int w3
      · exact wf_int w4
      · exact wf_int w5
end
end Go.Proofs.YtkdnhfeamibmdaaDoor
