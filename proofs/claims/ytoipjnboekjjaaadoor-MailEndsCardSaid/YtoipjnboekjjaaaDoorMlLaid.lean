/-
  What a row that lists the nine variables gives; messages and answers that are handed in.
-/
import Derived.Test.YtoipjnboekjjaaaDoorRcLaid
import Derived.Test.YtoipjnboekjjaaaDoorMlMem
import Derived.Test.YtoipjnboekjjaaaDoorOLaid1
import Derived.Lib.LaidTab
import Derived.OpenShut
namespace Go.Proofs.YtoipjnboekjjaaaDoor
open Go.RowKit Go.ChangeShapes Go.WideShapes Go.ChangeAt
set_option maxRecDepth 100000 in
theorem kinds_of {W : World} (h : laidMet Tryd.prog [("archipelago/mail.kinds", Rows.laid_archipelago_mail_kinds)] W) : Kinds W := by
  obtain ⟨ps, ⟨g', t', cs, fuel, p, q, hg', ht', hvar, hd, _, _⟩, _⟩ := h
  obtain rfl := Option.some.inj ((show Tryd.prog.globalNamed "archipelago/mail.kinds" = some 7 by kernel_rfl).symm.trans hg')
  obtain rfl := Option.some.inj ((show (Tryd.prog.globals[7]?).map (·.type) = some 131 by kernel_rfl).symm.trans ht')
  have hcs : cs.toList = [0, 35, 119, 3, 123, 51, 19, 128, 257, 3, 3].map fun z => Value.int .u64 z := Lib.cells_of_tab (n := 11) Tryd.underlying131 Tryd.underlying96 (by kernel_rfl) (by kernel_rfl) hd
  have at_ : ∀ i : Nat, i < 11 → W.cell? ⟨7, i, none⟩ = cs.toList[i]? := fun i hi => by
    have := World.var?_cell (show Tryd.prog.globalNamed "archipelago/mail.kinds" = some 7 by kernel_rfl) hvar i
    rw [this]; simp
  have h0 := at_ 0 (by omega)
  rw [hcs] at h0
  refine ⟨World.block_lt_of_cell? W _ h0, fun i hi => ?_⟩
  rw [at_ i hi, hcs, List.getElem?_map]
set_option maxRecDepth 100000 in
theorem mask_cells {H : Type} {enc : TypeId × Value → H} {w : World} {base : Nat} {sp : Nat → Bool} {held : Bool} {fuel : Nat} {cs : List Value} {f a b : Int} {p : List MemPlace}
    (h : DataW.trod enc Tryd.prog w base sp held fuel 133 cs = some (.agg [.lit (.int .u64 f), .lit (.int .i64 a), .lit (.int .i64 b)], p)) : cs = [.int .u64 f, .int .i64 a, .int .i64 b] := by
  obtain ⟨xs, n, _, hx, hl, hlen, hf⟩ := DataW.trod_struct Tryd.underlying133 h
  rw [show Tryd.prog.cellsOf 133 = 3 by kernel_rfl] at hl
  match cs, hl with
  | [c0, c1, c2], _ =>
    match xs, hlen with
    | [y0, y1, y2], _ =>
      simp only [Prod.mk.injEq, DataW.agg.injEq, List.map_cons, List.map_nil, List.cons.injEq, and_true] at hx
      obtain ⟨⟨e0, e1, e2⟩, _⟩ := hx
      have g0 := hf 0 _ rfl
      have g1 := hf 1 _ rfl
      have g2 := hf 2 _ rfl
      simp only [List.getElem?_cons_zero, List.getElem?_cons_succ, List.getElem_toArray, List.getElem_cons_succ, List.getElem_cons_zero] at g0 g1 g2
      rw [show y0 = (y0.1, y0.2) from rfl, ← e0] at g0
      rw [show y1 = (y1.1, y1.2) from rfl, ← e1] at g1
      rw [show y2 = (y2.1, y2.2) from rfl, ← e2] at g2
      obtain ⟨z0, q0, r0, _⟩ := DataW.trod_int Tryd.underlying96 g0
      obtain ⟨z1, q1, r1, _⟩ := DataW.trod_int Tryd.underlying3 g1
      obtain ⟨z2, q2, r2, _⟩ := DataW.trod_int Tryd.underlying3 g2
      simp [show Tryd.prog.cellsOf 3 = 1 by kernel_rfl, show Tryd.prog.cellsOf 96 = 1 by kernel_rfl] at q0 q1 q2 r0 r1 r2
      rw [q0, q1, q2, r0.1, r1.1, r2.1]
set_option maxRecDepth 100000 in
theorem masks_of {W : World} (h : laidMet Tryd.prog [("archipelago/mail.asked", Rows.laid_archipelago_mail_asked)] W) : Masks W := by
  obtain ⟨ps, ⟨g', t', cs, fuel, p, q, hg', ht', hvar, hd, _, _⟩, _⟩ := h
  obtain rfl := Option.some.inj ((show Tryd.prog.globalNamed "archipelago/mail.asked" = some 8 by kernel_rfl).symm.trans hg')
  obtain rfl := Option.some.inj ((show (Tryd.prog.globals[8]?).map (·.type) = some 134 by kernel_rfl).symm.trans ht')
  obtain ⟨xs, m, rfl, hx, hl, hlen, hf⟩ := DataW.trod_array Tryd.underlying134 hd
  rw [show Tryd.prog.cellsOf 134 = 18 by kernel_rfl] at hl
  rw [show Tryd.prog.cellsOf 133 = 3 by kernel_rfl] at hf
  have at_ : ∀ i : Nat, i < 18 → W.cell? ⟨8, i, none⟩ = cs.toList[i]? := fun i hi => by
    have := World.var?_cell (show Tryd.prog.globalNamed "archipelago/mail.asked" = some 8 by kernel_rfl) hvar i
    rw [this]; simp
  match xs, hlen with
  | [x0, x1, x2, x3, x4, x5], _ =>
    simp only [Rows.laid_archipelago_mail_asked, Prod.mk.injEq, DataW.agg.injEq, List.map_cons, List.map_nil, List.cons.injEq, and_true] at hx
    obtain ⟨⟨e0, e1, e2, e3, e4, e5⟩, _⟩ := hx
    have k0 := hf 0 (by omega)
    have k1 := hf 1 (by omega)
    have k2 := hf 2 (by omega)
    have k3 := hf 3 (by omega)
    have k4 := hf 4 (by omega)
    have k5 := hf 5 (by omega)
    simp only [List.getElem?_cons_zero, List.getElem?_cons_succ] at k0 k1 k2 k3 k4 k5
    have j0 := mask_cells (k0.trans (by rw [show x0 = (x0.1, x0.2) from rfl, ← e0]))
    have j1 := mask_cells (k1.trans (by rw [show x1 = (x1.1, x1.2) from rfl, ← e1]))
    have j2 := mask_cells (k2.trans (by rw [show x2 = (x2.1, x2.2) from rfl, ← e2]))
    have j3 := mask_cells (k3.trans (by rw [show x3 = (x3.1, x3.2) from rfl, ← e3]))
    have j4 := mask_cells (k4.trans (by rw [show x4 = (x4.1, x4.2) from rfl, ← e4]))
    have j5 := mask_cells (k5.trans (by rw [show x5 = (x5.1, x5.2) from rfl, ← e5]))
    generalize cs.toList = l at *
    match l, hl with
    | [c0, c1, c2, c3, c4, c5, c6, c7, c8, c9, c10, c11, c12, c13, c14, c15, c16, c17], _ =>
      simp at j0 j1 j2 j3 j4 j5
      obtain ⟨rfl, rfl, rfl⟩ := j0
      obtain ⟨rfl, rfl, rfl⟩ := j1
      obtain ⟨rfl, rfl, rfl⟩ := j2
      obtain ⟨rfl, rfl, rfl⟩ := j3
      obtain ⟨rfl, rfl, rfl⟩ := j4
      obtain ⟨rfl, rfl, rfl⟩ := j5
      exact ⟨World.block_lt_of_cell? W _ (at_ 0 (by omega)), fun i hi => at_ i hi⟩
/-- The nine variables, as a row lists them. -/
def nineLaid : List (String × DataW Unit) := sevenLaid ++ [("archipelago/mail.kinds", Rows.laid_archipelago_mail_kinds), ("archipelago/mail.asked", Rows.laid_archipelago_mail_asked)]
theorem askM_of {W : World} (h : laidMetH Tryd.prog nineLaid W) : AskM W := by
  have h0 : laidMet Tryd.prog nineLaid W := h
  unfold nineLaid sevenLaid at h0
  have hA := asked_of (W := W) (laid_head h0)
  have h1 := laid_tail h0
  have h2 := laid_tail h1
  have h3 := laid_tail h2
  have h4 := laid_tail h3
  have h5 := laid_tail h4
  have h6 := laid_tail h5
  have h7 := laid_tail h6
  have h8 := laid_tail h7
  obtain ⟨s1, l1⟩ := rspan_of (g := 1) (by kernel_rfl) (by kernel_rfl) (laid_head h1)
  obtain ⟨s2, l2⟩ := rspan_of (g := 2) (by kernel_rfl) (by kernel_rfl) (laid_head h2)
  obtain ⟨s3, l3⟩ := rspan_of (g := 4) (by kernel_rfl) (by kernel_rfl) (laid_head h3)
  obtain ⟨s4, l4⟩ := rspan_of (g := 3) (by kernel_rfl) (by kernel_rfl) (laid_head h4)
  obtain ⟨s5, l5⟩ := rspan_of (g := 6) (by kernel_rfl) (by kernel_rfl) (laid_head h5)
  obtain ⟨s6, l6⟩ := rspan_of (g := 5) (by kernel_rfl) (by kernel_rfl) (laid_head h6)
  exact ⟨⟨hA, s1, s2, s3, s4, s5, s6, l1, l2, l3, l4, l5, l6⟩, kinds_of (laid_head h7), masks_of h8⟩
theorem cMail : Tryd.prog.cellsOf 45 = 18 := by kernel_rfl
theorem cAnswer : Tryd.prog.cellsOf 43 = 3 := by kernel_rfl
section
variable {H : Type} {enc : TypeId × Value → H} {w : World} {sp : Nat → Bool} {fuel : Nat} {cs : List Value} {y : DataW H × List MemPlace}
set_option maxRecDepth 100000 in
theorem open_ans (h : DataW.trod enc Tryd.prog w 0 sp true fuel 43 cs = some y) : ∃ a b c : Int, cs = [.int .i64 a, .int .i64 b, .int .i64 c] ∧ IntsOk [a, b, c] := by
  obtain ⟨xs, n, _, _, hl, hlen, hf⟩ := DataW.trod_struct Tryd.underlying43 h
  rw [cAnswer] at hl
  match cs, hl with
  | [c0, c1, c2], _ =>
    match xs, hlen with
    | [y0, y1, y2], _ =>
      have g0 := hf 0 _ rfl
      have g1 := hf 1 _ rfl
      have g2 := hf 2 _ rfl
      simp only [List.getElem?_cons_zero, List.getElem?_cons_succ, List.getElem_toArray, List.getElem_cons_succ, List.getElem_cons_zero] at g0 g1 g2
      obtain ⟨z0, q0, _, w0⟩ := DataW.trod_int Tryd.underlying3 g0
      obtain ⟨z1, q1, _, w1⟩ := DataW.trod_int Tryd.underlying3 g1
      obtain ⟨z2, q2, _, w2⟩ := DataW.trod_int Tryd.underlying3 g2
      simp [cInt] at q0 q1 q2
      subst q0 q1 q2
      refine ⟨z0, z1, z2, rfl, fun m hm => ?_⟩
      simp only [List.mem_cons, List.not_mem_nil, or_false] at hm
      rcases hm with rfl | rfl | rfl
      · exact wf_int w0
      · exact wf_int w1
      · exact wf_int w2
set_option maxRecDepth 100000 in
set_option maxHeartbeats 2000000 in
theorem open_ml (h : DataW.trod enc Tryd.prog w 0 sp true fuel 45 cs = some y) : ∃ (m : Ml) (A : Option Addr) (c : Nat), cs = m.cells (.slice A m.es.length c) ∧ EsB w.heap.size w (.slice A m.es.length c) m.es ∧ m.ints := by
  obtain ⟨xs, n, _, _, hl, hlen, hf⟩ := DataW.trod_struct Tryd.underlying45 h
  rw [cMail] at hl
  match cs, hl with
  | [c0, c1, c2, c3, c4, c5, c6, c7, c8, c9, c10, c11, c12, c13, c14, c15, c16, c17], _ =>
    match xs, hlen with
    | [y0, y1, y2, y3, y4, y5, y6, y7, y8, y9, y10, y11], _ =>
      have g0 := hf 0 _ rfl
      have g1 := hf 1 _ rfl
      have g2 := hf 2 _ rfl
      have g3 := hf 3 _ rfl
      have g4 := hf 4 _ rfl
      have g5 := hf 5 _ rfl
      have g6 := hf 6 _ rfl
      have g7 := hf 7 _ rfl
      have g8 := hf 8 _ rfl
      have g9 := hf 9 _ rfl
      have g10 := hf 10 _ rfl
      have g11 := hf 11 _ rfl
      simp only [List.getElem?_cons_zero, List.getElem?_cons_succ, List.getElem_toArray, List.getElem_cons_succ, List.getElem_cons_zero] at g0 g1 g2 g3 g4 g5 g6 g7 g8 g9 g10 g11
      obtain ⟨a0, e0, _, w0⟩ := DataW.trod_int Tryd.underlying3 g0
      obtain ⟨a1, e1, _, w1⟩ := DataW.trod_int Tryd.underlying3 g1
      obtain ⟨a2, e2, _, w2⟩ := DataW.trod_int Tryd.underlying3 g2
      obtain ⟨a3, e3, _, w3⟩ := DataW.trod_int Tryd.underlying3 g3
      obtain ⟨a4, e4, _, w4⟩ := DataW.trod_int Tryd.underlying3 g4
      obtain ⟨a5, e5, _, w5⟩ := DataW.trod_int Tryd.underlying3 g5
      obtain ⟨a6, e6, _, w6⟩ := DataW.trod_int Tryd.underlying3 g6
      obtain ⟨a7, e7, _, w7⟩ := DataW.trod_int Tryd.underlying3 g7
      obtain ⟨a8, e8, _, w8⟩ := DataW.trod_int Tryd.underlying3 g8
      obtain ⟨A, c, es, e9, hE, wE⟩ := open_es g9
      obtain ⟨o, e10, wO⟩ := open_order g10
      obtain ⟨p, q, r, e11, wA⟩ := open_ans g11
      simp [cInt] at e0 e1 e2 e3 e4 e5 e6 e7 e8
      simp [cEnts] at e9
      simp [cOrder] at e10
      simp [cAnswer] at e11
      obtain ⟨rfl, rfl, rfl, rfl, rfl⟩ := e10
      obtain ⟨rfl, rfl, rfl⟩ := e11
      subst e0 e1 e2 e3 e4 e5 e6 e7 e8 e9
      refine ⟨⟨a0, a1, a2, a3, a4, a5, a6, a7, a8, es, o, p, q, r⟩, A, c, rfl, hE, ?_, wE, ?_⟩
      · intro n hn
        simp only [Ml.hd, List.mem_cons, List.not_mem_nil, or_false] at hn
        rcases hn with rfl | rfl | rfl | rfl | rfl | rfl | rfl | rfl | rfl
        · exact wf_int w0
        · exact wf_int w1
        · exact wf_int w2
        · exact wf_int w3
        · exact wf_int w4
        · exact wf_int w5
        · exact wf_int w6
        · exact wf_int w7
        · exact wf_int w8
      · intro n hn
        rcases List.mem_append.1 hn with hn | hn
        · exact wO n hn
        · exact wA n hn
end
end Go.Proofs.YtoipjnboekjjaaaDoor
