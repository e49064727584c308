/-
  Acts and messages that are handed in.
-/
import Derived.Test.YtlejlmlgcehjiaaNActs
import Derived.ProofKit
import Derived.OpenShut
import Derived.ChangeSame
import Derived.Deep.Slices
namespace Go.Proofs.Ytlejlmlgcehjiaa
open Go.ChangeShapes Go.WideShapes Go.ChangeAt Go.RowKit
theorem cellsAct : Try.prog.cellsOf 38 = 20 := by kernel_rfl
theorem cellsMail : Try.prog.cellsOf 36 = 18 := by kernel_rfl
theorem cellsEntry : Try.prog.cellsOf 40 = 6 := by kernel_rfl
theorem cellsOrder : Try.prog.cellsOf 32 = 5 := by kernel_rfl
theorem cellsAnswer : Try.prog.cellsOf 34 = 3 := by kernel_rfl
theorem cellsEnts : Try.prog.cellsOf 30 = 1 := by kernel_rfl
theorem cellsIntN : Try.prog.cellsOf 3 = 1 := by kernel_rfl
theorem cellsU8N : Try.prog.cellsOf 5 = 1 := by kernel_rfl
section
variable {H : Type} {enc : TypeId × Value → H} {w : World} {sp : Nat → Bool} {fuel : Nat} {cs : List Value} {y : DataW H × List MemPlace}
set_option maxRecDepth 100000 in
theorem open_order (h : DataW.trod enc Try.prog w 0 sp true fuel 32 cs = some y) : ∃ a b c d e : Int, cs = [.int .i64 a, .int .i64 b, .int .i64 c, .int .i64 d, .int .i64 e] := by
  obtain ⟨xs, n, _, _, hl, hlen, hf⟩ := DataW.trod_struct Try.underlying32 h
  rw [cellsOrder] at hl
  match cs, hl with
  | [c0, c1, c2, c3, c4], _ =>
    match xs, hlen with
    | [y0, y1, y2, y3, y4], _ =>
      have g0 := hf 0 _ rfl
      have g1 := hf 1 _ rfl
      have g2 := hf 2 _ rfl
      have g3 := hf 3 _ rfl
      have g4 := hf 4 _ rfl
      simp only [List.getElem?_cons_zero, List.getElem?_cons_succ] at g0 g1 g2 g3 g4
      obtain ⟨a0, e0, _, _⟩ := DataW.trod_int Try.underlying3 g0
      obtain ⟨a1, e1, _, _⟩ := DataW.trod_int Try.underlying3 g1
      obtain ⟨a2, e2, _, _⟩ := DataW.trod_int Try.underlying3 g2
      obtain ⟨a3, e3, _, _⟩ := DataW.trod_int Try.underlying3 g3
      obtain ⟨a4, e4, _, _⟩ := DataW.trod_int Try.underlying3 g4
      injection e0 with e0; injection e1 with e1; injection e2 with e2; injection e3 with e3; injection e4 with e4
      subst e0 e1 e2 e3 e4
      exact ⟨a0, a1, a2, a3, a4, rfl⟩
set_option maxRecDepth 100000 in
theorem open_answer (h : DataW.trod enc Try.prog w 0 sp true fuel 34 cs = some y) : ∃ a b c : Int, cs = [.int .i64 a, .int .i64 b, .int .i64 c] := by
  obtain ⟨xs, n, _, _, hl, hlen, hf⟩ := DataW.trod_struct Try.underlying34 h
  rw [cellsAnswer] at hl
  match cs, hl with
  | [c0, c1, c2], _ =>
    match xs, hlen with
    | [y0, y1, y2], _ =>
      have g0 := hf 0 _ rfl
      have g1 := hf 1 _ rfl
      have g2 := hf 2 _ rfl
      simp only [List.getElem?_cons_zero, List.getElem?_cons_succ] at g0 g1 g2
      obtain ⟨a0, e0, _, _⟩ := DataW.trod_int Try.underlying3 g0
      obtain ⟨a1, e1, _, _⟩ := DataW.trod_int Try.underlying3 g1
      obtain ⟨a2, e2, _, _⟩ := DataW.trod_int Try.underlying3 g2
      injection e0 with e0; injection e1 with e1; injection e2 with e2
      subst e0 e1 e2
      exact ⟨a0, a1, a2, rfl⟩
set_option maxRecDepth 100000 in
theorem open_entry (h : DataW.trod enc Try.prog w 0 sp true fuel 40 cs = some y) : ∃ e : Net.Ent, cs = ecells e := by
  obtain ⟨xs, n, _, _, hl, hlen, hf⟩ := DataW.trod_struct Try.underlying40 h
  rw [cellsEntry] at hl
  match cs, hl with
  | [c0, c1, c2, c3, c4, c5], _ =>
    match xs, hlen with
    | [y0, y1], _ =>
      have g0 := hf 0 _ rfl
      have g1 := hf 1 _ rfl
      simp only [List.getElem?_cons_zero, List.getElem?_cons_succ, List.getElem_toArray, List.getElem_cons_succ, List.getElem_cons_zero] at g0 g1
      obtain ⟨a0, e0, _, _⟩ := DataW.trod_int Try.underlying3 g0
      obtain ⟨a1, a2, a3, a4, a5, e1⟩ := open_order g1
      simp only [cellsOrder, List.drop_succ_cons, List.drop_zero, List.take_succ_cons, List.take_zero] at e1
      injection e0 with e0
      injection e1 with e1 f1; injection f1 with e2 f2; injection f2 with e3 f3; injection f3 with e4 f4; injection f4 with e5 f5
      subst e0 e1 e2 e3 e4 e5
      exact ⟨⟨a0, a1, a2, a3, a4, a5⟩, rfl⟩
instance entInh : Inhabited Net.Ent := ⟨⟨0, 0, 0, 0, 0, 0⟩⟩
theorem open_ents (h : DataW.trod enc Try.prog w 0 sp true fuel 30 cs = some y) : ∃ A c es, cs = [.slice A es.length c] ∧ Ents w (.slice A es.length c) es := by
  rcases Go.Deep.open_slice Try.underlying30 h with ⟨rfl, _⟩ | ⟨a, len, cap, m, n, D, Pl, rfl, _, hl, hm, hmm, _, hx⟩
  · exact ⟨none, 0, [], rfl, (EOwn.nil w 0).ents⟩
  · have each : ∀ i, i < len → ∃ e : Net.Ent, ∀ j, j < 6 → w.cell? (a.add (i * 6 + j)) = (ecells e)[j]? := by
      intro i hi
      have hlm : len ≤ m := by rw [hmm]; split <;> omega
      obtain ⟨cs', h1, h2⟩ := hx i (by omega)
      rw [cellsEntry] at h1
      obtain ⟨_, hlen, hcell⟩ := World.cells?_some h1
      obtain ⟨e, rfl⟩ := open_entry h2
      refine ⟨e, fun j hj => ?_⟩
      have e := hcell j hj
      rw [Go.Deep.add_add] at e
      exact e
    obtain ⟨X, hX⟩ := Go.Deep.choose_lt each
    have hln : ((List.range len).map X).length = len := by simp
    refine ⟨some a, cap, (List.range len).map X, by rw [hln], some a, cap, rfl, by omega, hm, (fun e => by cases e), fun h0 => ?_⟩
    rw [hln] at h0
    obtain ⟨b, o, spot⟩ := a
    have hc0 := hX 0 h0 0 (by omega)
    have hspot : spot = none := by
      have := World.cell?_spot (hc0.trans (rfl : (ecells (X 0))[0]? = some (.int .i64 (X 0).ep)))
      simpa [Addr.add] using this
    subst hspot
    refine ⟨b, o, rfl, block_lt_of_cell ((by rw [Addr.add_lit] at hc0; exact hc0.trans (rfl : (ecells (X 0))[0]? = some (.int .i64 (X 0).ep))) : w.cell? ⟨b, o + (0 * 6 + 0), none⟩ = some _), fun j u hu => ?_⟩
    have hj := (List.getElem?_eq_some_iff.1 hu).1
    rw [ecs_len, hln] at hj
    have h1 : j / 6 < len := by omega
    have h2 := ecs_at ((List.range len).map X) (i := j / 6) (by rw [hln]; exact h1) (j := j % 6) (by omega)
    have h3 := hX (j / 6) h1 (j % 6) (by omega)
    rw [Addr.add_lit, show j / 6 * 6 + j % 6 = j by omega] at h3
    rw [show j / 6 * 6 + j % 6 = j by omega, hu] at h2
    rw [h3, h2]
    simp
set_option maxRecDepth 100000 in
set_option maxHeartbeats 1000000 in
theorem open_mail (h : DataW.trod enc Try.prog w 0 sp true fuel 36 cs = some y) : ∃ hd A c es, cs = mcells hd (.slice A es.length c) ∧ Ents w (.slice A es.length c) es := by
  obtain ⟨xs, n, _, _, hl, hlen, hf⟩ := DataW.trod_struct Try.underlying36 h
  rw [cellsMail] at hl
  match cs, hl with
  | [c0, c1, c2, c3, c4, c5, c6, c7, c8, c9, c10, c11, c12, c13, c14, c15, c16, c17], _ =>
    match xs, hlen with
    | [y0, y1, y2, y3, y4, y5, y6, y7, y8, y9, y10, y11], _ =>
      have g0 := hf 0 _ rfl
      have g1 := hf 1 _ rfl
      have g2 := hf 2 _ rfl
      have g3 := hf 3 _ rfl
      have g4 := hf 4 _ rfl
      have g5 := hf 5 _ rfl
      have g6 := hf 6 _ rfl
      have g7 := hf 7 _ rfl
      have g8 := hf 8 _ rfl
      have g9 := hf 9 _ rfl
      have g10 := hf 10 _ rfl
      have g11 := hf 11 _ rfl
      simp only [List.getElem?_cons_zero, List.getElem?_cons_succ, List.getElem_toArray, List.getElem_cons_succ, List.getElem_cons_zero] at g0 g1 g2 g3 g4 g5 g6 g7 g8 g9 g10 g11
      obtain ⟨a0, e0, _, _⟩ := DataW.trod_int Try.underlying3 g0
      obtain ⟨a1, e1, _, _⟩ := DataW.trod_int Try.underlying3 g1
      obtain ⟨a2, e2, _, _⟩ := DataW.trod_int Try.underlying3 g2
      obtain ⟨a3, e3, _, _⟩ := DataW.trod_int Try.underlying3 g3
      obtain ⟨a4, e4, _, _⟩ := DataW.trod_int Try.underlying3 g4
      obtain ⟨a5, e5, _, _⟩ := DataW.trod_int Try.underlying3 g5
      obtain ⟨a6, e6, _, _⟩ := DataW.trod_int Try.underlying3 g6
      obtain ⟨a7, e7, _, _⟩ := DataW.trod_int Try.underlying3 g7
      obtain ⟨a8, e8, _, _⟩ := DataW.trod_int Try.underlying3 g8
      obtain ⟨A, c, es, e9, hE⟩ := open_ents g9
      obtain ⟨b0, b1, b2, b3, b4, e10⟩ := open_order g10
      obtain ⟨d0, d1, d2, e11⟩ := open_answer g11
      simp only [cellsOrder, cellsAnswer, cellsEnts, List.drop_succ_cons, List.drop_zero, List.take_succ_cons, List.take_zero] at e9 e10 e11
      injection e0 with e0; injection e1 with e1; injection e2 with e2; injection e3 with e3; injection e4 with e4; injection e5 with e5; injection e6 with e6; injection e7 with e7; injection e8 with e8; injection e9 with e9
      injection e10 with f0 e10; injection e10 with f1 e10; injection e10 with f2 e10; injection e10 with f3 e10; injection e10 with f4 e10
      injection e11 with k0 e11; injection e11 with k1 e11; injection e11 with k2 e11
      subst e0 e1 e2 e3 e4 e5 e6 e7 e8 e9 f0 f1 f2 f3 f4 k0 k1 k2
      exact ⟨⟨a0, a1, a2, a3, a4, a5, a6, a7, a8, b0, b1, b2, b3, b4, d0, d1, d2⟩, A, c, es, rfl, hE⟩
set_option maxRecDepth 100000 in
theorem open_nact (h : DataW.trod enc Try.prog w 0 sp true fuel 38 cs = some y) : ∃ x : AV, cs = acells x ∧ Ents w x.v x.es ∧ 0 ≤ x.k := by
  obtain ⟨xs, n, _, _, hl, hlen, hf⟩ := DataW.trod_struct Try.underlying38 h
  rw [cellsAct] at hl
  match xs, hlen with
  | [y0, y1, y2], _ =>
    have g0 := hf 0 _ rfl
    have g1 := hf 1 _ rfl
    have g2 := hf 2 _ rfl
    simp only [List.getElem?_cons_zero, List.getElem?_cons_succ, List.getElem_toArray, List.getElem_cons_succ, List.getElem_cons_zero] at g0 g1 g2
    obtain ⟨k, e0, _, w0⟩ := DataW.trod_int Try.underlying5 g0
    obtain ⟨hd, A, c, es, e1, hE⟩ := open_mail g1
    obtain ⟨i, e2, _, _⟩ := DataW.trod_int Try.underlying3 g2
    rw [cellsU8N] at e0
    rw [cellsMail] at e1
    rw [cellsIntN] at e2
    refine ⟨⟨k, hd, A, c, es, i⟩, ?_, hE, ?_⟩
    · have h1 : cs = cs.take 1 ++ ((cs.drop 1).take 18 ++ (cs.drop 19)) := by
        have h2 : (cs.drop 1).take 18 ++ cs.drop 19 = cs.drop 1 := by
          have := List.take_append_drop 18 (cs.drop 1)
          rw [List.drop_drop] at this
          exact this
        rw [h2, List.take_append_drop]
      have h3 : cs.drop 19 = (cs.drop 19).take 1 := by rw [List.take_of_length_le (by rw [List.length_drop, hl]; decide)]
      rw [h1]
      have e0' : cs.take 1 = [Value.int .u8 k] := e0
      have e1' : (cs.drop 1).take 18 = mcells hd (.slice A es.length c) := e1
      have e2' : (cs.drop 19).take 1 = [Value.int .i64 i] := e2
      rw [h3, e0', e1', e2']
      rfl
    · have := w0
      simp [Lit.wf, IntKind.min, IntKind.max, IntKind.signed, IntKind.bits] at this
      exact this.1
instance avInh : Inhabited AV := ⟨⟨0, Net.hd0, none, 0, [], 0⟩⟩
theorem open_nacts (h : DataW.trod enc Try.prog w 0 sp true fuel 22 cs = some y) : ∃ A n c l, cs = [.slice A n c] ∧ l.length = n ∧ ARead w (.slice A n c) l ∧ ∀ x ∈ l, 0 ≤ x.k := by
  rcases Go.Deep.open_slice Try.underlying22 h with ⟨rfl, _⟩ | ⟨a, len, cap, m, n, D, Pl, rfl, _, hl, hm, hmm, _, hx⟩
  · exact ⟨none, 0, 0, [], rfl, rfl, ⟨none, 0, rfl, Nat.le_refl _, Nat.zero_le _, (fun h => by simp at h), fun x hx => (List.not_mem_nil hx).elim⟩, fun x hx => (List.not_mem_nil hx).elim⟩
  · have hlm : len ≤ m := by rw [hmm]; split <;> omega
    have each : ∀ i, i < len → ∃ x : AV, (∀ j, j < 20 → w.cell? (a.add (i * 20 + j)) = (acells x)[j]?) ∧ Ents w x.v x.es ∧ 0 ≤ x.k := by
      intro i hi
      obtain ⟨cs', h1, h2⟩ := hx i (by omega)
      rw [cellsAct] at h1
      obtain ⟨_, hlen, hcell⟩ := World.cells?_some h1
      obtain ⟨x, rfl, hat⟩ := open_nact h2
      refine ⟨x, fun j hj => ?_, hat⟩
      have e := hcell j hj
      rw [Go.Deep.add_add] at e
      exact e
    obtain ⟨X, hX⟩ := Go.Deep.choose_lt each
    have hln : ((List.range len).map X).length = len := by simp
    refine ⟨some a, len, cap, (List.range len).map X, rfl, hln, ⟨some a, cap, by rw [hln], by omega, hm, fun h0 => ?_, fun x hx => ?_⟩, fun x hx => ?_⟩
    · rw [hln] at h0
      obtain ⟨b, o, spot⟩ := a
      have hc0 := (hX 0 h0).1 0 (by omega)
      have hspot : spot = none := by
        have := World.cell?_spot (hc0.trans (rfl : (acells (X 0))[0]? = some (.int .u8 (X 0).k)))
        simpa [Addr.add] using this
      subst hspot
      refine ⟨b, o, rfl, block_lt_of_cell ((by rw [Addr.add_lit] at hc0; exact hc0.trans (rfl : (acells (X 0))[0]? = some (.int .u8 (X 0).k))) : w.cell? ⟨b, o + (0 * 20 + 0), none⟩ = some _), fun i hi j hj => ?_⟩
      have hi' : i < len := by rw [hln] at hi; exact hi
      have hxj : ((List.range len).map X)[i] = X i := by simp
      rw [hxj]
      have g := (hX i hi').1 j hj
      rw [Addr.add_lit, ← Nat.add_assoc] at g
      exact g
    · obtain ⟨i, hi, rfl⟩ := List.mem_map.1 hx
      exact (hX i (List.mem_range.1 hi)).2.1
    · obtain ⟨i, hi, rfl⟩ := List.mem_map.1 hx
      exact (hX i (List.mem_range.1 hi)).2.2
instance mmInh : Inhabited MM := ⟨⟨Net.hd0, .slice none 0 0, []⟩⟩
theorem open_mails (h : DataW.trod enc Try.prog w 0 sp true fuel 27 cs = some y) : ∃ A n c l, cs = [.slice A n c] ∧ l.length = n ∧ MRead w (.slice A n c) l ∧ ∀ x ∈ l, ∃ A c, x.v = .slice A x.es.length c := by
  rcases Go.Deep.open_slice Try.underlying27 h with ⟨rfl, _⟩ | ⟨a, len, cap, m, n, D, Pl, rfl, _, hl, hm, hmm, _, hx⟩
  · exact ⟨none, 0, 0, [], rfl, rfl, ⟨none, 0, rfl, Nat.le_refl _, Nat.zero_le _, (fun h => by simp at h), fun x hx => (List.not_mem_nil hx).elim⟩, fun x hx => (List.not_mem_nil hx).elim⟩
  · have hlm : len ≤ m := by rw [hmm]; split <;> omega
    have each : ∀ i, i < len → ∃ x : MM, (∀ j, j < 18 → w.cell? (a.add (i * 18 + j)) = (mcells x.h x.v)[j]?) ∧ Ents w x.v x.es ∧ ∃ A c, x.v = .slice A x.es.length c := by
      intro i hi
      obtain ⟨cs', h1, h2⟩ := hx i (by omega)
      rw [cellsMail] at h1
      obtain ⟨_, hlen, hcell⟩ := World.cells?_some h1
      obtain ⟨hd, A, c, es, rfl, hE⟩ := open_mail h2
      refine ⟨⟨hd, .slice A es.length c, es⟩, fun j hj => ?_, hE, A, c, rfl⟩
      have e := hcell j hj
      rw [Go.Deep.add_add] at e
      exact e
    obtain ⟨X, hX⟩ := Go.Deep.choose_lt each
    have hln : ((List.range len).map X).length = len := by simp
    refine ⟨some a, len, cap, (List.range len).map X, rfl, hln, ⟨some a, cap, by rw [hln], by omega, hm, fun h0 => ?_, fun x hx => ?_⟩, fun x hx => ?_⟩
    · rw [hln] at h0
      obtain ⟨b, o, spot⟩ := a
      have hc0 := (hX 0 h0).1 0 (by omega)
      have hspot : spot = none := by
        have := World.cell?_spot (hc0.trans (rfl : (mcells (X 0).h (X 0).v)[0]? = some (.int .i64 (X 0).h.ki)))
        simpa [Addr.add] using this
      subst hspot
      refine ⟨b, o, rfl, block_lt_of_cell ((by rw [Addr.add_lit] at hc0; exact hc0.trans (rfl : (mcells (X 0).h (X 0).v)[0]? = some (.int .i64 (X 0).h.ki))) : w.cell? ⟨b, o + (0 * 18 + 0), none⟩ = some _), fun i hi j hj => ?_⟩
      have hi' : i < len := by rw [hln] at hi; exact hi
      have hxj : ((List.range len).map X)[i] = X i := by simp
      rw [hxj]
      have g := (hX i hi').1 j hj
      rw [Addr.add_lit, ← Nat.add_assoc] at g
      exact g
    · obtain ⟨i, hi, rfl⟩ := List.mem_map.1 hx
      exact (hX i (List.mem_range.1 hi)).2.1
    · obtain ⟨i, hi, rfl⟩ := List.mem_map.1 hx
      exact (hX i (List.mem_range.1 hi)).2.2
end
end Go.Proofs.Ytlejlmlgcehjiaa
