/-
  Logs, registers and pairs of small numbers that are handed in.
-/
import Derived.Test.YtffjijgmjbhhoaaLsBest
import Derived.Test.YtffjijgmjbhhoaaLsTwin
import Derived.ProofKit
namespace Go.Proofs.Ytffjijgmjbhhoaa
open Go.RowKit Go.ChangeShapes
theorem okWide_array {P : Program} {w : World} {r : Reach} {base n : Nat} {t e : TypeId} {v : Value} (ht : P.underlying t = some (.array n e)) (h : Value.okWide P w r base t v) : ∃ cs, v = .agg cs ∧ cs.size = P.cellsOf t := by
  simp only [Value.okWide, ht] at h
  obtain ⟨cs, h1, h2, _⟩ := h
  exact ⟨cs, h1, h2⟩
set_option maxRecDepth 100000 in
/-- An order that is handed in. -/
theorem open_order {H : Type} {enc : TypeId × Value → H} {w : World} {base : Nat} {sp : Nat → Bool} {held : Bool} {fuel : Nat} {cs : List Value} {d : DataW H} {p : List MemPlace}
    (h : DataW.trod enc Try.prog w base sp held fuel 39 cs = some (d, p)) : ∃ o : Od, cs = [.int .i64 o.id, .int .i64 o.st, .int .i64 o.ex, .int .i64 o.ki, .int .i64 o.ar] ∧ o.ints := by
  obtain ⟨xs, n, _, hx, hl, hlen, hf⟩ := DataW.trod_struct Try.underlying39 h
  rw [show Try.prog.cellsOf 39 = 5 by kernel_rfl] at hl
  match cs, hl with
  | [c0, c1, c2, c3, c4], _ =>
    have step : ∀ i : Nat, i < 5 → ∃ y, xs[i]? = some y := fun i hi => by
      rw [show (#[_, _, _, _, _] : Array Field).size = 5 from rfl] at hlen
      exact ⟨xs[i]'(by omega), by simp⟩
    obtain ⟨y0, g0⟩ := step 0 (by omega)
    obtain ⟨y1, g1⟩ := step 1 (by omega)
    obtain ⟨y2, g2⟩ := step 2 (by omega)
    obtain ⟨y3, g3⟩ := step 3 (by omega)
    obtain ⟨y4, g4⟩ := step 4 (by omega)
    obtain ⟨z0, e0, -, w0⟩ := DataW.trod_int Try.underlying3 ((hf 0 _ rfl).trans g0)
    obtain ⟨z1, e1, -, w1⟩ := DataW.trod_int Try.underlying3 ((hf 1 _ rfl).trans g1)
    obtain ⟨z2, e2, -, w2⟩ := DataW.trod_int Try.underlying3 ((hf 2 _ rfl).trans g2)
    obtain ⟨z3, e3, -, w3⟩ := DataW.trod_int Try.underlying3 ((hf 3 _ rfl).trans g3)
    obtain ⟨z4, e4, -, w4⟩ := DataW.trod_int Try.underlying3 ((hf 4 _ rfl).trans g4)
    have hc : Try.prog.cellsOf 3 = 1 := by kernel_rfl
    simp [hc] at e0 e1 e2 e3 e4
    subst e0 e1 e2 e3 e4
    refine ⟨⟨z0, z1, z2, z3, z4⟩, rfl, ?_⟩
    intro n hn
    simp [Od.l] at hn
    simp [Lit.wf, IntKind.min, IntKind.max, IntKind.signed, IntKind.bits] at w0 w1 w2 w3 w4
    rcases hn with rfl | rfl | rfl | rfl | rfl <;> assumption
theorem cOrder : Try.prog.cellsOf 39 = 5 := by kernel_rfl
theorem cEntry : Try.prog.cellsOf 41 = 6 := by kernel_rfl
theorem cInt : Try.prog.cellsOf 3 = 1 := by kernel_rfl
section
variable {H : Type} {enc : TypeId × Value → H} {w : World} {sp : Nat → Bool} {fuel : Nat} {cs : List Value} {y : DataW H × List MemPlace}
theorem wf_int {z : Int} (h : (Lit.int .i64 z).wf) : -9223372036854775808 ≤ z ∧ z ≤ 9223372036854775807 := by
  simp [Lit.wf, IntKind.min, IntKind.max, IntKind.signed, IntKind.bits] at h
  exact h
set_option maxRecDepth 100000 in
theorem open_en (h : DataW.trod enc Try.prog w 0 sp true fuel 41 cs = some y) : ∃ e : En, cs = e.l.map (Value.int .i64) ∧ IntsOk e.l := by
  obtain ⟨xs, n, _, _, hl, hlen, hf⟩ := DataW.trod_struct Try.underlying41 h
  rw [cEntry] at hl
  match cs, hl with
  | [c0, c1, c2, c3, c4, c5], _ =>
    match xs, hlen with
    | [y0, y1], _ =>
      have g0 := hf 0 _ rfl
      have g1 := hf 1 _ rfl
      simp only [List.getElem?_cons_zero, List.getElem?_cons_succ, List.getElem_toArray, List.getElem_cons_succ, List.getElem_cons_zero] at g0 g1
      obtain ⟨a0, e0, _, w0⟩ := DataW.trod_int Try.underlying3 g0
      obtain ⟨o, e1, w1⟩ := open_order g1
      simp only [cOrder, List.drop_succ_cons, List.drop_zero, List.take_succ_cons, List.take_zero] at e1
      injection e0 with e0
      injection e1 with e1 f1; injection f1 with e2 f2; injection f2 with e3 f3; injection f3 with e4 f4; injection f4 with e5 f5
      subst e0 e1 e2 e3 e4 e5
      refine ⟨⟨a0, o⟩, rfl, fun m hm => ?_⟩
      rcases List.mem_cons.1 hm with rfl | hm
      · exact wf_int w0
      · exact w1 m hm
set_option maxRecDepth 100000 in
theorem open_es (h : DataW.trod enc Try.prog w 0 sp true fuel 22 cs = some y) : ∃ A c es, cs = [.slice A es.length c] ∧ EsB w.heap.size w (.slice A es.length c) es ∧ ∀ e ∈ es, IntsOk (En.l e) := by
  rcases Go.Deep.open_slice Try.underlying22 h with ⟨rfl, _⟩ | ⟨a, len, cap, m, n, D, Pl, rfl, _, hl, hm, hmm, _, hx⟩
  · exact ⟨none, 0, [], rfl, ⟨none, 0, rfl, Nat.le_refl _, Nat.zero_le _, fun _ => ⟨rfl, rfl⟩, fun h => by simp at h⟩, fun e he => by cases he⟩
  · have each : ∀ i, i < len → ∃ e : En, (∀ j, j < 6 → w.cell? (a.add (i * 6 + j)) = (e.l.map (Value.int .i64))[j]?) ∧ IntsOk e.l := by
      intro i hi
      have hlm : len ≤ m := by rw [hmm]; split <;> omega
      obtain ⟨cs', h1, h2⟩ := hx i (by omega)
      rw [cEntry] at h1
      obtain ⟨_, hlen, hcell⟩ := World.cells?_some h1
      obtain ⟨e, rfl, he⟩ := open_en h2
      refine ⟨e, fun j hj => ?_, he⟩
      have e := hcell j hj
      rw [Go.Deep.add_add] at e
      exact e
    have : Inhabited En := ⟨⟨0, ⟨0, 0, 0, 0, 0⟩⟩⟩
    obtain ⟨X, hX⟩ := Go.Deep.choose_lt each
    have hln : ((List.range len).map X).length = len := by simp
    refine ⟨some a, cap, (List.range len).map X, by rw [hln], ⟨some a, cap, rfl, by omega, hm, (fun e => by cases e), fun h0 => ?_⟩, fun e he => ?_⟩
    · rw [hln] at h0
      obtain ⟨b, o, spot⟩ := a
      have hc0 := (hX 0 h0).1 0 (by omega)
      have hv0 : ∃ v, ((X 0).l.map (Value.int .i64))[0]? = some v := ⟨_, rfl⟩
      obtain ⟨v0, hv0⟩ := hv0
      have hspot : spot = none := by
        have := World.cell?_spot (hc0.trans hv0)
        simpa [Addr.add] using this
      subst hspot
      refine ⟨b, o, rfl, block_lt_of_cell ((by rw [Addr.add_lit] at hc0; exact hc0.trans hv0) : w.cell? ⟨b, o + (0 * 6 + 0), none⟩ = some _), fun j u hu => ?_⟩
      have hr : ∀ r ∈ ((List.range len).map X).map En.l, r.length = 6 := fun x hx => by obtain ⟨e, _, rfl⟩ := List.mem_map.1 hx; rfl
      have hj := (List.getElem?_eq_some_iff.1 hu).1
      rw [flatten_len hr, List.length_map, hln] at hj
      have h1 : j / 6 < len := by omega
      have h2 := flat_at hr (i := j / 6) (by rw [List.length_map, hln]; exact h1) (j := j % 6) (by omega)
      have h3 := (hX (j / 6) h1).1 (j % 6) (by omega)
      rw [Addr.add_lit, show j / 6 * 6 + j % 6 = j by omega] at h3
      rw [show j / 6 * 6 + j % 6 = j by omega, hu] at h2
      rw [h3, List.getElem?_map]
      have h4 : (((List.range len).map X).map En.l)[j / 6]'(by rw [List.length_map, hln]; exact h1) = (X (j / 6)).l := by simp
      rw [h4] at h2
      rw [← h2]; rfl
    · obtain ⟨i, hi, rfl⟩ := List.mem_map.1 he
      exact (hX i (List.mem_range.1 hi)).2
theorem cReg : Try.prog.cellsOf 43 = 4 := by kernel_rfl
theorem cLog : Try.prog.cellsOf 22 = 1 := by kernel_rfl
theorem cU16 : Try.prog.cellsOf 35 = 1 := by kernel_rfl
theorem cPair : Try.prog.cellsOf 36 = 2 := by kernel_rfl
set_option maxRecDepth 100000 in
theorem open_rg (h : DataW.trod enc Try.prog w 0 sp true fuel 43 cs = some y) : ∃ r : Rg, cs = [.int .i64 r.p, .int .i64 r.v, .slice r.A r.n r.c, .int .i64 r.m] := by
  obtain ⟨xs, n, _, _, hl, hlen, hf⟩ := DataW.trod_struct Try.underlying43 h
  rw [cReg] at hl
  match cs, hl with
  | [c0, c1, c2, c3], _ =>
    match xs, hlen with
    | [y0, y1, y2, y3], _ =>
      have g0 := hf 0 _ rfl
      have g1 := hf 1 _ rfl
      have g2 := hf 2 _ rfl
      have g3 := hf 3 _ rfl
      simp only [List.getElem?_cons_zero, List.getElem?_cons_succ, List.getElem_toArray, List.getElem_cons_succ, List.getElem_cons_zero] at g0 g1 g2 g3
      obtain ⟨a0, e0, _, _⟩ := DataW.trod_int Try.underlying3 g0
      obtain ⟨a1, e1, _, _⟩ := DataW.trod_int Try.underlying3 g1
      obtain ⟨a3, e3, _, _⟩ := DataW.trod_int Try.underlying3 g3
      simp only [cInt, cLog, List.drop_succ_cons, List.drop_zero, List.take_succ_cons, List.take_zero] at e0 e1 e3 g2
      injection e0 with e0
      injection e1 with e1
      injection e3 with e3
      subst e0 e1 e3
      rcases Go.Deep.open_slice Try.underlying22 g2 with ⟨e2, _⟩ | ⟨a, len, cap, m, n, D, Pl, e2, _⟩
      · injection e2 with e2
        subst e2
        exact ⟨⟨a0, a1, none, 0, 0, a3⟩, rfl⟩
      · injection e2 with e2
        subst e2
        exact ⟨⟨a0, a1, some a, len, cap, a3⟩, rfl⟩
set_option maxRecDepth 100000 in
theorem open_rgs (h : DataW.trod enc Try.prog w 0 sp true fuel 27 cs = some y) : ∃ A c rs, cs = [.slice A rs.length c] ∧ RgsB w.heap.size w (.slice A rs.length c) rs := by
  rcases Go.Deep.open_slice Try.underlying27 h with ⟨rfl, _⟩ | ⟨a, len, cap, m, n, D, Pl, rfl, _, hl, hm, hmm, _, hx⟩
  · exact ⟨none, 0, [], rfl, ⟨none, 0, rfl, Nat.le_refl _, Nat.zero_le _, fun _ => ⟨rfl, rfl⟩, fun h => by simp at h⟩⟩
  · have each : ∀ i, i < len → ∃ r : Rg, ∀ j, j < 4 → w.cell? (a.add (i * 4 + j)) = [Value.int .i64 r.p, .int .i64 r.v, .slice r.A r.n r.c, .int .i64 r.m][j]? := by
      intro i hi
      have hlm : len ≤ m := by rw [hmm]; split <;> omega
      obtain ⟨cs', h1, h2⟩ := hx i (by omega)
      rw [cReg] at h1
      obtain ⟨_, hlen, hcell⟩ := World.cells?_some h1
      obtain ⟨r, rfl⟩ := open_rg h2
      refine ⟨r, fun j hj => ?_⟩
      have e := hcell j hj
      rw [Go.Deep.add_add] at e
      exact e
    have : Inhabited Rg := ⟨rg0⟩
    obtain ⟨X, hX⟩ := Go.Deep.choose_lt each
    have hln : ((List.range len).map X).length = len := by simp
    refine ⟨some a, cap, (List.range len).map X, by rw [hln], ⟨some a, cap, rfl, by omega, hm, (fun e => by cases e), fun h0 => ?_⟩⟩
    rw [hln] at h0
    obtain ⟨b, o, spot⟩ := a
    have hc0 := hX 0 h0 0 (by omega)
    have hspot : spot = none := by
      have := World.cell?_spot (hc0.trans (by rfl))
      simpa [Addr.add] using this
    subst hspot
    refine ⟨b, o, rfl, block_lt_of_cell ((by rw [Addr.add_lit] at hc0; exact hc0.trans (by rfl)) : w.cell? ⟨b, o + (0 * 4 + 0), none⟩ = some _), fun k hk => ?_⟩
    have hkl : k < len := by rw [← hln]; exact hk
    have hg : ((List.range len).map X).getD k rg0 = X k := by
      rw [List.getD, List.getElem?_map, List.getElem?_range hkl]; rfl
    rw [hg]
    have q := fun j hj => by have := hX k hkl j hj; rwa [Addr.add_lit, ← Nat.add_assoc] at this
    exact ⟨q 0 (by omega), q 1 (by omega), q 2 (by omega), q 3 (by omega)⟩
theorem one_u16 {c : List Value} (h : DataW.trod enc Try.prog w 0 sp true fuel 35 c = some y) : ∃ n : Nat, c = [.int .u16 (n : Int)] ∧ n < 65536 := by
  obtain ⟨a, rfl, _, hw⟩ := DataW.trod_int Try.underlying35 h
  simp [Lit.wf, IntKind.min, IntKind.max, IntKind.signed, IntKind.bits] at hw
  exact ⟨a.toNat, by rw [Int.toNat_of_nonneg hw.1], by omega⟩
theorem open_u16s (h : DataW.trod enc Try.prog w 0 sp true fuel 36 cs = some y) : ∃ a b : Nat, cs = [.int .u16 (a : Int), .int .u16 (b : Int)] ∧ a < 65536 ∧ b < 65536 := by
  obtain ⟨xs, m, _, _, hl, hlen, hf⟩ := DataW.trod_array Try.underlying36 h
  rw [cPair] at hl
  match cs, hl with
  | [c0, c1], _ =>
    match xs, hlen with
    | [y0, y1], _ =>
      have g0 := hf 0 (by decide)
      have g1 := hf 1 (by decide)
      rw [cU16] at g0 g1
      obtain ⟨a, ha, ha'⟩ := one_u16 g0
      obtain ⟨b, hb, hb'⟩ := one_u16 g1
      simp only [Nat.zero_mul, Nat.one_mul, List.drop_succ_cons, List.drop_zero, List.take_succ_cons, List.take_zero, List.cons.injEq, and_true] at ha hb
      subst ha hb
      exact ⟨a, b, rfl, ha', hb'⟩
end
end Go.Proofs.Ytffjijgmjbhhoaa
