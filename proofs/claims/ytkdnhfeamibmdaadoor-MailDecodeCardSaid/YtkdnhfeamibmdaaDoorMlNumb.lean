/-
  numbersOf of package mail: all numbers of a message, one behind the other.
-/
import Derived.Test.YtkdnhfeamibmdaaDoorMlOwn
namespace Go.Proofs.YtkdnhfeamibmdaaDoor
open Go.RowKit
section
variable {ops : Array Oper} {o : Oper} {a : Act} {w : World} {K : Act → World → Prop} {Q : Exit → Act → World → Prop} {E : Prop}
/-- 'append' of a literal's ints, as a step of a region that draws. -/
theorem step_app_row (hg : o.guard = none) (d x : Operand) (hop : o.op = Op.call { callee := Callee.builtin Builtin.append, args := #[d, x], argTypes := #[57, 57] }) (hty : o.type = 57)
    {base g N M : Nat} {v ka : Value} {ns xs : List Int} (hd : a.eval d = v) (hx : a.eval x = ka) (hka : ka = .slice (some ⟨g, 0, none⟩) xs.length xs.length) (ho : OwnI w base v ns) (hr : IntRow w g xs) (hb : base ≤ w.heap.size) (hN : N = ns.length + xs.length) (hl : N ≤ M) (hM : M = 1000000)
    (h : ∀ A c w', OwnI w' base (.slice A N c) (ns ++ xs) → w.grownBy w' v.ownBlock → K (a.put o.dst (.slice A N c)) w') :
    if Region.wanted o (yielded ops a.tmps) = true then Oper.wp Tryd.prog o a w K Q else E := by
  subst hka hM
  obtain ⟨A, c, w', hr', ho', hg'⟩ := run_app_row ho hr hb hN hl
  rw [if_pos (by simp [Region.wanted, hg])]
  unfold Oper.wp
  simp [execOp, hop, resolve, invoke, builtin, hd, hx, hty, hr', Result.andThen]
  exact h A c w' ho' hg'
end
theorem En.l_len6 (e : En) : e.l.length = 6 := rfl
theorem mesL_take (es : List En) (k : Nat) (hk : k ≤ es.length) : ((es.take k).map En.l).flatten.length = k * 6 := by
  rw [flatten_len (k := 6) (fun r hr => by obtain ⟨e, _, rfl⟩ := List.mem_map.1 hr; rfl), List.length_map, List.length_take, Nat.min_eq_left hk]
theorem mesL_succ (es : List En) {k : Nat} (hk : k < es.length) : ((es.take (k + 1)).map En.l).flatten = ((es.take k).map En.l).flatten ++ (es[k].ep :: es[k].o.l) := by
  rw [List.take_succ_eq_append_getElem hk, List.map_append, List.flatten_append]
  show _ ++ (es[k].l ++ []) = _
  rw [List.append_nil]
  rfl
def EnBox (w : World) (b : Nat) (e : En) : Prop := w.heap[b]? = some (.cells #[.int .i64 e.ep, .int .i64 e.o.id, .int .i64 e.o.st, .int .i64 e.o.ex, .int .i64 e.o.ki, .int .i64 e.o.ar] 30 (0, 0))
theorem OwnI.off {w : World} {base b : Nat} {v : Value} {ns : List Int} {e : En} (h : OwnI w base v ns) (hb : EnBox w b e) : ¬ v.ownBlock = some b := by
  intro hk
  rcases h.2 with ⟨rfl, _⟩ | ⟨g, cap, cur, rfl, _, hg, _⟩
  · cases hk
  · have e1 : g = b := Option.some.inj hk
    subst e1
    unfold EnBox at hb
    rw [hg] at hb
    have h2 := Option.some.inj hb
    injection h2 with _ h3 _
    exact absurd h3 (by decide)
theorem EnBox.lt {w : World} {b : Nat} {e : En} (h : EnBox w b e) : b < w.heap.size := (Array.getElem?_eq_some_iff.1 h).1
theorem EnBox.cells {w : World} {b : Nat} {e : En} (h : EnBox w b e) : w.cell? ⟨b, 0, none⟩ = some (.int .i64 e.ep) ∧ w.cell? ⟨b, 1, none⟩ = some (.int .i64 e.o.id) ∧ w.cell? ⟨b, 2, none⟩ = some (.int .i64 e.o.st) ∧ w.cell? ⟨b, 3, none⟩ = some (.int .i64 e.o.ex) ∧ w.cell? ⟨b, 4, none⟩ = some (.int .i64 e.o.ki) ∧ w.cell? ⟨b, 5, none⟩ = some (.int .i64 e.o.ar) :=
  ⟨by rw [Lib.cell_of_heap h]; rfl, by rw [Lib.cell_of_heap h]; rfl, by rw [Lib.cell_of_heap h]; rfl, by rw [Lib.cell_of_heap h]; rfl, by rw [Lib.cell_of_heap h]; rfl, by rw [Lib.cell_of_heap h]; rfl⟩
/-- What numbersOf answers: a row of its own, in new memory. -/
def NumsPost (m : Ml) (w : World) (e : Ending) (w' : World) : Prop := ∃ A c, e = .returned (.slice A m.l.length c) ∧ OwnI w' w.heap.size (.slice A m.l.length c) m.l ∧ Below w.heap.size w w'
set_option maxRecDepth 100000 in
set_option maxHeartbeats 8000000 in
theorem numbersOf_any (m : Ml) (A : Option Addr) (c : Nat) {w : World} (hE : EsB w.heap.size w (.slice A m.es.length c) m.es) (hn : m.es.length ≤ 100000) :
    Calls Tryd.prog 43 #[m.v (.slice A m.es.length c)] w (NumsPost m w) := by
  obtain ⟨hd10, HHD⟩ : ∃ l : List Int, Hid (l = m.hd ++ [(m.es.length : Int)]) := ⟨_, Lib.hid rfl⟩
  have HL10 : Hid (hd10.length = 10) := by show _ = _; rw [HHD.out]; rfl
  obtain ⟨T, HT⟩ : ∃ T : Nat → List Int, Hid (∀ k, T k = hd10 ++ ((m.es.take k).map En.l).flatten) := ⟨fun k => hd10 ++ ((m.es.take k).map En.l).flatten, Lib.hid fun _ => rfl⟩
  have HTL : Hid (∀ k, k ≤ m.es.length → (T k).length = 10 + k * 6) := fun k hk => by rw [HT.out, List.length_append, HL10.out, mesL_take _ _ hk]
  have HTS : Hid (∀ k (hk : k < m.es.length), T (k + 1) = (T k ++ [m.es[k].ep]) ++ m.es[k].o.l) := fun k hk => by rw [HT.out, HT.out, mesL_succ _ hk]; simp
  have HT0 : Hid (T 0 = hd10) := by show _ = _; rw [HT.out]; simp
  have HTE : Hid ((T m.es.length ++ m.o.l) ++ [m.ai, m.ac, m.av] = m.l) := by show _ = _; rw [HT.out, HHD.out, List.take_length]; simp [Ml.l, Ml.hd, Ml.tl, esL]
  have HLL := Lib.hid (Ml.l_len m)
  obtain ⟨w0, HW0⟩ : ∃ w0, Hid (w.alloc (.cells (m.cells (.slice A m.es.length c)).toArray 45) = w0) := ⟨_, Lib.hid rfl⟩
  have hb0 : Below w.heap.size w w0 := by rw [← HW0.out]; exact (Below.refl _ _).alloc (Nat.le_refl _) _
  have X0 : MlBox w0 w.heap.size m (.slice A m.es.length c) := by rw [← HW0.out]; exact MlBox.new _ _ _
  have hs0 : w0.heap.size = w.heap.size + 1 := by rw [← HW0.out]; simp
  obtain ⟨w1, HW1⟩ : ∃ w1, Hid (w0.alloc (.cells #[.int .i64 m.ki, .int .i64 m.fr, .int .i64 m.tt, .int .i64 m.st, .int .i64 m.ep, .int .i64 m.vi, .int .i64 m.ba, .int .i64 m.le, .int .i64 m.sp, .int .i64 m.es.length] 3) = w1) := ⟨_, Lib.hid rfl⟩
  have hb1 : Below w0.heap.size w0 w1 := by rw [← HW1.out]; exact (Below.refl _ _).alloc (Nat.le_refl _) _
  have hr1 : IntRow w1 w0.heap.size hd10 := by rw [HHD.out, ← HW1.out]; exact heap_alloc_new _ _
  have ho1 := OwnI.lit hr1 (Nat.le_refl _) (by rw [HL10.out]; decide)
  rw [HL10.out] at ho1
  have HO1 : Hid (OwnI w1 w0.heap.size (.slice (some ⟨w.heap.size + 1, 0, none⟩) 10 10) hd10) := by show OwnI _ _ _ _; rw [← hs0]; exact ho1
  have HB0 := Lib.hid hb0
  have HB01 := Lib.hid hb1
  have HX0 := Lib.hid X0
  have hs1 : w1.heap.size = w0.heap.size + 1 := by rw [← HW1.out]; simp
  have HCE := Lib.hid (fun X (hb : Below w.heap.size w X) k (hk : k < m.es.length) => EsB.cells (hE.below hb (Nat.le_refl _)) hk)
  obtain ⟨_, _, hv, h1, h2, -⟩ := hE.len
  injection hv with e1 e2 e3
  subst e1 e3
  clear e2 hE hb0 hb1 hr1 ho1
  unfold maxLen at h2
  have c0 := X0.cell 0
  have c1 := X0.cell 1
  have c2 := X0.cell 2
  have c3 := X0.cell 3
  have c4 := X0.cell 4
  have c5 := X0.cell 5
  have c6 := X0.cell 6
  have c7 := X0.cell 7
  have c8 := X0.cell 8
  have c9 := X0.cell 9
  have d9 := (HX0.out.bel HB01.out (by omega)).cell 9
  simp only [Ml.cells, List.getElem?_cons_zero, List.getElem?_cons_succ] at c0 c1 c2 c3 c4 c5 c6 c7 c8 c9 d9
  simp only [Ml.v]
  clear X0
  go_enter Tryd.func43, Tryd.ntmps43
  go_wp2_with (first | rw [HW0.out] | rw [HW1.out])
  clear c0 c1 c2 c3 c4 c5 c6 c7 c8 c9 d9
  go_loopw [3, 31] (fun u i wr => ∃ k : Nat, k ≤ m.es.length ∧ i = .int .i64 k ∧ (∃ A' c', u = .slice A' (10 + k * 6) c' ∧ OwnI wr w0.heap.size (.slice A' (10 + k * 6) c') (T k)) ∧ Below w0.heap.size w0 wr) (fun _ i _ => m.es.length - (intOf i).toNat)
  case atStart => exact ⟨0, Nat.zero_le _, rfl, ⟨_, _, rfl, by rw [HT0.out]; exact HO1.out⟩, HB01.out⟩
  case round =>
    obtain ⟨k, hk, rfl, ⟨A', c', rfl, hown⟩, hbel⟩ := hrel
    have HOW := Lib.hid hown
    have HBE := Lib.hid hbel
    have HBW := Lib.hid (HB0.out.trans (hbel.mono (by omega)))
    have hszr := hbel.size
    by_cases hlt : k < m.es.length
    · obtain ⟨b1, o1, cc, hv, hbb1, x0, x1, x2, x3, x4, x5⟩ := HCE.out wr HBW.out k hlt
      injection hv with e1 _ e3
      subst e1 e3
      have hii : (k : Int) < (m.es.length : Int) := by omega
      have HTSk := Lib.hid (HTS.out k hlt)
      have HTLk := Lib.hid (HTL.out k hk)
      have HTLn := Lib.hid (HTL.out (k + 1) hlt)
      obtain ⟨x, hx⟩ : ∃ x, m.es[k] = x := ⟨_, rfl⟩
      rw [hx] at x0 x1 x2 x3 x4 x5 HTSk
      clear hx
      obtain ⟨w2, HW2⟩ : ∃ w2, Hid (wr.alloc (.cells #[.int .i64 x.ep, .int .i64 x.o.id, .int .i64 x.o.st, .int .i64 x.o.ex, .int .i64 x.o.ki, .int .i64 x.o.ar] 30) = w2) := ⟨_, Lib.hid rfl⟩
      have hb2 : Below wr.heap.size wr w2 := by rw [← HW2.out]; exact (Below.refl _ _).alloc (Nat.le_refl _) _
      have hs2 : w2.heap.size = wr.heap.size + 1 := by rw [← HW2.out]; simp
      have B2 : EnBox w2 wr.heap.size x := by rw [← HW2.out]; exact heap_alloc_new _ _
      have HOW2 := Lib.hid (hown.below hb2)
      have HB2 := Lib.hid hb2
      have HB02 := Lib.hid (hbel.trans (hb2.mono hszr))
      have hne : ∀ j, (Value.slice A' (10 + k * 6) c').ownBlock = some j → j ≠ wr.heap.size := fun j hj e => by have := (hown.lt hj).2; omega
      have HNE := Lib.hid hne
      have HBX2 := Lib.hid B2
      obtain ⟨p0, p1, p2, p3, p4, p5⟩ := B2.cells
      clear hown hbel hb2 B2 HW0 HW1 HCE HO1 HX0 hne
      go_wp2_with (rw [HW2.out])
      clear x0 x1 x2 x3 x4 x5 hs2
      obtain ⟨w3, HW3⟩ : ∃ w3, Hid (w3 = (w2.alloc (.cells #[.int .i64 x.ep] 3)).drew) := ⟨_, Lib.hid rfl⟩
      have hb3 : Below w2.heap.size w2 w3 := by rw [HW3.out]; exact ((Below.refl _ _).alloc (Nat.le_refl _) _).drew
      have hr3 : IntRow w3 w2.heap.size [x.ep] := by rw [HW3.out]; exact heap_alloc_new w2 _
      have ho3 := HOW2.out.below hb3
      have he3 : EnBox w3 wr.heap.size x := (hb3.block _ HBX2.out.lt).trans HBX2.out
      have HB3 := Lib.hid hb3
      have HR3 := Lib.hid hr3
      have HOW3 := Lib.hid ho3
      have HE3 := Lib.hid he3
      have HSX := Lib.hid (fun X (h : EnBox X wr.heap.size x) => h.cells)
      have hw0 : w0.heap.size ≤ w3.heap.size := by have := hb3.size; have := HB02.out.size; omega
      rw [HW3.out] at HOW3 HR3 HE3
      have HLE := Lib.hid (show 10 + k * 6 + 1 ≤ 1000000 by omega)
      have HLN := Lib.hid (show 10 + k * 6 + 1 = (T k).length + 1 by rw [HTLk.out])
      have HWZ := Lib.hid (show w0.heap.size ≤ (w2.alloc (.cells #[.int .i64 x.ep] 3)).drew.heap.size by rw [← HW3.out]; exact hw0)
      have HLT := Lib.hid (show (T k ++ [x.ep]).length ≤ 900000 by rw [List.length_append, HTLk.out]; simp; omega)
      have HAO := Lib.hid (fun (W : World) (A : Option Addr) (n c : Nat) (ho : OwnI W w0.heap.size (.slice A n c) (T k ++ [x.ep])) (hb : w0.heap.size ≤ W.heap.size) => appendOrder_any x.o ho hb HLT.out)
      simp only [Od.v] at HAO
      clear hb3 hr3 ho3 he3 hw0
      go_region_held3 (fun X => X.cell? ⟨wr.heap.size, 0, none⟩ = some (.int .i64 x.ep) ∧ X.cell? ⟨wr.heap.size, 1, none⟩ = some (.int .i64 x.o.id) ∧ X.cell? ⟨wr.heap.size, 2, none⟩ = some (.int .i64 x.o.st) ∧ X.cell? ⟨wr.heap.size, 3, none⟩ = some (.int .i64 x.o.ex) ∧ X.cell? ⟨wr.heap.size, 4, none⟩ = some (.int .i64 x.o.ki) ∧ X.cell? ⟨wr.heap.size, 5, none⟩ = some (.int .i64 x.o.ar))
        (first | exact HSX.out _ HBX2.out | exact HSX.out _ HE3.out | exact HSX.out _ HE4.out | exact HSX.out _ HE5.out | go_keep)
        (first
          | (refine step_app_row (base := w0.heap.size) (g := w2.heap.size) (N := 10 + k * 6 + 1) (M := 1000000) (v := .slice A' (10 + k * 6) c') (ka := .slice (some ⟨w2.heap.size, 0, none⟩) 1 1) (ns := T k) (xs := [x.ep]) rfl _ _ rfl rfl (by simp [Act.eval]) (by simp [Act.eval]) rfl HOW3.out HR3.out HWZ.out HLN.out HLE.out rfl ?_; intro A4 c4 w4 hown4 hgr4; have HO4 := Lib.hid hown4; have HG4 := Lib.hid hgr4; have HE4 := Lib.hid ((Foot.grown hgr4).kept HE3.out (fun e => HNE.out _ e rfl)); clear hown4 hgr4)
          | (go_at_call 68; (with_reducible refine (HAO.out _ _ _ _ HO4.out (Nat.le_trans HWZ.out HG4.out.size)).mono ?_); rintro e w5 ⟨A5, c5, rfl, hown5, hf5⟩; have HO5 := Lib.hid hown5; have HF5 := Lib.hid hf5; have HE5 := Lib.hid (hf5.kept HE4.out (HO4.out.off HE4.out)); clear hown5 hf5))
      go_wp2_with fail
      have hB3 : Below w0.heap.size w0 w3 := HB02.out.trans (HB3.out.mono HB02.out.size)
      rw [HW3.out] at hB3
      have hB4 := hB3.grown HG4.out HWZ.out (fun j hj => (HOW3.out.lt hj).1)
      have hB5 := hB4.trans (HF5.out.below fun j hj => ⟨Nat.lt_of_lt_of_le hj hB4.size, fun e => by have := (HO4.out.lt e).1; omega⟩)
      have h5 := HO5.out
      rw [← HTSk.out, HTLn.out] at h5
      have H5 := Lib.hid h5
      have HB5 := Lib.hid hB5
      clear hB3 hB4 hB5 h5
      go_roundw
      case rel => exact ⟨k + 1, by omega, by go_num, ⟨A5, c5, by congr 1; rw [HTLk.out]; show 10 + k * 6 + (5 + 1) = _; omega, H5.out⟩, HB5.out⟩
      case measure => simp [intOf]; omega
    · obtain rfl : k = m.es.length := by omega
      have HXr := HX0.out.bel hbel (by omega)
      have c10 := HXr.cell 10
      have c11 := HXr.cell 11
      have c12 := HXr.cell 12
      have c13 := HXr.cell 13
      have c14 := HXr.cell 14
      simp only [Ml.cells, List.getElem?_cons_zero, List.getElem?_cons_succ] at c10 c11 c12 c13 c14
      have HXR := Lib.hid HXr
      have HTLk := Lib.hid (HTL.out m.es.length (Nat.le_refl _))
      have G := Lib.hid (appendOrder_any m.o hown hszr (by rw [HTLk.out]; omega))
      simp only [Od.v] at G
      clear hown hbel HXr HCE HTS HT0 HO1 HW0 HW1
      go_wp2_with fail
      refine (G.out).mono ?_
      rintro e w2 ⟨A2, c2, rfl, hown2, hf2⟩
      have hb2 : Below w0.heap.size wr w2 := hf2.below fun j hj => ⟨by omega, fun e => by have := (HOW.out.lt e).1; omega⟩
      have HXr := HXR.out.bel hb2 (by omega)
      have c15 := HXr.cell 15
      have c16 := HXr.cell 16
      have c17 := HXr.cell 17
      simp only [Ml.cells, List.getElem?_cons_zero, List.getElem?_cons_succ] at c15 c16 c17
      have hl2 : (T m.es.length ++ m.o.l).length = 10 + m.es.length * 6 + 5 := by rw [List.length_append, HTLk.out]; rfl
      rw [hl2] at hown2 ⊢
      have hb3 : Below w2.heap.size w2 (w2.alloc (.cells #[.int .i64 m.ai, .int .i64 m.ac, .int .i64 m.av] 3)) := (Below.refl _ _).alloc (Nat.le_refl _) _
      have hr3 : IntRow (w2.alloc (.cells #[.int .i64 m.ai, .int .i64 m.ac, .int .i64 m.av] 3)) w2.heap.size [m.ai, m.ac, m.av] := heap_alloc_new _ _
      obtain ⟨A4, c4, w4, hrun, ho4, hg4⟩ := run_app_row (hown2.below hb3) hr3 (Nat.le_trans (Nat.le_trans hszr hf2.size) hb3.size) (N := 10 + m.es.length * 6 + 5 + 3) (by rw [hl2]; rfl) (by omega)
      have HAP := Lib.hid hrun
      have hB2 := HBE.out.trans hb2
      have hB4 := (hB2.trans (hb3.mono hB2.size)).grown hg4 (Nat.le_trans (Nat.le_trans hszr hf2.size) hb3.size) (fun j hj => (hown2.lt hj).1)
      rw [HTE.out] at ho4
      have HO4 := Lib.hid ho4
      have HBF := Lib.hid (HB0.out.trans (hB4.mono (by omega)))
      have HNL : Hid (m.l.length = 10 + m.es.length * 6 + 5 + 3) := by show _ = _; rw [HLL.out]; omega
      clear hown2 hf2 hb2 HXr hb3 hr3 hrun ho4 hg4 hB2 hB4 hl2 c10 c11 c12 c13 c14 G
      go_wp2_with (at_builtin; refine wpList_append_run _ rfl _ _ _ _ rfl _ _ rfl rfl HAP.out ?_)
      go_ret
      exact ⟨A4, c4, by rw [HNL.out]; rfl, by rw [HNL.out]; exact owns_weaken HO4.out (by omega), HBF.out⟩
end Go.Proofs.YtkdnhfeamibmdaaDoor
