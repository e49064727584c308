/-
  The walk of the law FoldsEpochs: it returns true and writes nothing that was there.
-/
import Derived.Test.YtafhjlfnhgkcoaaDoorFoCtr
namespace Go.Proofs.YtafhjlfnhgkcoaaDoor.foldsEpochsW
open Go.RowKit Go.Sort Go.Maps
theorem empty_own (w : World) : (w.alloc (.cells #[] 45)).ownsRow w.heap.size 45 6 (.slice (some ⟨w.heap.size, 0, none⟩) 0 0) 0 [] :=
  ⟨by simp, .inr ⟨w.heap.size, 0, #[], rfl, Nat.le_refl _, heap_alloc_new w _, Nat.le_refl _, Nat.zero_le _, by simp, by simp⟩⟩
/-- The log with its first so many epochs told anew. -/
def told : List En → List Int → Nat → List En
  | es, _, 0 => es
  | [], _, _ => []
  | es, [], _ => es
  | e :: es, j :: js, k + 1 => ⟨j, e.o⟩ :: told es js k
theorem told_len : ∀ (es : List En) (js : List Int) (k : Nat), (told es js k).length = es.length
  | es, _, 0 => by simp [told]
  | [], _, _ + 1 => by simp [told]
  | e :: es, [], _ + 1 => by simp [told]
  | e :: es, j :: js, k + 1 => by simp [told, told_len es js k]
theorem told_orders : ∀ (es : List En) (js : List Int) (k : Nat), (told es js k).map En.o = es.map En.o
  | es, _, 0 => by simp [told]
  | [], _, _ + 1 => by simp [told]
  | e :: es, [], _ + 1 => by simp [told]
  | e :: es, j :: js, k + 1 => by simp [told, told_orders es js k]
theorem told_ints : ∀ (es : List En) (js : List Int) (k : Nat), (∀ e ∈ es, IntsOk e.l) → IntsOk js → ∀ e ∈ told es js k, IntsOk e.l
  | es, _, 0, h, _ => by simpa [told] using h
  | [], _, _ + 1, _, _ => by simp [told]
  | e :: es, [], _ + 1, h, _ => by simpa [told] using h
  | e :: es, j :: js, k + 1, h, hj => by
    intro x hx
    simp only [told, List.mem_cons] at hx
    rcases hx with rfl | hx
    · intro n hn
      simp only [En.l, List.mem_cons] at hn
      rcases hn with rfl | hn
      · exact hj _ (by simp)
      · exact h e (by simp) n (by simp only [En.l, List.mem_cons]; exact .inr hn)
    · exact told_ints es js k (fun e he => h e (by simp [he])) (fun n hn => hj n (by simp [hn])) x hx
theorem told_cells : ∀ (es : List En) (js : List Int) (k : Nat) (_ : k < es.length) (hj : k < js.length), ecs (told es js (k + 1)) = (ecs (told es js k)).set (k * 6) (.int .i64 js[k])
  | [], _, k, h, _ => by simp at h
  | e :: es, [], k, _, h => by simp at h
  | e :: es, j :: js, 0, _, _ => by
    cases es <;> cases js <;> simp [told, ecs, En.l, Od.l]
  | e :: es, j :: js, k + 1, hk, hj => by
    have ih := told_cells es js k (by simpa using hk) (by simpa using hj)
    simp only [ecs, told, List.map_cons, List.flatten_cons, List.map_append, List.getElem_cons_succ] at ih ⊢
    rw [ih, List.set_append_right _ _ (by simp [En.l, Od.l]; omega)]
    congr 2
    simp [En.l, Od.l]
    omega
set_option maxRecDepth 100000 in
set_option maxHeartbeats 4000000 in
theorem walk (A : Option Addr) (c : Nat) (es : List En) (A' : Option Addr) (c' : Nat) (js : List Int) (w : World) (hA : Asked w) (ha : EsB w.heap.size w (.slice A es.length c) es) (hi : ∀ e ∈ es, IntsOk e.l) (hj : RdB w.heap.size w (.slice A' js.length c') js.length js) (hji : IntsOk js) : Calls Tryd.prog 8 #[.slice A es.length c, .slice A' js.length c'] w (fun e w' => e = .returned (.bool true) ∧ Below w.heap.size w w') := by
  by_cases hn : 300 < es.length
  · have h1 : decide (300 < (es.length : Int)) = true := decide_eq_true (by omega)
    have h2 : (300 : Int) < (es.length : Int) := by omega
    clear ha hA hj
    go_enter Tryd.func8, Tryd.ntmps8
    go_wp2_with fail
    go_ret
    exact ⟨rfl, Below.refl _ _⟩
  · have t1 : decide (300 < (es.length : Int)) = false := decide_eq_false (by omega)
    have t2 : ¬ (300 : Int) < (es.length : Int) := by omega
    have HA := Lib.hid hA
    have HW := Lib.hid (fun X hX => foWorks_any X (HA.out.keep hX))
    have H1 := Lib.hid (fun X (hX : Below w.heap.size w X) => ofp_any (w := X) (RdB.below ha hX (Nat.le_refl _) : EsB _ X _ es) hi hX.size (HA.out.keep hX) (by omega))
    have hb0 : Below w.heap.size w (w.alloc (.cells #[] 45)) := (Below.refl _ _).alloc (Nat.le_refl _) _
    obtain ⟨A1, c1, w1, hr1, ho1, hg1, -⟩ := run_append_es (empty_own w) (RdB.below ha hb0 (Nat.le_refl _) : EsB _ _ _ es) (by simp) (by omega)
    rw [Nat.zero_add] at hr1 ho1
    rw [List.nil_append] at ho1
    have hb1 : Below w.heap.size w w1 := hb0.trans (below_grow hg1 (fun q h1 e => by simp [Value.ownBlock] at e; omega) (by simp))
    have HR1 := Lib.hid hr1
    have HO1 := Lib.hid ho1
    have hl1 : es.length ≤ c1 ∧ c1 ≤ maxLen := by
      rcases ho1.2 with ⟨h, _⟩ | ⟨g, cap, cur, h, _, _, h3, h4, _⟩
      · injection h with _ h2 h3; omega
      · injection h with _ _ h3; omega
    have HCJ := Lib.hid hj
    obtain ⟨_, _, hv, hjl, hjm, -⟩ := hj.len
    injection hv with e1 _ e3
    subst e1 e3
    obtain ⟨_, _, hv, hel, hem, -⟩ := ha.len
    injection hv with e1 _ e3
    subst e1 e3
    unfold maxLen at hem hjm hl1
    clear hr1 ho1 hg1 hb0 ha hA hj hn
    go_enter Tryd.func8, Tryd.ntmps8
    go_wp2_with (refine wpList_append_known _ rfl _ _ 22 22 rfl _ _ rfl rfl HR1.out ?_)
    go_loopw [6] (fun i wr => ∃ k : Nat, k ≤ es.length ∧ k ≤ js.length ∧ i = .int .i64 k ∧ Hid (wr.ownsRow w.heap.size 45 6 (.slice A1 es.length c1) es.length (ecs (told es js k))) ∧ Below w.heap.size w wr) (fun i _ => es.length - (intOf i).toNat)
    case atStart => exact ⟨0, Nat.zero_le _, Nat.zero_le _, rfl, by rw [told]; exact HO1, hb1⟩
    case round =>
      clear HO1 HR1 hb1
      obtain ⟨k, hk, hk2, rfl, hown, hbr⟩ := hrel
      by_cases hlt : k < es.length ∧ k < js.length
      · obtain ⟨hk1, hk3⟩ := hlt
        obtain ⟨g, cg, hv, hgb, hgl, hgc, hgm, hfz, -⟩ := own_shape hown.out (by omega)
        injection hv with e1 _ e3
        subst e1 e3
        obtain ⟨A2, c2, hv2, _, _, _, hx⟩ := HCJ.out
        obtain ⟨b, o, rfl, hbl, hx⟩ := hx (by omega)
        injection hv2 with e1 _ e3
        subst e1 e3
        have hx := (hbr.cell (p := ⟨b, o + k, none⟩) hbl).trans (hx k js[k] (List.getElem?_eq_getElem hk3))
        have hst := (World.ownsRow.stored hown.out (k * 6) (.int .i64 js[k]))
        rw [← told_cells es js k hk1 hk3] at hst
        have HST := Lib.hid hst.1
        have HSG := Lib.hid hst.2
        have hc := (own_shape hown.out (by omega))
        have hcell : ∃ u, wr.cell? ⟨g, k * 6, none⟩ = some u := by
          obtain ⟨_, _, hv3, _, _, _, _, _, hcc⟩ := own_shape hown.out (by omega)
          injection hv3 with e1
          injection e1 with e1
          injection e1 with e1
          subst e1
          exact ⟨_, (hcc (k * 6) (by omega)).trans (List.getElem?_eq_getElem (by rw [ecs_len, told_len]; omega))⟩
        obtain ⟨u, hcell⟩ := hcell
        have i1 : (k : Int) < (es.length : Int) := by omega
        have i2 : (k : Int) < (js.length : Int) := by omega
        have i3 : decide ((k : Int) < (js.length : Int)) = true := decide_eq_true i2
        have i4 : decide ((k : Int) < (es.length : Int)) = true := decide_eq_true i1
        clear hst hown hc HCJ
        generalize js[k] = z at *
        go_wp2_with fail
        go_roundw
        case rel => exact ⟨k + 1, by omega, by omega, by go_num, HST, hbr.trans (below_grow HSG.out (fun q h1 e => by injection e; omega) (by have := hbr.size; omega))⟩
        case measure => simp [intOf]; omega
      · have hint := told_ints es js k hi hji
        have hlen := told_len es js k
        have hord := told_orders es js k
        have hes := own_es (es := told es js k) (by rw [hlen]; exact hown.out) (by omega)
        have H2 := Lib.hid (fun X (hX : Below wr.heap.size wr X) => by
          have h := ofp_any (w := X) (RdB.below hes hX (Nat.le_refl _) : EsB _ X _ (told es js k)) hint hX.size (HA.out.keep (hbr.trans (hX.mono hbr.size))) (by omega)
          unfold OfP at h
          rw [foldL_orders (l := told es js k) (m := es) hord, hlen] at h
          exact h)
        have hes' := Lib.hid hes
        have hstop : (decide ((k : Int) < (es.length : Int)) = false ∧ ¬ (k : Int) < (es.length : Int) ∧ ¬ k < es.length) ∨ (decide ((k : Int) < (es.length : Int)) = true ∧ k < es.length ∧ (k : Int) < (es.length : Int) ∧ decide ((k : Int) < (js.length : Int)) = false ∧ ¬ (k : Int) < (js.length : Int) ∧ ¬ k < js.length) := by
          by_cases h : k < es.length
          · exact .inr ⟨decide_eq_true (by omega), h, by omega, decide_eq_false (by omega), by omega, by omega⟩
          · exact .inl ⟨decide_eq_false (by omega), by omega, h⟩
        clear hint hord hes hown HCJ hlt hi hji
        have TAIL : True := trivial
        rcases hstop with ⟨s1, s2, s3⟩ | ⟨s1, s2, s3, s4, s5, s6⟩
        all_goals
          go_wp2_with fail
          refine (H1.out _ hbr).mono ?_
          rintro e w2 ⟨g, rfl, hoc, hg1, hg2, hb2⟩
          simp only [St.v]
          obtain ⟨w3, HX3⟩ : ∃ W : World, Hid (W = w2.alloc (.cells #[.int .i64 (foldL es).1.tag, .bool (foldL es).1.cl, .int .i64 (foldL es).1.sum, .int .i64 (foldL es).1.ver] 25)) := ⟨_, Lib.hid rfl⟩
          have h_a3 : w3.heap[w2.heap.size]? = some (.cells #[.int .i64 (foldL es).1.tag, .bool (foldL es).1.cl, .int .i64 (foldL es).1.sum, .int .i64 (foldL es).1.ver] 25 (0, 0)) := by rw [HX3.out]; exact heap_alloc_new _ _
          have hb3 : Below w2.heap.size w2 w3 := by rw [HX3.out]; exact (Below.refl _ _).alloc (Nat.le_refl _) _
          have hB3 := hb2.trans (hb3.mono hb2.size)
          have HO3 := Lib.hid (hoc.below hb3 (Nat.le_refl _))
          have hz3 : w2.heap.size < w3.heap.size := lt_of_block h_a3
          clear hoc hb2 hb3
          have H2' := Lib.hid (H2.out _ hB3)
          clear H2
          simp only [St.v] at H2'
          generalize (foldL es).1.tag = q1 at *
          generalize (foldL es).1.cl = q2 at *
          generalize (foldL es).1.sum = q3 at *
          generalize (foldL es).1.ver = q4 at *
          go_wp2_with (rw [← HX3.out])
          refine (H2'.out).mono ?_
          rintro e w4 ⟨g', rfl, hoc', hg1', hg2', hb4⟩
          obtain ⟨w5, HX5⟩ : ∃ W : World, Hid (W = w4.alloc (.cells #[.int .i64 q1, .bool q2, .int .i64 q3, .int .i64 q4] 25)) := ⟨_, Lib.hid rfl⟩
          have h_b5 : w5.heap[w4.heap.size]? = some (.cells #[.int .i64 q1, .bool q2, .int .i64 q3, .int .i64 q4] 25 (0, 0)) := by rw [HX5.out]; exact heap_alloc_new _ _
          have hb5 : Below w4.heap.size w4 w5 := by rw [HX5.out]; exact (Below.refl _ _).alloc (Nat.le_refl _) _
          have hB5 := hb4.trans (hb5.mono hb4.size)
          have HS := Lib.hid (sameOcs_any (HO3.out.below hB5 (Nat.le_of_lt hz3)) (hoc'.below hb5 (Nat.le_refl _)) (Nat.le_trans (Nat.le_of_lt hz3) hB5.size) hb5.size)
          have h_a5 := (hB5.block _ hz3).trans h_a3
          have hBB := hbr.trans ((hB3.trans (hB5.mono hB3.size)).mono hbr.size)
          clear hoc' hb4 hb5 HO3 h_a3
          have a0 : w5.cell? ⟨w2.heap.size, 0, none⟩ = some (.int .i64 q1) := by rw [Lib.cell_of_heap h_a5]; rfl
          have a1 : w5.cell? ⟨w2.heap.size, 1, none⟩ = some (.bool q2) := by rw [Lib.cell_of_heap h_a5]; rfl
          have a2 : w5.cell? ⟨w2.heap.size, 2, none⟩ = some (.int .i64 q3) := by rw [Lib.cell_of_heap h_a5]; rfl
          have a3 : w5.cell? ⟨w2.heap.size, 3, none⟩ = some (.int .i64 q4) := by rw [Lib.cell_of_heap h_a5]; rfl
          have b0 : w5.cell? ⟨w4.heap.size, 0, none⟩ = some (.int .i64 q1) := by rw [Lib.cell_of_heap h_b5]; rfl
          have b1 : w5.cell? ⟨w4.heap.size, 1, none⟩ = some (.bool q2) := by rw [Lib.cell_of_heap h_b5]; rfl
          have b2 : w5.cell? ⟨w4.heap.size, 2, none⟩ = some (.int .i64 q3) := by rw [Lib.cell_of_heap h_b5]; rfl
          have b3 : w5.cell? ⟨w4.heap.size, 3, none⟩ = some (.int .i64 q4) := by rw [Lib.cell_of_heap h_b5]; rfl
          go_wp2_with (rw [← HX5.out])
          refine (HS.out).mono ?_
          rintro e w6 ⟨rfl, hb6⟩
          have hB6 := hBB.trans (hb6.mono hBB.size)
          clear a0 a1 a2 a3 b0 b1 b2 b3
          go_wp2_with fail
          refine (HW.out _ hB6).mono ?_
          rintro e w7 ⟨rfl, hb7⟩
          go_wp2_with fail
          go_ret
          exact ⟨rfl, hB6.trans (hb7.mono hB6.size)⟩
end Go.Proofs.YtafhjlfnhgkcoaaDoor.foldsEpochsW
