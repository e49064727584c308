/-
  The walk of the law FoldsState: it returns true and writes nothing that was there.
-/
import Derived.Test.YtafhjlfnhgkcoaaDoorFoCtr
namespace Go.Proofs.YtafhjlfnhgkcoaaDoor.foldsStateW
open Go.RowKit Go.Sort Go.Maps
/-- The state behind the first so many outcomes' events, and how many these are. -/
theorem many_next {es : List En} {k : Nat} (hk : k < es.length) : ∃ x, (upTo es (k + 1)).2 = (upTo es k).2 ++ [x] ∧ (foldL es).2[k]? = some x ∧
    ((x.evs = [] ∧ (upTo es (k + 1)).1 = (upTo es k).1 ∧ evsN (upTo es (k + 1)).2 = evsN (upTo es k).2) ∨
     (∃ e, x.evs = [e] ∧ app (upTo es k).1 e = (upTo es (k + 1)).1 ∧ evsN (upTo es (k + 1)).2 = evsN (upTo es k).2 + 1 ∧ x.code = 1 ∧ x.ver = (evsN (upTo es k).2 : Int) + 1)) := by
  have hv := upTo_ver (l := es) (i := k) (by omega)
  have hg : (foldL es).2[k]? = (upTo es (k + 1)).2[k]? := upTo_get hk (Nat.le_refl _)
  have hl := upTo_len (l := es) (i := k) (by omega)
  cases hf : firstAt (es.take k) es[k].o.id with
  | some j =>
    refine ⟨_, by rw [upTo_hit hk hf], ?_, .inl ⟨rfl, by rw [upTo_hit hk hf], ?_⟩⟩
    · rw [hg, upTo_hit hk hf, List.getElem?_append_right (by omega), hl, Nat.sub_self]; rfl
    · rw [upTo_hit hk hf]; simp [evsN, again]
  | none =>
    have hu := upTo_miss hk hf
    refine ⟨decide_ (upTo es k).1 es[k].o, by rw [hu], ?_, ?_⟩
    · rw [hg, hu, List.getElem?_append_right (by omega), hl, Nat.sub_self]; rfl
    · rcases decide_apps (upTo es k).1 es[k].o with ⟨h1, h2⟩ | ⟨e, h1, h2, h3, h4, h5⟩
      · exact .inl ⟨h1, by rw [hu]; exact h2, by rw [hu]; simp [evsN, h1]⟩
      · refine .inr ⟨e, h1, ?_, by rw [hu]; simp [evsN, h1], h3, by rw [h4, hv]⟩
        rw [hu, app_yes h2]
        exact h5.symm
theorem evsN_le : ∀ (es : List En) (k : Nat), k ≤ es.length → evsN (upTo es k).2 ≤ k
  | _, 0, _ => Nat.le_refl _
  | es, k + 1, h => by
    obtain ⟨x, -, -, h1⟩ := many_next (es := es) (k := k) (by omega)
    have ih := evsN_le es k (by omega)
    rcases h1 with ⟨_, _, h3⟩ | ⟨e, _, _, h3, _⟩ <;> omega
set_option maxRecDepth 100000 in
set_option maxHeartbeats 8000000 in
theorem walk (A : Option Addr) (c : Nat) (es : List En) (w : World) (hA : Asked w) (ha : EsB w.heap.size w (.slice A es.length c) es) (hi : ∀ e ∈ es, IntsOk e.l) : Calls Tryd.prog 6 #[.slice A es.length c] w (fun e w' => e = .returned (.bool true) ∧ Below w.heap.size w w') := by
  by_cases hn : 300 < es.length
  · have h1 : decide (300 < (es.length : Int)) = true := decide_eq_true (by omega)
    have h2 : (300 : Int) < (es.length : Int) := by omega
    clear ha hA
    go_enter Tryd.func6, Tryd.ntmps6
    go_wp2_with fail
    go_ret
    exact ⟨rfl, Below.refl _ _⟩
  · have t1 : decide (300 < (es.length : Int)) = false := decide_eq_false (by omega)
    have t2 : ¬ (300 : Int) < (es.length : Int) := by omega
    have hn3 : es.length ≤ 300 := by omega
    have HA := Lib.hid hA
    have HW := Lib.hid (fun X hX => foWorks_any X (HA.out.keep hX))
    have H1 := ofp_any ha hi (Nat.le_refl _) hA (by omega)
    unfold OfP at H1
    simp only [St.v] at H1
    replace H1 := Lib.hid H1
    have hol := foldL_len es
    have hver := upTo_ver (l := es) (i := es.length) (Nat.le_refl _)
    have HMN := Lib.hid (fun k (hk : k < es.length) => many_next (es := es) hk)
    have HLE := Lib.hid (fun k (hk : k ≤ es.length) => evsN_le es k hk)
    clear ha hA hn hi
    go_enter Tryd.func6, Tryd.ntmps6
    go_wp2_with fail
    refine (H1.out).mono ?_
    rintro e w1 ⟨g, rfl, hoc, hg1, hg2, hb1⟩
    obtain ⟨w3, HX3⟩ : ∃ W : World, Hid (W = (w1.alloc (.cells #[.int .i64 (foldL es).1.tag, .bool (foldL es).1.cl, .int .i64 (foldL es).1.sum, .int .i64 (foldL es).1.ver] 25)).alloc (.cells #[.int .i64 0, .bool false, .int .i64 0, .int .i64 0] 25)) := ⟨_, Lib.hid rfl⟩
    obtain ⟨hz3, hb3, h_s3, h_t3⟩ := two_blocks HX3.out
    replace hz3 : w1.heap.size + 2 ≤ w3.heap.size := by omega
    have HO3 := Lib.hid (fun X (hX : Below (w1.heap.size + 1) w3 X) => hoc.below (hb3.trans (hX.mono (by omega))) (Nat.le_refl _))
    have hB3 := hb1.trans (hb3.mono hb1.size)
    clear hoc
    have hs1 := hb1.size
    go_wp2_with (rw [← HX3.out])
    go_loopw [2, 6, 7] (fun r m i wr => ∃ k : Nat, k ≤ es.length ∧ r = .bool false ∧ i = .int .i64 k ∧ m = .int .i64 (evsN (upTo es k).2 : Int) ∧ Below (w1.heap.size + 1) w3 wr ∧ wr.heap[w1.heap.size + 1]? = some (.cells #[.int .i64 (upTo es k).1.tag, .bool (upTo es k).1.cl, .int .i64 (upTo es k).1.sum, .int .i64 (upTo es k).1.ver] 25 (0, 0))) (fun _ _ i _ => es.length - (intOf i).toNat)
    case atStart => exact ⟨0, Nat.zero_le _, rfl, rfl, rfl, Below.refl _ _, h_t3⟩
    case round =>
      obtain ⟨k, hk, rfl, rfl, rfl, hbr, h_t⟩ := hrel
      have hsr := hbr.size
      by_cases hlt : k < es.length
      · obtain ⟨x, -, hx, hway⟩ := HMN.out k hlt
        obtain ⟨g', c', hv, hga, hgb, hoc⟩ := OcsB.cells (HO3.out wr hbr) (k := k) (by omega)
        injection hv with e1 e2 e3
        injection e1 with e1
        injection e1 with e1
        subst e1 e3
        clear e2
        rw [List.getElem?_eq_getElem (by omega)] at hx
        injection hx with hx
        rw [hx] at hoc
        obtain ⟨V, b0, b1, b2, b3⟩ := hoc
        rw [Nat.zero_add] at b0 b1 b2
        have hii : (k : Int) < (es.length : Int) := by omega
        have hle := HLE.out k hk
        clear hx HMN HLE
        rcases hway with ⟨hn0, hst, hev⟩ | ⟨ev, hn1, hst, hev, hcd, hvv⟩
        · obtain rfl : V = .slice none 0 0 := by
            rcases b3 with ⟨_, h⟩ | ⟨e, q, h, _⟩
            · exact h
            · rw [hn0] at h; cases h
          rw [← hst] at h_t
          rw [← hev]
          rw [← hev] at hle
          have HT := Lib.hid h_t
          have hE1 := Lib.hid (rfl : evsN (upTo es (k + 1)).2 = evsN (upTo es (k + 1)).2)
          clear b3 hst hev h_t hn0 hver hol
          generalize hmm : evsN (upTo es (k + 1)).2 = mm at *
          replace hmm := Lib.hid hmm
          have hcs : (x.code == 1) = true ∨ (x.code == 1) = false := by cases (x.code == 1) <;> simp
          generalize x.code = xc at *
          generalize x.ver = xv at *
          rcases hcs with hcs | hcs
          all_goals
            go_wp2_with fail
            refine wp_loop_rounds 1 ?_
            rw [rounds_succ]
            go_wp2_with fail
            go_roundw
            case rel => exact ⟨k + 1, by omega, rfl, by go_num, by rw [hmm.out], hbr, HT.out⟩
            case measure => simp [intOf]; omega
        · obtain ⟨q, rfl, hq1, hq2, hq⟩ : ∃ q, V = .slice (some ⟨q, 0, none⟩) 1 1 ∧ w.heap.size ≤ q ∧ q < w1.heap.size ∧ wr.heap[q]? = some (.cells #[.int .i64 ev.k, .int .i64 ev.a] 35 (0, 0)) := by
            rcases b3 with ⟨h, _⟩ | ⟨e, q, h, h2, h3, h4, h5⟩
            · rw [hn1] at h; cases h
            · rw [hn1] at h
              injection h with h
              subst h
              exact ⟨q, h2, h3, h4, h5⟩
          have hv2 := upTo_ver (l := es) (i := k + 1) hlt
          rw [hev] at hv2
          have HP := Lib.hid (fun X => apply_any (upTo es k).1 ev X)
          rw [hst] at HP
          have HEV := Lib.hid hev
          have HS' := Lib.hid (rfl : (upTo es (k + 1)).1 = (upTo es (k + 1)).1)
          generalize hgs : (upTo es (k + 1)).1 = s' at *
          replace HS' := Lib.hid hgs
          generalize (upTo es k).1 = s at *
          obtain ⟨k1, k2⟩ := ev
          obtain ⟨t, cl, x1, v⟩ := s
          obtain ⟨t', cl', x1', v'⟩ := s'
          dsimp only [St.v, Ev.v] at HP h_t hv2 hq
          rw [hcd] at b0
          rw [hvv] at b1
          generalize hmm : evsN (upTo es k).2 = mm at *
          obtain rfl : v' = (mm : Int) + 1 := by rw [hv2]; omega
          clear b3 hst hev hn1 hver hol hv2 hgs hmm hcd hvv
          have hgr : g < wr.heap.size := by omega
          have c0 : wr.cell? ⟨w1.heap.size + 1, 0, none⟩ = some (.int .i64 t) := by rw [Lib.cell_of_heap h_t]; rfl
          have c1 : wr.cell? ⟨w1.heap.size + 1, 1, none⟩ = some (.bool cl) := by rw [Lib.cell_of_heap h_t]; rfl
          have c2 : wr.cell? ⟨w1.heap.size + 1, 2, none⟩ = some (.int .i64 x1) := by rw [Lib.cell_of_heap h_t]; rfl
          have c3 : wr.cell? ⟨w1.heap.size + 1, 3, none⟩ = some (.int .i64 v) := by rw [Lib.cell_of_heap h_t]; rfl
          have q0 : wr.cell? ⟨q, 0, none⟩ = some (.int .i64 k1) := by rw [Lib.cell_of_heap hq]; rfl
          have q1 : wr.cell? ⟨q, 1, none⟩ = some (.int .i64 k2) := by rw [Lib.cell_of_heap hq]; rfl
          have ft : ∀ i, wr.frozen? ⟨w1.heap.size + 1, i, none⟩ = false := fun i => Lib.frozen_of_heap h_t i
          go_wp2_with fail
          refine wp_loop_rounds 2 ?_
          rw [rounds_succ]
          go_wp2_with fail
          go_region_with ((go_at_call 18; (refine (HP.out _).mono ?_); rintro e w4 ⟨rfl, hb⟩; have h_t4 := (hb.block (w1.heap.size + 1) (by show w1.heap.size + 1 < wr.heap.size; omega)).trans h_t; have d0 : w4.cell? ⟨w1.heap.size + 1, 0, none⟩ = some (.int .i64 t) := (by rw [Lib.cell_of_heap h_t4]; rfl); have d1 : w4.cell? ⟨w1.heap.size + 1, 1, none⟩ = some (.bool cl) := (by rw [Lib.cell_of_heap h_t4]; rfl); have d2 : w4.cell? ⟨w1.heap.size + 1, 2, none⟩ = some (.int .i64 x1) := (by rw [Lib.cell_of_heap h_t4]; rfl); have d3 : w4.cell? ⟨w1.heap.size + 1, 3, none⟩ = some (.int .i64 v) := (by rw [Lib.cell_of_heap h_t4]; rfl); have df : ∀ i, w4.frozen? ⟨w1.heap.size + 1, i, none⟩ = false := (fun i => Lib.frozen_of_heap h_t4 i)))
          all_goals
            have hb4 : Below wr.heap.size wr w4 := (show Below wr.heap.size wr wr.drew from (Below.refl _ _).drew).trans hb
            have hs4 : wr.heap.size ≤ w4.heap.size := hb4.size
            clear hb
            obtain ⟨w5, HW5⟩ : ∃ W : World, Hid (W = (((w4.setCell ⟨w1.heap.size + 1, 0, none⟩ (.int .i64 t')).setCell ⟨w1.heap.size + 1, 1, none⟩ (.bool cl')).setCell ⟨w1.heap.size + 1, 2, none⟩ (.int .i64 x1')).setCell ⟨w1.heap.size + 1, 3, none⟩ (.int .i64 ((mm : Int) + 1))) := ⟨_, Lib.hid rfl⟩
            obtain ⟨h_t5, hb5, hz5, hoth5⟩ := set_four (n := w1.heap.size + 1) h_t4 (Nat.le_refl _) HW5.out
            rw [← HW5.out]
            have hbr5 := Lib.hid (hbr.trans ((hb4.mono (by omega)).trans hb5))
            have b0' := (cell_heap (j := k * 3) ((hoth5 g (by omega)).trans (hb4.block g hgr))).trans b0
            have b1' := (cell_heap (j := k * 3 + 1) ((hoth5 g (by omega)).trans (hb4.block g hgr))).trans b1
            have b2' := (cell_heap (j := k * 3 + 2) ((hoth5 g (by omega)).trans (hb4.block g hgr))).trans b2
            clear HW5 d0 d1 d2 d3 df c0 c1 c2 c3 ft q0 q1 hz5 hb4 hb5 hoth5 hs4
            have c3 : w5.cell? ⟨w1.heap.size + 1, 3, none⟩ = some (.int .i64 ((mm : Int) + 1)) := by rw [Lib.cell_of_heap h_t5]; rfl
            go_wp2_with fail
            rw [rounds_succ]
            go_wp2_with fail
            go_roundw
            case rel => exact ⟨k + 1, by omega, rfl, by go_num, by rw [HEV.out]; rfl, hbr5.out, by rw [HS'.out]; exact h_t5⟩
            case measure => simp [intOf]; omega
      · obtain rfl : k = es.length := by omega
        have hst : Hid ((foldL es).1 = (upTo es es.length).1) := Lib.hid rfl
        have hvv : (foldL es).1.ver = (evsN (upTo es es.length).2 : Int) := hver
        have h_s := (hbr.block w1.heap.size (by omega)).trans h_s3
        have hB := hB3.trans (hbr.mono (by omega))
        rw [show (upTo es es.length).1 = (foldL es).1 from rfl] at h_t
        generalize evsN (upTo es es.length).2 = mm at *
        clear hst HMN HLE HO3 hver hol H1 HX3
        generalize hgs : (foldL es).1 = s at *
        clear hgs
        obtain ⟨t, cl, x1, v⟩ := s
        dsimp only at hvv h_t h_s
        subst hvv
        have c0 : wr.cell? ⟨w1.heap.size + 1, 0, none⟩ = some (.int .i64 t) := by rw [Lib.cell_of_heap h_t]; rfl
        have c1 : wr.cell? ⟨w1.heap.size + 1, 1, none⟩ = some (.bool cl) := by rw [Lib.cell_of_heap h_t]; rfl
        have c2 : wr.cell? ⟨w1.heap.size + 1, 2, none⟩ = some (.int .i64 x1) := by rw [Lib.cell_of_heap h_t]; rfl
        have c3 : wr.cell? ⟨w1.heap.size + 1, 3, none⟩ = some (.int .i64 (mm : Int)) := by rw [Lib.cell_of_heap h_t]; rfl
        have d0 : wr.cell? ⟨w1.heap.size, 0, none⟩ = some (.int .i64 t) := by rw [Lib.cell_of_heap h_s]; rfl
        have d1 : wr.cell? ⟨w1.heap.size, 1, none⟩ = some (.bool cl) := by rw [Lib.cell_of_heap h_s]; rfl
        have d2 : wr.cell? ⟨w1.heap.size, 2, none⟩ = some (.int .i64 x1) := by rw [Lib.cell_of_heap h_s]; rfl
        have d3 : wr.cell? ⟨w1.heap.size, 3, none⟩ = some (.int .i64 (mm : Int)) := by rw [Lib.cell_of_heap h_s]; rfl
        go_wp2_with fail
        refine (HW.out _ hB).mono ?_
        rintro e w5 ⟨rfl, hb5⟩
        go_wp2_with fail
        go_ret
        exact ⟨rfl, hB.trans (hb5.mono hB.size)⟩
end Go.Proofs.YtafhjlfnhgkcoaaDoor.foldsStateW
