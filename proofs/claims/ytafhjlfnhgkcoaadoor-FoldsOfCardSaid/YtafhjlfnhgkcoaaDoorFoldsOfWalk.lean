/-
  The walk of the law FoldsOf: it returns true and writes nothing that was there.
-/
import Derived.Test.YtafhjlfnhgkcoaaDoorFoCtr
namespace Go.Proofs.YtafhjlfnhgkcoaaDoor.foldsOfW
open Go.RowKit Go.Sort Go.Maps
/-- Where the events of outcome j stand, whatever they read as. -/
def EvW (lo hi : Nat) (w : World) (V : Value) : Prop := V = .slice none 0 0 ∨ ∃ q a b, V = .slice (some ⟨q, 0, none⟩) 1 1 ∧ lo ≤ q ∧ q < hi ∧ w.heap[q]? = some (.cells #[a, b] 35 (0, 0))
/-- The row that is written into: from place k on its events' slices stand. -/
structure Spo (w7 : World) (g n lo hi k : Nat) (wr : World) : Prop where
  bel : Below g w7 wr
  size : wr.heap.size = w7.heap.size
  far : ∀ b, hi ≤ b → wr.heap[b]? = w7.heap[b]?
  row : ∃ cur, wr.heap[g]? = some (.cells cur 33 (0, 0)) ∧ cur.size = n * 3
  evs : ∀ j, k ≤ j → j < n → ∃ V, wr.cell? ⟨g, j * 3 + 2, none⟩ = some V ∧ EvW lo hi wr V
theorem spo_code {w7 wr : World} {g n lo hi k : Nat} {u : Value} (h : Spo w7 g n lo hi k wr) (_ : k < n) (hlo : g < lo) (hgh : g < hi) : Spo w7 g n lo hi (k + 1) (wr.setCell ⟨g, k * 3, none⟩ u) := by
  have hoth : ∀ b, b ≠ g → (wr.setCell ⟨g, k * 3, none⟩ u).heap[b]? = wr.heap[b]? := fun b hb => Below.heap_setCell _ _ _ _ hb
  obtain ⟨cur, hc, hcs⟩ := h.row
  have hnew := heap_setCell_same wr g (k * 3) cur 33 u hc
  refine ⟨h.bel.trans ((Below.refl g wr).setCell (p := ⟨g, k * 3, none⟩) (Nat.le_refl g) u), by simp [World.setCell, h.size], fun b hb => (hoth b (by omega)).trans (h.far b hb), ⟨_, hnew, by simpa using hcs⟩, fun j hj hjn => ?_⟩
  obtain ⟨V, h1, h2⟩ := h.evs j (by omega) hjn
  refine ⟨V, ?_, ?_⟩
  · rw [Lib.cell_of_heap hc] at h1
    rw [Lib.cell_of_heap hnew, Array.getElem?_setIfInBounds_ne (by omega)]; exact h1
  · rcases h2 with h2 | ⟨q, a, b, h2, h3, h4, h5⟩
    · exact .inl h2
    · exact .inr ⟨q, a, b, h2, h3, h4, (hoth q (by omega)).trans h5⟩
theorem spo_event {w7 wr wx : World} {g n lo hi k q : Nat} {a b a' b' : Value} (h : Spo w7 g n lo hi k wr) (hq : wr.heap[q]? = some (.cells #[a, b] 35 (0, 0))) (hlo : lo ≤ q) (hgl : g < lo) (hqh : q < hi)
    (hx : wx = (wr.setCell ⟨q, 0, none⟩ a').setCell ⟨q, 1, none⟩ b') : Spo w7 g n lo hi k wx := by
  obtain ⟨h1, h2, h3, h4⟩ := set_two (n := g) hq (by omega) hx
  refine ⟨h.bel.trans h2, by rw [h3, h.size], fun b hb => (h4 b (by omega)).trans (h.far b hb), ?_, fun j hj hjn => ?_⟩
  · obtain ⟨cur, hc, hcs⟩ := h.row
    exact ⟨cur, (h4 g (by omega)).trans hc, hcs⟩
  · obtain ⟨V, h5, h6⟩ := h.evs j hj hjn
    refine ⟨V, (cell_heap (h4 g (by omega))).trans h5, ?_⟩
    rcases h6 with h6 | ⟨q', x, y, h6, h7, h8, h9⟩
    · exact .inl h6
    · by_cases e : q' = q
      · subst e; exact .inr ⟨q', _, _, h6, h7, h8, h1⟩
      · exact .inr ⟨q', x, y, h6, h7, h8, (h4 q' e).trans h9⟩
set_option maxRecDepth 100000 in
set_option maxHeartbeats 8000000 in
theorem walk (A : Option Addr) (c : Nat) (es : List En) (w : World) (hA : Asked w) (ha : EsB w.heap.size w (.slice A es.length c) es) (hi : ∀ e ∈ es, IntsOk e.l) : Calls Tryd.prog 3 #[.slice A es.length c] w (fun e w' => e = .returned (.bool true) ∧ Below w.heap.size w w') := by
  by_cases hn : 500 < es.length
  · have h1 : decide (500 < (es.length : Int)) = true := decide_eq_true (by omega)
    have h2 : (500 : Int) < (es.length : Int) := by omega
    clear ha hA
    go_enter Tryd.func3, Tryd.ntmps3
    go_wp2_with fail
    go_ret
    exact ⟨rfl, Below.refl _ _⟩
  · have t1 : decide (500 < (es.length : Int)) = false := decide_eq_false (by omega)
    have t2 : ¬ (500 : Int) < (es.length : Int) := by omega
    have hn5 : es.length ≤ 500 := by omega
    have HT := Lib.hid (twin_any ha (Nat.le_refl _) (by omega))
    have HA := Lib.hid hA
    have HL := Lib.hid (fun X (hX : Below w.heap.size w X) => (RdB.below ha hX (Nat.le_refl _) : EsB _ X _ es))
    have HW := Lib.hid (fun X hX => foWorks_any X (HA.out.keep hX))
    have HR := Lib.hid (fun X (hX : Below w.heap.size w X) => rof_any (w := X) (HL.out X hX) hX.size (by omega))
    have hol := foldL_len es
    clear ha hA hn
    go_enter Tryd.func3, Tryd.ntmps3
    go_wp2_with fail
    refine (HT.out).mono ?_
    rintro e w1 ⟨gt, ct, rfl, hg1, hg2, hc1, hc2, hE, h7, hb1⟩
    have HE := Lib.hid (fun X (hX : Below w1.heap.size w1 X) => (RdB.below hE hX (Nat.le_refl _) : EsB _ X _ es))
    have HF := Lib.hid (fun X (hX : Below w1.heap.size w1 X) => of_any (w := X) (HE.out X hX) hi hX.size (HA.out.keep (hb1.trans (hX.mono hb1.size))) (by omega))
    have HLF := Lib.hid (fun X (hX : Below w1.heap.size w1 X) => left_any (RdB.mono (HE.out X hX) hX.size) hc1 hc2 ((hX.cell (p := ⟨gt, es.length * 6, none⟩) hg2).trans h7) (HL.out X (hb1.trans (hX.mono hb1.size))) (by omega))
    have hct : es.length ≤ ct := by omega
    unfold maxLen at hc2
    clear hE h7 HT HL HE hi
    go_wp2_with fail
    refine (HF.out _ (Below.refl _ _)).mono ?_
    rintro e w2 ⟨g, rfl, hg3, hg4, hrow, hocs, hb2⟩
    simp only [St.v]
    rw [hol]
    rw [hol] at hrow
    have hoc2 := OfPost.ocs (os := (foldL es).2) (by omega) hg3 hg4 hocs
    rw [hol] at hoc2
    obtain ⟨w3, HX3⟩ : ∃ W : World, Hid (W = w2.alloc (.cells #[.int .i64 (foldL es).1.tag, .bool (foldL es).1.cl, .int .i64 (foldL es).1.sum, .int .i64 (foldL es).1.ver] 25)) := ⟨_, Lib.hid rfl⟩
    have h_a3 : w3.heap[w2.heap.size]? = some (.cells #[.int .i64 (foldL es).1.tag, .bool (foldL es).1.cl, .int .i64 (foldL es).1.sum, .int .i64 (foldL es).1.ver] 25 (0, 0)) := by rw [HX3.out]; exact heap_alloc_new _ _
    have hb3 : Below w2.heap.size w2 w3 := by rw [HX3.out]; exact (Below.refl _ _).alloc (Nat.le_refl _) _
    have hz3 : w2.heap.size < w3.heap.size := lt_of_block h_a3
    have hB3 := hb2.trans (hb3.mono hb2.size)
    have hB3' := hb1.trans (hB3.mono hb1.size)
    have HR3 := Lib.hid (HR.out w3 hB3')
    have HO3 := Lib.hid (hoc2.below hb3 (Nat.le_refl _))
    -- the row, as it stands, for the loop
    have hrow3 : ∃ cur, w3.heap[g]? = some (.cells cur 33 (0, 0)) ∧ cur.size = es.length * 3 := by
      obtain ⟨cur, h1, h2⟩ := hrow
      exact ⟨cur, (hb3.block g hg4).trans h1, h2⟩
    have hev3 : ∀ j, j < es.length → ∃ V, w3.cell? ⟨g, j * 3 + 2, none⟩ = some V ∧ EvW (g + 1) w2.heap.size w3 V := fun j hj => by
      obtain ⟨V, _, _, h3, h4⟩ := hocs j (by omega)
      rw [Nat.zero_add] at h3
      refine ⟨V, (hb3.cell (p := ⟨g, j * 3 + 2, none⟩) hg4).trans h3, ?_⟩
      rcases h4 with ⟨_, h⟩ | ⟨e, q, _, h, h5, h6, h7⟩
      · exact .inl h
      · exact .inr ⟨q, _, _, h, h5, h6, (hb3.block q h6).trans h7⟩
    have HRW := Lib.hid hrow3
    have HEV := Lib.hid hev3
    clear hrow hocs hoc2 hb3 hrow3 hev3 HR
    have HF' := HF.out
    unfold OfPost at HF'
    simp only [St.v] at HF'
    have HFF := Lib.hid HF'
    simp only [St.v] at HR3
    clear HF' HF
    generalize (foldL es).1.tag = q1 at *
    generalize (foldL es).1.cl = q2 at *
    generalize (foldL es).1.sum = q3 at *
    generalize (foldL es).1.ver = q4 at *
    generalize (foldL es).2 = os at *
    go_wp2_with (rw [← HX3.out])
    refine (HR3.out).mono ?_
    rintro e w4 ⟨VM, rfl, hm4, hb4⟩
    obtain ⟨w5, HX5⟩ : ∃ W : World, Hid (W = w4.alloc (.cells #[.int .i64 q1, .bool q2, .int .i64 q3, .int .i64 q4] 25)) := ⟨_, Lib.hid rfl⟩
    have h_b5 : w5.heap[w4.heap.size]? = some (.cells #[.int .i64 q1, .bool q2, .int .i64 q3, .int .i64 q4] 25 (0, 0)) := by rw [HX5.out]; exact heap_alloc_new _ _
    have hb5 : Below w4.heap.size w4 w5 := by rw [HX5.out]; exact (Below.refl _ _).alloc (Nat.le_refl _) _
    have hz5 : w4.heap.size < w5.heap.size := lt_of_block h_b5
    have hz4 := hb4.size
    have hB5 := hb4.trans (hb5.mono hb4.size)
    have HM5 := Lib.hid (hm4.below hb5 (Nat.le_refl _))
    have HS := Lib.hid (sameOcs_any (HO3.out.below hB5 (Nat.le_of_lt hz3)) HM5.out (Nat.le_trans (Nat.le_of_lt hz3) hB5.size) hb5.size)
    have h_a5 := (hB5.block _ hz3).trans h_a3
    clear hm4 hb4 hb5 HO3 h_a3 HR3
    have a0 : w5.cell? ⟨w2.heap.size, 0, none⟩ = some (.int .i64 q1) := by rw [Lib.cell_of_heap h_a5]; rfl
    have a1 : w5.cell? ⟨w2.heap.size, 1, none⟩ = some (.bool q2) := by rw [Lib.cell_of_heap h_a5]; rfl
    have a2 : w5.cell? ⟨w2.heap.size, 2, none⟩ = some (.int .i64 q3) := by rw [Lib.cell_of_heap h_a5]; rfl
    have a3 : w5.cell? ⟨w2.heap.size, 3, none⟩ = some (.int .i64 q4) := by rw [Lib.cell_of_heap h_a5]; rfl
    have b0 : w5.cell? ⟨w4.heap.size, 0, none⟩ = some (.int .i64 q1) := by rw [Lib.cell_of_heap h_b5]; rfl
    have b1 : w5.cell? ⟨w4.heap.size, 1, none⟩ = some (.bool q2) := by rw [Lib.cell_of_heap h_b5]; rfl
    have b2 : w5.cell? ⟨w4.heap.size, 2, none⟩ = some (.int .i64 q3) := by rw [Lib.cell_of_heap h_b5]; rfl
    have b3 : w5.cell? ⟨w4.heap.size, 3, none⟩ = some (.int .i64 q4) := by rw [Lib.cell_of_heap h_b5]; rfl
    go_wp2_with (rw [← HX5.out])
    refine (HS.out).mono ?_
    rintro e w6 ⟨rfl, hb6⟩
    clear a0 a1 a2 a3 b0 b1 b2 b3
    have hz6 := hb6.size
    have h_b6 := (hb6.block _ hz5).trans h_b5
    have hB6 := hB5.trans (hb6.mono hB5.size)
    have hB61 := hB3.trans (hB6.mono hB3.size)
    have HM6 := Lib.hid (HM5.out.below hb6 (Nat.le_of_lt hz5))
    clear h_b5 h_a5 hb6 HM5 HS
    go_wp2_with fail
    refine (HLF.out _ hB61).mono ?_
    rintro e w7 ⟨rfl, hb7⟩
    have hz7 := hb7.size
    have h_b7 := (hb7.block _ (by omega)).trans h_b6
    have hB7 := hB6.trans (hb7.mono hB6.size)
    have hB71 := Lib.hid (hB61.trans (hb7.mono hB61.size))
    have HM7 := Lib.hid (HM6.out.below hb7 (by omega))
    have HSP : Hid (Spo w7 g es.length (g + 1) w2.heap.size 0 w7) := Lib.hid (by
      refine ⟨Below.refl _ _, rfl, fun _ _ => rfl, ?_, fun j _ hj => ?_⟩
      · obtain ⟨cur, h1, h2⟩ := HRW.out
        exact ⟨cur, (hB7.block g (by omega)).trans h1, h2⟩
      · obtain ⟨V, h1, h2⟩ := HEV.out j hj
        refine ⟨V, (hB7.cell (p := ⟨g, j * 3 + 2, none⟩) (show g < w3.heap.size by omega)).trans h1, ?_⟩
        rcases h2 with h2 | ⟨q, a, b, h2, h3, h4, h5⟩
        · exact .inl h2
        · exact .inr ⟨q, a, b, h2, h3, h4, (hB7.block q (by omega)).trans h5⟩)
    clear h_b6 hb7 HM6 HRW HEV HLF hB6 hB5 hB61
    go_wp2_with fail
    go_loopw [8] (fun i wr => ∃ k : Nat, k ≤ es.length ∧ i = .int .i64 k ∧ Spo w7 g es.length (g + 1) w2.heap.size k wr) (fun i _ => es.length - (intOf i).toNat)
    case atStart => exact ⟨0, Nat.zero_le _, rfl, HSP.out⟩
    case round =>
      clear HSP
      obtain ⟨k, hk, rfl, hS⟩ := hrel
      by_cases hlt : k < es.length
      · obtain ⟨V, hV, hE⟩ := hS.evs k (Nat.le_refl _) hlt
        obtain ⟨cur, hrow, hcur⟩ := hS.row
        have hii : (k : Int) < (es.length : Int) := by omega
        have hcc : ∃ u, wr.cell? ⟨g, k * 3, none⟩ = some u := by
          rw [Lib.cell_of_heap hrow]
          exact ⟨_, Array.getElem?_eq_getElem (by omega)⟩
        obtain ⟨u, hcu⟩ := hcc
        have hfz : ∀ i, wr.frozen? ⟨g, i, none⟩ = false := fun i => Lib.frozen_of_heap hrow i
        have HSS := Lib.hid hS
        clear hS hrow
        rcases hE with rfl | ⟨q, ea, eb, rfl, hq1, hq2, hq⟩
        · go_wp2_with fail
          refine wp_loop_rounds 1 ?_
          rw [rounds_succ]
          go_wp2_with fail
          go_roundw
          case rel => exact ⟨k + 1, by omega, by go_num, spo_code HSS.out hlt (by omega) (by omega)⟩
          case measure => simp [intOf]; omega
        · have q0 : wr.cell? ⟨q, 0, none⟩ = some ea := by rw [Lib.cell_of_heap hq]; rfl
          have q1' : wr.cell? ⟨q, 1, none⟩ = some eb := by rw [Lib.cell_of_heap hq]; rfl
          have fq : ∀ i, wr.frozen? ⟨q, i, none⟩ = false := fun i => Lib.frozen_of_heap hq i
          go_wp2_with fail
          refine wp_loop_rounds 2 ?_
          rw [rounds_succ]
          go_wp2_with fail
          obtain ⟨wx, HWX⟩ : ∃ W : World, Hid (W = (wr.setCell ⟨q, 0, none⟩ (.int .i64 (-9))).setCell ⟨q, 1, none⟩ (.int .i64 0)) := ⟨_, Lib.hid rfl⟩
          have hSx := spo_event HSS.out hq hq1 (by omega) hq2 HWX.out
          rw [← HWX.out]
          obtain ⟨-, -, -, hoth⟩ := set_two (n := q) hq (Nat.le_refl _) HWX.out
          have hV := (cell_heap (hoth g (by omega))).trans hV
          have hcu := (cell_heap (j := k * 3) (hoth g (by omega))).trans hcu
          obtain ⟨cur', hrow', _⟩ := hSx.row
          have hfz : ∀ i, wx.frozen? ⟨g, i, none⟩ = false := fun i => Lib.frozen_of_heap hrow' i
          have HSX := Lib.hid hSx
          clear hSx hoth q0 q1' fq HWX hrow' hq HSS
          rw [rounds_succ]
          go_wp2_with fail
          go_roundw
          case rel => exact ⟨k + 1, by omega, by go_num, spo_code HSX.out hlt (by omega) (by omega)⟩
          case measure => simp [intOf]; omega
      · have hSz := hS.size
        have hbg : Below g w7 wr := hS.bel
        have hfar := hS.far
        have h_br := (hfar _ (by omega)).trans h_b7
        have HMR := Lib.hid (HM7.out.keep (lo' := w3.heap.size) (hi' := w4.heap.size) (w' := wr) (fun q hq _ => hfar q (by omega)) (Nat.le_refl _) (Nat.le_refl _))
        have hB1r : Below w1.heap.size w1 wr := hB71.out.trans (hbg.mono (by omega))
        have HFW := Lib.hid (HFF.out _ hB1r)
        have HMz : w4.heap.size < wr.heap.size := lt_of_block h_br
        clear hS hfar hbg HFF hB71 HM7 h_b7
        replace hSz : w7.heap.size ≤ wr.heap.size := Nat.le_of_eq hSz.symm
        have HMR' := HMR.out
        go_wp2_with fail
        refine (HFW.out).mono ?_
        rintro e w8 ⟨g8, rfl, hg5, hg6, -, hocs8, hb8⟩
        have hoc8 := OfPost.ocs (os := os) (by omega) hg5 hg6 hocs8
        rw [hol] at hoc8 ⊢
        clear hocs8
        have h_b8 := (hb8.block _ HMz).trans h_br
        have hs8 := hb8.size
        obtain ⟨w9, HX9⟩ : ∃ W : World, Hid (W = w8.alloc (.cells #[.int .i64 q1, .bool q2, .int .i64 q3, .int .i64 q4] 25)) := ⟨_, Lib.hid rfl⟩
        have h_c9 : w9.heap[w8.heap.size]? = some (.cells #[.int .i64 q1, .bool q2, .int .i64 q3, .int .i64 q4] 25 (0, 0)) := by rw [HX9.out]; exact heap_alloc_new _ _
        have hb9 : Below w8.heap.size w8 w9 := by rw [HX9.out]; exact (Below.refl _ _).alloc (Nat.le_refl _) _
        have h_b9 := (hb9.block _ (by omega)).trans h_b8
        have hB9 := hb8.trans (hb9.mono hb8.size)
        have hs9 := hb9.size
        have HS9 := Lib.hid (sameOcs_any (hoc8.below hb9 (Nat.le_refl _)) (HMR'.below hB9 (Nat.le_of_lt HMz)) hs9 (by omega))
        have hB19 := hb1.trans ((hB1r.trans (hB9.mono hB1r.size)).mono hb1.size)
        clear hoc8 hb8 hb9 h_b8 h_br HMR' HMR
        have a0 : w9.cell? ⟨w8.heap.size, 0, none⟩ = some (.int .i64 q1) := by rw [Lib.cell_of_heap h_c9]; rfl
        have a1 : w9.cell? ⟨w8.heap.size, 1, none⟩ = some (.bool q2) := by rw [Lib.cell_of_heap h_c9]; rfl
        have a2 : w9.cell? ⟨w8.heap.size, 2, none⟩ = some (.int .i64 q3) := by rw [Lib.cell_of_heap h_c9]; rfl
        have a3 : w9.cell? ⟨w8.heap.size, 3, none⟩ = some (.int .i64 q4) := by rw [Lib.cell_of_heap h_c9]; rfl
        have b0 : w9.cell? ⟨w4.heap.size, 0, none⟩ = some (.int .i64 q1) := by rw [Lib.cell_of_heap h_b9]; rfl
        have b1 : w9.cell? ⟨w4.heap.size, 1, none⟩ = some (.bool q2) := by rw [Lib.cell_of_heap h_b9]; rfl
        have b2 : w9.cell? ⟨w4.heap.size, 2, none⟩ = some (.int .i64 q3) := by rw [Lib.cell_of_heap h_b9]; rfl
        have b3 : w9.cell? ⟨w4.heap.size, 3, none⟩ = some (.int .i64 q4) := by rw [Lib.cell_of_heap h_b9]; rfl
        go_wp2_with (rw [← HX9.out])
        refine (HS9.out).mono ?_
        rintro e w10 ⟨rfl, hb10⟩
        have hB10 := hB19.trans (hb10.mono hB19.size)
        clear a0 a1 a2 a3 b0 b1 b2 b3
        go_wp2_with fail
        refine (HW.out _ hB10).mono ?_
        rintro e w11 ⟨rfl, hb11⟩
        go_wp2_with fail
        go_ret
        exact ⟨rfl, hB10.trans (hb11.mono hB10.size)⟩
end Go.Proofs.YtafhjlfnhgkcoaaDoor.foldsOfW
