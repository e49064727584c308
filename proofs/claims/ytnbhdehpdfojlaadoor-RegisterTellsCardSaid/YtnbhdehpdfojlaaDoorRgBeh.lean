/-
  behind of package register: what a record makes of a register that may be.
-/
import Derived.Test.YtnbhdehpdfojlaaDoorRgView
namespace Go.Proofs.YtnbhdehpdfojlaaDoor
open Go.RowKit Go.Sort
set_option maxRecDepth 100000 in
set_option maxHeartbeats 8000000 in
theorem beh_1 (p v : Int) (m : Nat) (st ep vi fr le : Int) (es xs : List En) (A XA FA : Option Addr) (c xc fn fc : Nat) (w : World) (ha : EsB w.heap.size w (.slice A es.length c) es) (hx : EsB w.heap.size w (.slice XA xs.length xc) xs) (_ : m ≤ es.length) (_ : es.length ≤ 100000) (_ : xs.length ≤ 100000) :
    Calls Tryd.prog 23 #[.agg #[.int .i64 p, .int .i64 v, .slice A es.length c, .int .i64 (m : Int)], .agg #[.int .i64 1, .int .i64 st, .int .i64 ep, .int .i64 vi, .int .i64 fr, .int .i64 le, .slice XA xs.length xc, .slice FA fn fc]] w (BehPost (⟨ep, v, es, m⟩, decide (p < ep)) w) := by
  obtain ⟨w1, HX1⟩ : ∃ W : World, Hid (W = ((w.alloc (.cells #[.int .i64 p, .int .i64 v, .slice A es.length c, .int .i64 (m : Int)] 24)).alloc (.cells #[.int .i64 1, .int .i64 st, .int .i64 ep, .int .i64 vi, .int .i64 fr, .int .i64 le, .slice XA xs.length xc, .slice FA fn fc] 27)).alloc (.cells #[.int .i64 0, .int .i64 0, .slice none 0 0, .int .i64 0] 24)) := ⟨_, Lib.hid rfl⟩
  obtain ⟨hz1, hb1, hg1, hr1, hq1⟩ := three_new HX1.out
  obtain ⟨n0, n1, n2, n3⟩ := box4 hg1
  obtain ⟨m0, m1, m2, m3, m4, m5, m6, m7⟩ := box8 hr1
  have hE1 := keepE hb1 ha
  have hF1 := keepE hb1 hx
  clear ha hx
  obtain ⟨w2, HST, hq2, hbl, hzz, hoth⟩ := rg_store w.heap.size p v A es.length c (m : Int) hq1 rfl (by omega)
  have hg2 := (hoth w.heap.size (by omega)).trans hg1
  have hr2 := (hoth (w.heap.size + 1) (by omega)).trans hr1
  have hE2 := es_store hE1 hq1 (by simp) hoth hzz
  have hF2 := es_store hF1 hq1 (by simp) hoth hzz
  have hW2 := hb1.trans hbl
  have hz2 := hzz.trans hz1
  clear hg1 hr1 hq1 hE1 hF1 hbl hzz hoth hb1
  obtain ⟨k0, k1, k2, k3⟩ := box4 hq2
  obtain ⟨j0, j1, j2, j3⟩ := box4 hg2
  obtain ⟨i0, i1, i2, i3, i4, i5, i6, i7⟩ := box8 hr2
  have mf : ∀ i, w2.frozen? ⟨w.heap.size + 1 + 1, i, none⟩ = false := fun i => Lib.frozen_of_heap hq2 i
  obtain ⟨w3, HX3⟩ : ∃ W : World, Hid (W = w2.setCell ⟨w.heap.size + 1 + 1, 0, none⟩ (.int .i64 ep)) := ⟨_, Lib.hid rfl⟩
  have hoth3 : ∀ k, k ≠ w.heap.size + 1 + 1 → w3.heap[k]? = w2.heap[k]? := fun k hk => by rw [HX3.out]; exact Below.heap_setCell _ _ _ _ hk
  have hq3 : w3.heap[w.heap.size + 1 + 1]? = some (.cells #[.int .i64 ep, .int .i64 v, .slice A es.length c, .int .i64 (m : Int)] 24 (0, 0)) := by rw [HX3.out]; exact heap_setCell_same _ _ 0 _ _ _ hq2
  have hzz3 : w3.heap.size = w2.heap.size := by rw [HX3.out]; simp
  have hg3 := (hoth3 w.heap.size (by omega)).trans hg2
  have hr3 := (hoth3 (w.heap.size + 1) (by omega)).trans hr2
  have hE3 := es_store hE2 hq2 (by simp) hoth3 hzz3
  have hW3 : Below w.heap.size w w3 := by rw [HX3.out]; exact hW2.setCell (p := ⟨w.heap.size + 1 + 1, 0, none⟩) (show w.heap.size ≤ w.heap.size + 1 + 1 by omega) _
  have HS : Hid (∀ X : World, X.heap[w.heap.size + 1 + 1]? = some (.cells #[.int .i64 ep, .int .i64 v, .slice A es.length c, .int .i64 (m : Int)] 24 (0, 0)) → X.heap[w.heap.size + 1]? = w3.heap[w.heap.size + 1]? → X.heap[w.heap.size]? = w3.heap[w.heap.size]? → X.cell? ⟨w.heap.size + 1 + 1, 0, none⟩ = some (.int .i64 ep) ∧ X.cell? ⟨w.heap.size + 1 + 1, 1, none⟩ = some (.int .i64 v) ∧ X.cell? ⟨w.heap.size + 1 + 1, 2, none⟩ = some (.slice A es.length c) ∧ X.cell? ⟨w.heap.size + 1 + 1, 3, none⟩ = some (.int .i64 (m : Int)) ∧ X.cell? ⟨w.heap.size + 1, 2, none⟩ = some (.int .i64 ep) ∧ X.cell? ⟨w.heap.size, 0, none⟩ = some (.int .i64 p)) := Lib.hid fun X h1 h2 h3 => by
    have h2' := box8 (h2.trans hr3)
    have h3' := box4 (h3.trans hg3)
    exact ⟨(box4 h1).1, (box4 h1).2.1, (box4 h1).2.2.1, (box4 h1).2.2.2, h2'.2.2.1, h3'.1⟩
  clear hg2 hr2 hq2 hE2 hF2 hW2 hoth3 hzz3
  go_enter Tryd.func23, Tryd.ntmps23
  go_upto_region 5 with (first | (rw [← HX1.out]) | (with_reducible refine wpList_store_known (by rfl) 24 _ _ (by rfl) ⟨w.heap.size + 1 + 1, 0, none⟩ (.agg #[.int .i64 p, .int .i64 v, .slice A es.length c, .int .i64 (m : Int)]) (by with_unfolding_all rfl) (by with_unfolding_all rfl) HST.out ?_) | (rw [← HX3.out]))
  have hq : w3.drew.heap[w.heap.size + 1 + 1]? = _ := hq3
  have hr : w3.drew.heap[w.heap.size + 1]? = w3.heap[w.heap.size + 1]? := rfl
  have hg : w3.drew.heap[w.heap.size]? = w3.heap[w.heap.size]? := rfl
  have hE : EsB w3.drew.heap.size w3.drew _ _ := hE3
  have hW : Below w.heap.size w w3.drew := hW3.drew
  have hH := HS.out _ hq hr hg
  clear n0 n1 n2 n3 m0 m1 m2 m3 m4 m5 m6 m7 k0 k1 k2 k3 j0 j1 j2 j3 i0 i1 i2 i3 i4 i5 i6 i7 mf hE3 hW3 hq3
  refine wp_region_held_drew (S := fun X => X.cell? ⟨w.heap.size + 1 + 1, 0, none⟩ = some (.int .i64 ep) ∧ X.cell? ⟨w.heap.size + 1 + 1, 1, none⟩ = some (.int .i64 v) ∧ X.cell? ⟨w.heap.size + 1 + 1, 2, none⟩ = some (.slice A es.length c) ∧ X.cell? ⟨w.heap.size + 1 + 1, 3, none⟩ = some (.int .i64 (m : Int)) ∧ X.cell? ⟨w.heap.size + 1, 2, none⟩ = some (.int .i64 ep) ∧ X.cell? ⟨w.heap.size, 0, none⟩ = some (.int .i64 p)) (by kernel_rfl) hH (fun hHeld => ?_)
  clear hH
  refine wpAnyH_take (i := 0) (v := .agg #[.int .i64 ep, .int .i64 v, .slice A es.length c, .int .i64 (m : Int)]) rfl (by kernel_rfl) (by kernel_rfl) (by kernel_rfl) (fun _ _ _ h => h) (Or.inl ⟨by rfl, ?_⟩) (by assumption) ?_
  · intro X hX
    obtain ⟨a0, a1, a2, a3, s5, s6⟩ := hX
    go_simp
  try simp only [List.getElem_toArray, List.getElem_cons_zero]
  try simp only [Act.put, List.setIfInBounds_toArray, List.set_cons_zero, List.set_cons_succ]
  refine wpAnyH_take (i := 1) (v := ?_) rfl (by kernel_rfl) (by kernel_rfl) (by kernel_rfl) (fun _ _ _ h => h) (Or.inl ⟨by rfl, ?_⟩) (by assumption) ?_
  rotate_left
  · intro X hX
    go_simp
    try with_reducible rfl
  try simp only [List.getElem_toArray, List.getElem_cons_succ, List.getElem_cons_zero]
  try simp only [Act.put, List.setIfInBounds_toArray, List.set_cons_zero, List.set_cons_succ]
  refine wpAnyH_take (i := 2) (v := .int .i64 ep) rfl (by kernel_rfl) (by kernel_rfl) (by kernel_rfl) (fun _ _ _ h => h) (Or.inl ⟨by rfl, ?_⟩) (by assumption) ?_
  · intro X hX
    obtain ⟨a0, a1, a2, a3, s5, s6⟩ := hX
    go_simp
  try simp only [List.getElem_toArray, List.getElem_cons_succ, List.getElem_cons_zero]
  try simp only [Act.put, List.setIfInBounds_toArray, List.set_cons_zero, List.set_cons_succ]
  refine wpAnyH_take (i := 3) (v := ?_) rfl (by kernel_rfl) (by kernel_rfl) (by kernel_rfl) (fun _ _ _ h => h) (Or.inl ⟨by rfl, ?_⟩) (by assumption) ?_
  rotate_left
  · intro X hX
    go_simp
    try with_reducible rfl
  try simp only [List.getElem_toArray, List.getElem_cons_succ, List.getElem_cons_zero]
  try simp only [Act.put, List.setIfInBounds_toArray, List.set_cons_zero, List.set_cons_succ]
  refine wpAnyH_take (i := 4) (v := .int .i64 p) rfl (by kernel_rfl) (by kernel_rfl) (by kernel_rfl) (fun _ _ _ h => h) (Or.inl ⟨by rfl, ?_⟩) (by assumption) ?_
  · intro X hX
    obtain ⟨a0, a1, a2, a3, s5, s6⟩ := hX
    go_simp
  try simp only [List.getElem_toArray, List.getElem_cons_succ, List.getElem_cons_zero]
  try simp only [Act.put, List.setIfInBounds_toArray, List.set_cons_zero, List.set_cons_succ]
  refine wpAnyH_take (i := 5) (v := ?_) rfl (by kernel_rfl) (by kernel_rfl) (by kernel_rfl) (fun _ _ _ h => h) (Or.inl ⟨by rfl, ?_⟩) (by assumption) ?_
  rotate_left
  · intro X hX
    go_simp
    try with_reducible rfl
  try simp only [List.getElem_toArray, List.getElem_cons_succ, List.getElem_cons_zero]
  try simp only [Act.put, List.setIfInBounds_toArray, List.set_cons_zero, List.set_cons_succ]
  refine wpAnyH_ready (rs := [6]) (by kernel_rfl) (by simp) (AllReadyH.cons rfl (fun K hK => ?_) AllReadyH.nil)
  · obtain ⟨wm, HST, hNew, hbl, hzz, hoth⟩ := rg_store (w.heap.size) (ep) (v) (A) (es.length) (c) ((m : Int)) hq rfl (by omega)
    refine step_store_known rfl 24 _ _ rfl ⟨w.heap.size + 1 + 1, 0, none⟩ (.agg #[.int .i64 (ep), .int .i64 (v), .slice (A) (es.length) (c), .int .i64 ((m : Int))]) (by simp [Act.eval]) (by simp [Act.eval]) HST.out ?_
    replace hr := (hoth _ (by omega)).trans hr
    replace hg := (hoth _ (by omega)).trans hg
    replace hE := es_store hE hq (by simp) hoth hzz
    replace hW := hW.trans hbl
    replace hq := hNew
    clear HST hNew hbl hzz hoth
    have hH := HS.out _ hq hr hg
    refine hK.out _ _ ?_ (fun hHeld => ?_)
    · with_reducible exact hH
    clear hK K hH
    try simp only [List.getElem_toArray, List.getElem_cons_succ, List.getElem_cons_zero]
    try simp only [Act.put]
    refine wpAnyH_take (i := 7) (v := ?_) rfl (by kernel_rfl) (by kernel_rfl) (by kernel_rfl) (fun _ _ _ h => h) (Or.inl ⟨by rfl, ?_⟩) (by assumption) ?_
    rotate_left
    · intro X hX
      go_simp
      try with_reducible rfl
    try simp only [List.getElem_toArray, List.getElem_cons_succ, List.getElem_cons_zero]
    try simp only [Act.put, List.setIfInBounds_toArray, List.set_cons_zero, List.set_cons_succ]
    refine wpAnyH_done (by kernel_rfl) ?_ _
    go_wp2_with fail
    (try simp only [Exit.inBlock, Exit.then]); refine bodyPost_ret (results_row_tmp rfl _ _ (w.heap.size + 1 + 1) 24 #[.int .i64 ep, .int .i64 v, .slice A es.length c, .int .i64 (m : Int)] (0, 0) _ rfl hq Tryd.underlying24 rfl (by kernel_rfl)) rfl ?_
    exact ⟨A, c, rfl, hE, hW⟩
set_option maxRecDepth 100000 in
set_option maxHeartbeats 8000000 in
theorem beh_3 (p v : Int) (m : Nat) (st ep vi fr le : Int) (es xs : List En) (A XA FA : Option Addr) (c xc fn fc : Nat) (w : World) (ha : EsB w.heap.size w (.slice A es.length c) es) (hx : EsB w.heap.size w (.slice XA xs.length xc) xs) (_ : m ≤ es.length) (_ : es.length ≤ 100000) (_ : xs.length ≤ 100000) :
    Calls Tryd.prog 23 #[.agg #[.int .i64 p, .int .i64 v, .slice A es.length c, .int .i64 (m : Int)], .agg #[.int .i64 3, .int .i64 st, .int .i64 ep, .int .i64 vi, .int .i64 fr, .int .i64 le, .slice XA xs.length xc, .slice FA fn fc]] w (BehPost (⟨p, v, es, le⟩, decide ((m : Int) < le)) w) := by
  obtain ⟨w1, HX1⟩ : ∃ W : World, Hid (W = ((w.alloc (.cells #[.int .i64 p, .int .i64 v, .slice A es.length c, .int .i64 (m : Int)] 24)).alloc (.cells #[.int .i64 3, .int .i64 st, .int .i64 ep, .int .i64 vi, .int .i64 fr, .int .i64 le, .slice XA xs.length xc, .slice FA fn fc] 27)).alloc (.cells #[.int .i64 0, .int .i64 0, .slice none 0 0, .int .i64 0] 24)) := ⟨_, Lib.hid rfl⟩
  obtain ⟨hz1, hb1, hg1, hr1, hq1⟩ := three_new HX1.out
  obtain ⟨n0, n1, n2, n3⟩ := box4 hg1
  obtain ⟨m0, m1, m2, m3, m4, m5, m6, m7⟩ := box8 hr1
  have hE1 := keepE hb1 ha
  have hF1 := keepE hb1 hx
  clear ha hx
  obtain ⟨w2, HST, hq2, hbl, hzz, hoth⟩ := rg_store w.heap.size p v A es.length c (m : Int) hq1 rfl (by omega)
  have hg2 := (hoth w.heap.size (by omega)).trans hg1
  have hr2 := (hoth (w.heap.size + 1) (by omega)).trans hr1
  have hE2 := es_store hE1 hq1 (by simp) hoth hzz
  have hF2 := es_store hF1 hq1 (by simp) hoth hzz
  have hW2 := hb1.trans hbl
  have hz2 := hzz.trans hz1
  clear hg1 hr1 hq1 hE1 hF1 hbl hzz hoth hb1
  obtain ⟨k0, k1, k2, k3⟩ := box4 hq2
  obtain ⟨j0, j1, j2, j3⟩ := box4 hg2
  obtain ⟨i0, i1, i2, i3, i4, i5, i6, i7⟩ := box8 hr2
  have mf : ∀ i, w2.frozen? ⟨w.heap.size + 1 + 1, i, none⟩ = false := fun i => Lib.frozen_of_heap hq2 i
  obtain ⟨w3, HX3⟩ : ∃ W : World, Hid (W = w2.setCell ⟨w.heap.size + 1 + 1, 3, none⟩ (.int .i64 le)) := ⟨_, Lib.hid rfl⟩
  have hoth3 : ∀ k, k ≠ w.heap.size + 1 + 1 → w3.heap[k]? = w2.heap[k]? := fun k hk => by rw [HX3.out]; exact Below.heap_setCell _ _ _ _ hk
  have hq3 : w3.heap[w.heap.size + 1 + 1]? = some (.cells #[.int .i64 p, .int .i64 v, .slice A es.length c, .int .i64 le] 24 (0, 0)) := by rw [HX3.out]; exact heap_setCell_same _ _ 3 _ _ _ hq2
  have hzz3 : w3.heap.size = w2.heap.size := by rw [HX3.out]; simp
  have hg3 := (hoth3 w.heap.size (by omega)).trans hg2
  have hr3 := (hoth3 (w.heap.size + 1) (by omega)).trans hr2
  have hE3 := es_store hE2 hq2 (by simp) hoth3 hzz3
  have hW3 : Below w.heap.size w w3 := by rw [HX3.out]; exact hW2.setCell (p := ⟨w.heap.size + 1 + 1, 3, none⟩) (show w.heap.size ≤ w.heap.size + 1 + 1 by omega) _
  have HS : Hid (∀ X : World, X.heap[w.heap.size + 1 + 1]? = some (.cells #[.int .i64 p, .int .i64 v, .slice A es.length c, .int .i64 le] 24 (0, 0)) → X.heap[w.heap.size + 1]? = w3.heap[w.heap.size + 1]? → X.heap[w.heap.size]? = w3.heap[w.heap.size]? → X.cell? ⟨w.heap.size + 1 + 1, 0, none⟩ = some (.int .i64 p) ∧ X.cell? ⟨w.heap.size + 1 + 1, 1, none⟩ = some (.int .i64 v) ∧ X.cell? ⟨w.heap.size + 1 + 1, 2, none⟩ = some (.slice A es.length c) ∧ X.cell? ⟨w.heap.size + 1 + 1, 3, none⟩ = some (.int .i64 le) ∧ X.cell? ⟨w.heap.size + 1, 5, none⟩ = some (.int .i64 le) ∧ X.cell? ⟨w.heap.size, 3, none⟩ = some (.int .i64 (m : Int))) := Lib.hid fun X h1 h2 h3 => by
    have h2' := box8 (h2.trans hr3)
    have h3' := box4 (h3.trans hg3)
    exact ⟨(box4 h1).1, (box4 h1).2.1, (box4 h1).2.2.1, (box4 h1).2.2.2, h2'.2.2.2.2.2.1, h3'.2.2.2⟩
  clear hg2 hr2 hq2 hE2 hF2 hW2 hoth3 hzz3
  go_enter Tryd.func23, Tryd.ntmps23
  go_upto_region 10 with (first | (rw [← HX1.out]) | (with_reducible refine wpList_store_known (by rfl) 24 _ _ (by rfl) ⟨w.heap.size + 1 + 1, 0, none⟩ (.agg #[.int .i64 p, .int .i64 v, .slice A es.length c, .int .i64 (m : Int)]) (by with_unfolding_all rfl) (by with_unfolding_all rfl) HST.out ?_) | (rw [← HX3.out]))
  have hq : w3.drew.heap[w.heap.size + 1 + 1]? = _ := hq3
  have hr : w3.drew.heap[w.heap.size + 1]? = w3.heap[w.heap.size + 1]? := rfl
  have hg : w3.drew.heap[w.heap.size]? = w3.heap[w.heap.size]? := rfl
  have hE : EsB w3.drew.heap.size w3.drew _ _ := hE3
  have hW : Below w.heap.size w w3.drew := hW3.drew
  have hH := HS.out _ hq hr hg
  clear n0 n1 n2 n3 m0 m1 m2 m3 m4 m5 m6 m7 k0 k1 k2 k3 j0 j1 j2 j3 i0 i1 i2 i3 i4 i5 i6 i7 mf hE3 hW3 hq3
  refine wp_region_held_drew (S := fun X => X.cell? ⟨w.heap.size + 1 + 1, 0, none⟩ = some (.int .i64 p) ∧ X.cell? ⟨w.heap.size + 1 + 1, 1, none⟩ = some (.int .i64 v) ∧ X.cell? ⟨w.heap.size + 1 + 1, 2, none⟩ = some (.slice A es.length c) ∧ X.cell? ⟨w.heap.size + 1 + 1, 3, none⟩ = some (.int .i64 le) ∧ X.cell? ⟨w.heap.size + 1, 5, none⟩ = some (.int .i64 le) ∧ X.cell? ⟨w.heap.size, 3, none⟩ = some (.int .i64 (m : Int))) (by kernel_rfl) hH (fun hHeld => ?_)
  clear hH
  refine wpAnyH_take (i := 0) (v := .agg #[.int .i64 p, .int .i64 v, .slice A es.length c, .int .i64 le]) rfl (by kernel_rfl) (by kernel_rfl) (by kernel_rfl) (fun _ _ _ h => h) (Or.inl ⟨by rfl, ?_⟩) (by assumption) ?_
  · intro X hX
    obtain ⟨a0, a1, a2, a3, s5, s6⟩ := hX
    go_simp
  try simp only [List.getElem_toArray, List.getElem_cons_zero]
  try simp only [Act.put, List.setIfInBounds_toArray, List.set_cons_zero, List.set_cons_succ]
  refine wpAnyH_take (i := 1) (v := ?_) rfl (by kernel_rfl) (by kernel_rfl) (by kernel_rfl) (fun _ _ _ h => h) (Or.inl ⟨by rfl, ?_⟩) (by assumption) ?_
  rotate_left
  · intro X hX
    go_simp
    try with_reducible rfl
  try simp only [List.getElem_toArray, List.getElem_cons_succ, List.getElem_cons_zero]
  try simp only [Act.put, List.setIfInBounds_toArray, List.set_cons_zero, List.set_cons_succ]
  refine wpAnyH_take (i := 2) (v := .int .i64 le) rfl (by kernel_rfl) (by kernel_rfl) (by kernel_rfl) (fun _ _ _ h => h) (Or.inl ⟨by rfl, ?_⟩) (by assumption) ?_
  · intro X hX
    obtain ⟨a0, a1, a2, a3, s5, s6⟩ := hX
    go_simp
  try simp only [List.getElem_toArray, List.getElem_cons_succ, List.getElem_cons_zero]
  try simp only [Act.put, List.setIfInBounds_toArray, List.set_cons_zero, List.set_cons_succ]
  refine wpAnyH_take (i := 3) (v := ?_) rfl (by kernel_rfl) (by kernel_rfl) (by kernel_rfl) (fun _ _ _ h => h) (Or.inl ⟨by rfl, ?_⟩) (by assumption) ?_
  rotate_left
  · intro X hX
    go_simp
    try with_reducible rfl
  try simp only [List.getElem_toArray, List.getElem_cons_succ, List.getElem_cons_zero]
  try simp only [Act.put, List.setIfInBounds_toArray, List.set_cons_zero, List.set_cons_succ]
  refine wpAnyH_take (i := 4) (v := .int .i64 (m : Int)) rfl (by kernel_rfl) (by kernel_rfl) (by kernel_rfl) (fun _ _ _ h => h) (Or.inl ⟨by rfl, ?_⟩) (by assumption) ?_
  · intro X hX
    obtain ⟨a0, a1, a2, a3, s5, s6⟩ := hX
    go_simp
  try simp only [List.getElem_toArray, List.getElem_cons_succ, List.getElem_cons_zero]
  try simp only [Act.put, List.setIfInBounds_toArray, List.set_cons_zero, List.set_cons_succ]
  refine wpAnyH_take (i := 5) (v := ?_) rfl (by kernel_rfl) (by kernel_rfl) (by kernel_rfl) (fun _ _ _ h => h) (Or.inl ⟨by rfl, ?_⟩) (by assumption) ?_
  rotate_left
  · intro X hX
    go_simp
    try with_reducible rfl
  try simp only [List.getElem_toArray, List.getElem_cons_succ, List.getElem_cons_zero]
  try simp only [Act.put, List.setIfInBounds_toArray, List.set_cons_zero, List.set_cons_succ]
  refine wpAnyH_ready (rs := [6]) (by kernel_rfl) (by simp) (AllReadyH.cons rfl (fun K hK => ?_) AllReadyH.nil)
  · obtain ⟨wm, HST, hNew, hbl, hzz, hoth⟩ := rg_store (w.heap.size) (p) (v) (A) (es.length) (c) (le) hq rfl (by omega)
    refine step_store_known rfl 24 _ _ rfl ⟨w.heap.size + 1 + 1, 0, none⟩ (.agg #[.int .i64 (p), .int .i64 (v), .slice (A) (es.length) (c), .int .i64 (le)]) (by simp [Act.eval]) (by simp [Act.eval]) HST.out ?_
    replace hr := (hoth _ (by omega)).trans hr
    replace hg := (hoth _ (by omega)).trans hg
    replace hE := es_store hE hq (by simp) hoth hzz
    replace hW := hW.trans hbl
    replace hq := hNew
    clear HST hNew hbl hzz hoth
    have hH := HS.out _ hq hr hg
    refine hK.out _ _ ?_ (fun hHeld => ?_)
    · with_reducible exact hH
    clear hK K hH
    try simp only [List.getElem_toArray, List.getElem_cons_succ, List.getElem_cons_zero]
    try simp only [Act.put]
    refine wpAnyH_take (i := 7) (v := ?_) rfl (by kernel_rfl) (by kernel_rfl) (by kernel_rfl) (fun _ _ _ h => h) (Or.inl ⟨by rfl, ?_⟩) (by assumption) ?_
    rotate_left
    · intro X hX
      go_simp
      try with_reducible rfl
    try simp only [List.getElem_toArray, List.getElem_cons_succ, List.getElem_cons_zero]
    try simp only [Act.put, List.setIfInBounds_toArray, List.set_cons_zero, List.set_cons_succ]
    refine wpAnyH_done (by kernel_rfl) ?_ _
    go_wp2_with fail
    (try simp only [Exit.inBlock, Exit.then]); refine bodyPost_ret (results_row_tmp rfl _ _ (w.heap.size + 1 + 1) 24 #[.int .i64 p, .int .i64 v, .slice A es.length c, .int .i64 le] (0, 0) _ rfl hq Tryd.underlying24 rfl (by kernel_rfl)) rfl ?_
    exact ⟨A, c, rfl, hE, hW⟩
set_option maxRecDepth 100000 in
set_option maxHeartbeats 8000000 in
theorem beh_4 (p v : Int) (m : Nat) (st ep vi fr le : Int) (es xs : List En) (A XA FA : Option Addr) (c xc fn fc : Nat) (w : World) (ha : EsB w.heap.size w (.slice A es.length c) es) (hx : EsB w.heap.size w (.slice XA xs.length xc) xs) (_ : m ≤ es.length) (_ : es.length ≤ 100000) (_ : xs.length ≤ 100000) :
    Calls Tryd.prog 23 #[.agg #[.int .i64 p, .int .i64 v, .slice A es.length c, .int .i64 (m : Int)], .agg #[.int .i64 4, .int .i64 st, .int .i64 ep, .int .i64 vi, .int .i64 fr, .int .i64 le, .slice XA xs.length xc, .slice FA fn fc]] w (BehPost (⟨ep, vi, xs, le⟩, decide (p = 0)) w) := by
  obtain ⟨w1, HX1⟩ : ∃ W : World, Hid (W = ((w.alloc (.cells #[.int .i64 p, .int .i64 v, .slice A es.length c, .int .i64 (m : Int)] 24)).alloc (.cells #[.int .i64 4, .int .i64 st, .int .i64 ep, .int .i64 vi, .int .i64 fr, .int .i64 le, .slice XA xs.length xc, .slice FA fn fc] 27)).alloc (.cells #[.int .i64 0, .int .i64 0, .slice none 0 0, .int .i64 0] 24)) := ⟨_, Lib.hid rfl⟩
  obtain ⟨hz1, hb1, hg1, hr1, hq1⟩ := three_new HX1.out
  obtain ⟨n0, n1, n2, n3⟩ := box4 hg1
  obtain ⟨m0, m1, m2, m3, m4, m5, m6, m7⟩ := box8 hr1
  have hE1 := keepE hb1 ha
  have hF1 := keepE hb1 hx
  clear ha hx
  obtain ⟨w2, HST, hq2, hbl, hzz, hoth⟩ := rg_store w.heap.size p v A es.length c (m : Int) hq1 rfl (by omega)
  have hg2 := (hoth w.heap.size (by omega)).trans hg1
  have hr2 := (hoth (w.heap.size + 1) (by omega)).trans hr1
  have hE2 := es_store hE1 hq1 (by simp) hoth hzz
  have hF2 := es_store hF1 hq1 (by simp) hoth hzz
  have hW2 := hb1.trans hbl
  have hz2 := hzz.trans hz1
  clear hg1 hr1 hq1 hE1 hF1 hbl hzz hoth hb1
  obtain ⟨k0, k1, k2, k3⟩ := box4 hq2
  obtain ⟨j0, j1, j2, j3⟩ := box4 hg2
  obtain ⟨i0, i1, i2, i3, i4, i5, i6, i7⟩ := box8 hr2
  have mf : ∀ i, w2.frozen? ⟨w.heap.size + 1 + 1, i, none⟩ = false := fun i => Lib.frozen_of_heap hq2 i
  have HS : Hid (∀ X : World, X.heap[w.heap.size + 1]? = w2.heap[w.heap.size + 1]? → X.heap[w.heap.size]? = w2.heap[w.heap.size]? → X.cell? ⟨w.heap.size + 1, 2, none⟩ = some (.int .i64 ep) ∧ X.cell? ⟨w.heap.size + 1, 3, none⟩ = some (.int .i64 vi) ∧ X.cell? ⟨w.heap.size + 1, 5, none⟩ = some (.int .i64 le) ∧ X.cell? ⟨w.heap.size + 1, 6, none⟩ = some (.slice XA xs.length xc) ∧ X.cell? ⟨w.heap.size, 0, none⟩ = some (.int .i64 p)) := Lib.hid fun X h2 h3 => by
    have h2' := box8 (h2.trans hr2)
    have h3' := box4 (h3.trans hg2)
    exact ⟨h2'.2.2.1, h2'.2.2.2.1, h2'.2.2.2.2.2.1, h2'.2.2.2.2.2.2.1, h3'.1⟩
  have hpd : (p == 0) = decide (p = 0) := rfl
  clear hg2 hr2 hE2
  go_enter Tryd.func23, Tryd.ntmps23
  go_upto_region 12 with (first | (rw [← HX1.out]) | (with_reducible refine wpList_store_known (by rfl) 24 _ _ (by rfl) ⟨w.heap.size + 1 + 1, 0, none⟩ (.agg #[.int .i64 p, .int .i64 v, .slice A es.length c, .int .i64 (m : Int)]) (by with_unfolding_all rfl) (by with_unfolding_all rfl) HST.out ?_))
  have hq : w2.drew.heap[w.heap.size + 1 + 1]? = _ := hq2
  have hr : w2.drew.heap[w.heap.size + 1]? = w2.heap[w.heap.size + 1]? := rfl
  have hg : w2.drew.heap[w.heap.size]? = w2.heap[w.heap.size]? := rfl
  have hE : EsB w2.drew.heap.size w2.drew _ _ := hF2
  have hW : Below w.heap.size w w2.drew := hW2.drew
  have hH := HS.out _ hr hg
  clear n0 n1 n2 n3 m0 m1 m2 m3 m4 m5 m6 m7 k0 k1 k2 k3 j0 j1 j2 j3 i0 i1 i2 i3 i4 i5 i6 i7 mf hF2 hW2 hq2
  refine wp_region_held_drew (S := fun X => X.cell? ⟨w.heap.size + 1, 2, none⟩ = some (.int .i64 ep) ∧ X.cell? ⟨w.heap.size + 1, 3, none⟩ = some (.int .i64 vi) ∧ X.cell? ⟨w.heap.size + 1, 5, none⟩ = some (.int .i64 le) ∧ X.cell? ⟨w.heap.size + 1, 6, none⟩ = some (.slice XA xs.length xc) ∧ X.cell? ⟨w.heap.size, 0, none⟩ = some (.int .i64 p)) (by kernel_rfl) hH (fun hHeld => ?_)
  clear hH
  refine wpAnyH_take (i := 0) (v := ?_) rfl (by kernel_rfl) (by kernel_rfl) (by kernel_rfl) (fun _ _ _ h => h) (Or.inl ⟨by rfl, ?_⟩) (by assumption) ?_
  rotate_left
  · intro X hX
    go_simp
    try with_reducible rfl
  try simp only [List.getElem_toArray, List.getElem_cons_zero]
  try simp only [Act.put, List.setIfInBounds_toArray, List.set_cons_zero, List.set_cons_succ]
  refine wpAnyH_take (i := 1) (v := .int .i64 ep) rfl (by kernel_rfl) (by kernel_rfl) (by kernel_rfl) (fun _ _ _ h => h) (Or.inl ⟨by rfl, ?_⟩) (by assumption) ?_
  · intro X hX
    obtain ⟨a0, a1, a2, a3, s5⟩ := hX
    go_simp
  try simp only [List.getElem_toArray, List.getElem_cons_succ, List.getElem_cons_zero]
  try simp only [Act.put, List.setIfInBounds_toArray, List.set_cons_zero, List.set_cons_succ]
  refine wpAnyH_take (i := 2) (v := ?_) rfl (by kernel_rfl) (by kernel_rfl) (by kernel_rfl) (fun _ _ _ h => h) (Or.inl ⟨by rfl, ?_⟩) (by assumption) ?_
  rotate_left
  · intro X hX
    go_simp
    try with_reducible rfl
  try simp only [List.getElem_toArray, List.getElem_cons_succ, List.getElem_cons_zero]
  try simp only [Act.put, List.setIfInBounds_toArray, List.set_cons_zero, List.set_cons_succ]
  refine wpAnyH_take (i := 3) (v := .int .i64 vi) rfl (by kernel_rfl) (by kernel_rfl) (by kernel_rfl) (fun _ _ _ h => h) (Or.inl ⟨by rfl, ?_⟩) (by assumption) ?_
  · intro X hX
    obtain ⟨a0, a1, a2, a3, s5⟩ := hX
    go_simp
  try simp only [List.getElem_toArray, List.getElem_cons_succ, List.getElem_cons_zero]
  try simp only [Act.put, List.setIfInBounds_toArray, List.set_cons_zero, List.set_cons_succ]
  refine wpAnyH_take (i := 4) (v := ?_) rfl (by kernel_rfl) (by kernel_rfl) (by kernel_rfl) (fun _ _ _ h => h) (Or.inl ⟨by rfl, ?_⟩) (by assumption) ?_
  rotate_left
  · intro X hX
    go_simp
    try with_reducible rfl
  try simp only [List.getElem_toArray, List.getElem_cons_succ, List.getElem_cons_zero]
  try simp only [Act.put, List.setIfInBounds_toArray, List.set_cons_zero, List.set_cons_succ]
  refine wpAnyH_take (i := 5) (v := .slice XA xs.length xc) rfl (by kernel_rfl) (by kernel_rfl) (by kernel_rfl) (fun _ _ _ h => h) (Or.inl ⟨by rfl, ?_⟩) (by assumption) ?_
  · intro X hX
    obtain ⟨a0, a1, a2, a3, s5⟩ := hX
    go_simp
  try simp only [List.getElem_toArray, List.getElem_cons_succ, List.getElem_cons_zero]
  try simp only [Act.put, List.setIfInBounds_toArray, List.set_cons_zero, List.set_cons_succ]
  refine wpAnyH_take (i := 6) (v := ?_) rfl (by kernel_rfl) (by kernel_rfl) (by kernel_rfl) (fun _ _ _ h => h) (Or.inl ⟨by rfl, ?_⟩) (by assumption) ?_
  rotate_left
  · intro X hX
    go_simp
    try with_reducible rfl
  try simp only [List.getElem_toArray, List.getElem_cons_succ, List.getElem_cons_zero]
  try simp only [Act.put, List.setIfInBounds_toArray, List.set_cons_zero, List.set_cons_succ]
  refine wpAnyH_take (i := 7) (v := .int .i64 le) rfl (by kernel_rfl) (by kernel_rfl) (by kernel_rfl) (fun _ _ _ h => h) (Or.inl ⟨by rfl, ?_⟩) (by assumption) ?_
  · intro X hX
    obtain ⟨a0, a1, a2, a3, s5⟩ := hX
    go_simp
  try simp only [List.getElem_toArray, List.getElem_cons_succ, List.getElem_cons_zero]
  try simp only [Act.put, List.setIfInBounds_toArray, List.set_cons_zero, List.set_cons_succ]
  refine wpAnyH_take (i := 8) (v := ?_) rfl (by kernel_rfl) (by kernel_rfl) (by kernel_rfl) (fun _ _ _ h => h) (Or.inl ⟨by rfl, ?_⟩) (by assumption) ?_
  rotate_left
  · intro X hX
    go_simp
    try with_reducible rfl
  try simp only [List.getElem_toArray, List.getElem_cons_succ, List.getElem_cons_zero]
  try simp only [Act.put, List.setIfInBounds_toArray, List.set_cons_zero, List.set_cons_succ]
  refine wpAnyH_take (i := 9) (v := ?_) rfl (by kernel_rfl) (by kernel_rfl) (by kernel_rfl) (fun _ _ _ h => h) (Or.inl ⟨by rfl, ?_⟩) (by assumption) ?_
  rotate_left
  · intro X hX
    go_simp
    try with_reducible rfl
  try simp only [List.getElem_toArray, List.getElem_cons_succ, List.getElem_cons_zero]
  try simp only [Act.put, List.setIfInBounds_toArray, List.set_cons_zero, List.set_cons_succ]
  refine wpAnyH_take (i := 10) (v := .int .i64 p) rfl (by kernel_rfl) (by kernel_rfl) (by kernel_rfl) (fun _ _ _ h => h) (Or.inl ⟨by rfl, ?_⟩) (by assumption) ?_
  · intro X hX
    obtain ⟨a0, a1, a2, a3, s5⟩ := hX
    go_simp
  try simp only [List.getElem_toArray, List.getElem_cons_succ, List.getElem_cons_zero]
  try simp only [Act.put, List.setIfInBounds_toArray, List.set_cons_zero, List.set_cons_succ]
  refine wpAnyH_take (i := 11) (v := .bool (decide (p = 0))) rfl (by kernel_rfl) (by kernel_rfl) (by kernel_rfl) (fun _ _ _ h => h) (Or.inl ⟨by rfl, ?_⟩) (by assumption) ?_
  · intro X hX
    go_simp
    try rfl
  try simp only [List.getElem_toArray, List.getElem_cons_succ, List.getElem_cons_zero]
  try simp only [Act.put, List.setIfInBounds_toArray, List.set_cons_zero, List.set_cons_succ]
  refine wpAnyH_ready (rs := [12]) (by kernel_rfl) (by simp) (AllReadyH.cons rfl (fun K hK => ?_) AllReadyH.nil)
  · obtain ⟨wm, HST, hNew, hbl, hzz, hoth⟩ := rg_store (w.heap.size) (ep) (vi) (XA) (xs.length) (xc) (le) hq rfl (by omega)
    refine step_store_known rfl 24 _ _ rfl ⟨w.heap.size + 1 + 1, 0, none⟩ (.agg #[.int .i64 (ep), .int .i64 (vi), .slice (XA) (xs.length) (xc), .int .i64 (le)]) (by simp [Act.eval]) (by simp [Act.eval]) HST.out ?_
    replace hr := (hoth _ (by omega)).trans hr
    replace hg := (hoth _ (by omega)).trans hg
    replace hE := es_store hE hq (by simp) hoth hzz
    replace hW := hW.trans hbl
    replace hq := hNew
    clear HST hNew hbl hzz hoth
    have hH := HS.out _ hr hg
    refine hK.out _ _ ?_ (fun hHeld => ?_)
    · with_reducible exact hH
    clear hK K hH
    try simp only [List.getElem_toArray, List.getElem_cons_succ, List.getElem_cons_zero]
    try simp only [Act.put]
    refine wpAnyH_take (i := 13) (v := ?_) rfl (by kernel_rfl) (by kernel_rfl) (by kernel_rfl) (fun _ _ _ h => h) (Or.inl ⟨by rfl, ?_⟩) (by assumption) ?_
    rotate_left
    · intro X hX
      go_simp
      try with_reducible rfl
    try simp only [List.getElem_toArray, List.getElem_cons_succ, List.getElem_cons_zero]
    try simp only [Act.put, List.setIfInBounds_toArray, List.set_cons_zero, List.set_cons_succ]
    refine wpAnyH_done (by kernel_rfl) ?_ _
    go_wp2_with fail
    (try simp only [Exit.inBlock, Exit.then]); refine bodyPost_ret (results_row_tmp rfl _ _ (w.heap.size + 1 + 1) 24 #[.int .i64 ep, .int .i64 vi, .slice XA xs.length xc, .int .i64 le] (0, 0) _ rfl hq Tryd.underlying24 rfl (by kernel_rfl)) rfl ?_
    exact ⟨XA, xc, rfl, hE, hW⟩
set_option maxRecDepth 100000 in
set_option maxHeartbeats 8000000 in
theorem beh_2 (p v : Int) (m : Nat) (st ep vi fr le : Int) (es xs : List En) (A XA FA : Option Addr) (c xc fn fc : Nat) (w : World) (ha : EsB w.heap.size w (.slice A es.length c) es) (hx : EsB w.heap.size w (.slice XA xs.length xc) xs) (hm : m ≤ es.length) (hl : es.length ≤ 100000) (hlx : xs.length ≤ 100000) :
    Calls Tryd.prog 23 #[.agg #[.int .i64 p, .int .i64 v, .slice A es.length c, .int .i64 (m : Int)], .agg #[.int .i64 2, .int .i64 st, .int .i64 ep, .int .i64 vi, .int .i64 fr, .int .i64 le, .slice XA xs.length xc, .slice FA fn fc]] w (BehPost (viw ⟨p, v, es, m⟩ ⟨2, ep, vi, fr, le, xs⟩) w) := by
  obtain ⟨w1, HX1⟩ : ∃ W : World, Hid (W = ((w.alloc (.cells #[.int .i64 p, .int .i64 v, .slice A es.length c, .int .i64 (m : Int)] 24)).alloc (.cells #[.int .i64 2, .int .i64 st, .int .i64 ep, .int .i64 vi, .int .i64 fr, .int .i64 le, .slice XA xs.length xc, .slice FA fn fc] 27)).alloc (.cells #[.int .i64 0, .int .i64 0, .slice none 0 0, .int .i64 0] 24)) := ⟨_, Lib.hid rfl⟩
  obtain ⟨hz1, hb1, hg1, hr1, hq1⟩ := three_new HX1.out
  obtain ⟨n0, n1, n2, n3⟩ := box4 hg1
  obtain ⟨m0, m1, m2, m3, m4, m5, m6, m7⟩ := box8 hr1
  have hE1 := keepE hb1 ha
  have hF1 := keepE hb1 hx
  clear ha hx
  obtain ⟨w2, HST, hq2, hbl, hzz, hoth⟩ := rg_store w.heap.size p v A es.length c (m : Int) hq1 rfl (by omega)
  have hg2 := (hoth w.heap.size (by omega)).trans hg1
  have hr2 := (hoth (w.heap.size + 1) (by omega)).trans hr1
  have hE2 := es_store hE1 hq1 (by simp) hoth hzz
  have hF2 := es_store hF1 hq1 (by simp) hoth hzz
  have hW2 := hb1.trans hbl
  have hz2 := hzz.trans hz1
  clear hg1 hr1 hq1 hE1 hF1 hbl hzz hoth hb1
  obtain ⟨k0, k1, k2, k3⟩ := box4 hq2
  obtain ⟨j0, j1, j2, j3⟩ := box4 hg2
  obtain ⟨i0, i1, i2, i3, i4, i5, i6, i7⟩ := box8 hr2
  have mf : ∀ i, w2.frozen? ⟨w.heap.size + 1 + 1, i, none⟩ = false := fun i => Lib.frozen_of_heap hq2 i
  have HV := Lib.hid (inView_any p v m 2 st ep vi fr le es xs A XA FA c xc fn fc w2 hE2 hF2 hm hl hlx)
  generalize viw ⟨p, v, es, m⟩ ⟨2, ep, vi, fr, le, xs⟩ = q at *
  obtain ⟨⟨p', v', es', m'⟩, ok⟩ := q
  clear hg2 hr2 hE2 hF2 hl hlx hm
  go_enter Tryd.func23, Tryd.ntmps23
  go_wp2_with (first | (rw [← HX1.out]) | (with_reducible refine wpList_store_known (by rfl) 24 _ _ (by rfl) ⟨w.heap.size + 1 + 1, 0, none⟩ (.agg #[.int .i64 p, .int .i64 v, .slice A es.length c, .int .i64 (m : Int)]) (by with_unfolding_all rfl) (by with_unfolding_all rfl) HST.out ?_))
  refine (HV.out).mono ?_
  rintro e w3 ⟨A', c', rfl, hN, hb⟩
  dsimp only at hN
  obtain ⟨w4, HST4, hq, hbl, hzz, hoth⟩ := rg_store w.heap.size p' v' A' es'.length c' m' (keepH hb hq2) rfl (by omega)
  have hN4 := es_store hN (keepH hb hq2) (by simp) hoth hzz
  have hW4 := (keepB hW2 hb).trans hbl
  clear n0 n1 n2 n3 m0 m1 m2 m3 m4 m5 m6 m7 k0 k1 k2 k3 j0 j1 j2 j3 i0 i1 i2 i3 i4 i5 i6 i7 mf HV hb hbl hzz hoth hN hq2 hW2
  go_wp2_with (with_reducible refine wpList_store_known (by rfl) 24 _ _ (by rfl) ⟨w.heap.size + 1 + 1, 0, none⟩ _ (by with_unfolding_all rfl) (by with_unfolding_all rfl) HST4.out ?_)
  (try simp only [Exit.inBlock, Exit.then]); refine bodyPost_ret (results_row_tmp rfl _ _ (w.heap.size + 1 + 1) 24 #[.int .i64 p', .int .i64 v', .slice A' es'.length c', .int .i64 m'] (0, 0) _ rfl hq Tryd.underlying24 rfl (by kernel_rfl)) rfl ?_
  exact ⟨A', c', rfl, hN4, hW4⟩
set_option maxRecDepth 100000 in
set_option maxHeartbeats 8000000 in
theorem beh_0 (p v : Int) (m : Nat) (ki st ep vi fr le : Int) (es xs : List En) (A XA FA : Option Addr) (c xc fn fc : Nat) (w : World) (ha : EsB w.heap.size w (.slice A es.length c) es) (hx : EsB w.heap.size w (.slice XA xs.length xc) xs) (_ : m ≤ es.length) (_ : es.length ≤ 100000) (_ : xs.length ≤ 100000) (h1 : ¬ ki = 1) (h2 : ¬ ki = 2) (h3 : ¬ ki = 3) (h4 : ¬ ki = 4) :
    Calls Tryd.prog 23 #[.agg #[.int .i64 p, .int .i64 v, .slice A es.length c, .int .i64 (m : Int)], .agg #[.int .i64 ki, .int .i64 st, .int .i64 ep, .int .i64 vi, .int .i64 fr, .int .i64 le, .slice XA xs.length xc, .slice FA fn fc]] w (BehPost (Re.zero, false) w) := by
  obtain ⟨w1, HX1⟩ : ∃ W : World, Hid (W = ((w.alloc (.cells #[.int .i64 p, .int .i64 v, .slice A es.length c, .int .i64 (m : Int)] 24)).alloc (.cells #[.int .i64 ki, .int .i64 st, .int .i64 ep, .int .i64 vi, .int .i64 fr, .int .i64 le, .slice XA xs.length xc, .slice FA fn fc] 27)).alloc (.cells #[.int .i64 0, .int .i64 0, .slice none 0 0, .int .i64 0] 24)) := ⟨_, Lib.hid rfl⟩
  obtain ⟨hz1, hb1, hg1, hr1, hq1⟩ := three_new HX1.out
  obtain ⟨n0, n1, n2, n3⟩ := box4 hg1
  obtain ⟨m0, m1, m2, m3, m4, m5, m6, m7⟩ := box8 hr1
  have hE1 := keepE hb1 ha
  have hF1 := keepE hb1 hx
  clear ha hx
  obtain ⟨w2, HST, hq2, hbl, hzz, hoth⟩ := rg_store w.heap.size p v A es.length c (m : Int) hq1 rfl (by omega)
  have hg2 := (hoth w.heap.size (by omega)).trans hg1
  have hr2 := (hoth (w.heap.size + 1) (by omega)).trans hr1
  have hE2 := es_store hE1 hq1 (by simp) hoth hzz
  have hF2 := es_store hF1 hq1 (by simp) hoth hzz
  have hW2 := hb1.trans hbl
  have hz2 := hzz.trans hz1
  clear hg1 hr1 hq1 hE1 hF1 hbl hzz hoth hb1
  obtain ⟨k0, k1, k2, k3⟩ := box4 hq2
  obtain ⟨j0, j1, j2, j3⟩ := box4 hg2
  obtain ⟨i0, i1, i2, i3, i4, i5, i6, i7⟩ := box8 hr2
  have mf : ∀ i, w2.frozen? ⟨w.heap.size + 1 + 1, i, none⟩ = false := fun i => Lib.frozen_of_heap hq2 i
  obtain ⟨w4, HST4, hq, hbl, hzz, hoth⟩ := rg_store w.heap.size 0 0 none 0 0 0 hq2 rfl (by omega)
  have hW4 := hW2.trans hbl
  have u1 : (ki == 1) = false := by simp [h1]
  have u2 : (ki == 2) = false := by simp [h2]
  have u3 : (ki == 3) = false := by simp [h3]
  have u4 : (ki == 4) = false := by simp [h4]
  clear hg2 hr2 hE2 hF2 hbl hzz hoth hq2 h1 h2 h3 h4
  go_enter Tryd.func23, Tryd.ntmps23
  go_wp2_with (first | (rw [← HX1.out]) | (with_reducible refine wpList_store_known (by rfl) 24 _ _ (by rfl) ⟨w.heap.size + 1 + 1, 0, none⟩ (.agg #[.int .i64 p, .int .i64 v, .slice A es.length c, .int .i64 (m : Int)]) (by with_unfolding_all rfl) (by with_unfolding_all rfl) HST.out ?_) | (with_reducible refine wpList_store_known (by rfl) 24 _ _ (by rfl) ⟨w.heap.size + 1 + 1, 0, none⟩ _ (by with_unfolding_all rfl) (by with_unfolding_all rfl) HST4.out ?_))
  (try simp only [Exit.inBlock, Exit.then]); refine bodyPost_ret (results_row_tmp rfl _ _ (w.heap.size + 1 + 1) 24 #[.int .i64 0, .int .i64 0, .slice none 0 0, .int .i64 0] (0, 0) _ rfl hq Tryd.underlying24 rfl (by kernel_rfl)) rfl ?_
  exact ⟨none, 0, rfl, es_nil _ _, hW4⟩
theorem behind_any (p v : Int) (m : Nat) (ki st ep vi fr le : Int) (es xs : List En) (A XA FA : Option Addr) (c xc fn fc : Nat) (w : World) (ha : EsB w.heap.size w (.slice A es.length c) es) (hx : EsB w.heap.size w (.slice XA xs.length xc) xs) (hm : m ≤ es.length) (hl : es.length ≤ 100000) (hlx : xs.length ≤ 100000) :
    Calls Tryd.prog 23 #[.agg #[.int .i64 p, .int .i64 v, .slice A es.length c, .int .i64 (m : Int)], .agg #[.int .i64 ki, .int .i64 st, .int .i64 ep, .int .i64 vi, .int .i64 fr, .int .i64 le, .slice XA xs.length xc, .slice FA fn fc]] w (BehPost (beh ⟨p, v, es, m⟩ ⟨ki, ep, vi, fr, le, xs⟩) w) := by
  by_cases h1 : ki = 1
  · subst h1; exact beh_1 p v m st ep vi fr le es xs A XA FA c xc fn fc w ha hx hm hl hlx
  by_cases h2 : ki = 2
  · subst h2; exact beh_2 p v m st ep vi fr le es xs A XA FA c xc fn fc w ha hx hm hl hlx
  by_cases h3 : ki = 3
  · subst h3; exact beh_3 p v m st ep vi fr le es xs A XA FA c xc fn fc w ha hx hm hl hlx
  by_cases h4 : ki = 4
  · subst h4; exact beh_4 p v m st ep vi fr le es xs A XA FA c xc fn fc w ha hx hm hl hlx
  have e : beh ⟨p, v, es, m⟩ ⟨ki, ep, vi, fr, le, xs⟩ = (Re.zero, false) := by simp [beh, h1, h2, h3, h4]
  rw [e]
  exact beh_0 p v m ki st ep vi fr le es xs A XA FA c xc fn fc w ha hx hm hl hlx h1 h2 h3 h4
end Go.Proofs.YtnbhdehpdfojlaaDoor
