/-
  The walk of the law FoldsOnce: it returns true and writes nothing that was there.
-/
import Derived.Test.YtafhjlfnhgkcoaaDoorFoFree
namespace Go.Proofs.YtafhjlfnhgkcoaaDoor.foldsOnceW
open Go.RowKit Go.Sort Go.Maps
theorem ints_two {es : List En} {x : En} (h : ∀ e ∈ es, IntsOk e.l) (hx : IntsOk x.l) : ∀ e ∈ es ++ [x, x], IntsOk e.l := fun e he => by
  rcases List.mem_append.1 he with h1 | h1
  · exact h e h1
  · obtain rfl : e = x := by simpa using h1
    exact hx
/-- A log and twice an entry whose ID came before. -/
theorem foldL_twice {l : List En} {x : En} {f : Nat} (hf : firstAt l x.o.id = some f) : foldL (l ++ [x, x]) = ((foldL l).1, (foldL l).2 ++ [again ((foldL l).2.getD f oc0), again ((foldL l).2.getD f oc0)]) := by
  have hl := firstAt_lt hf
  have h1 := foldL_snoc l x
  unfold stepF at h1
  rw [hf] at h1
  simp only at h1
  have h2 := foldL_snoc (l ++ [x]) x
  unfold stepF at h2
  rw [firstAt_append, hf, h1] at h2
  simp only at h2
  have hg : ((foldL l).2 ++ [again ((foldL l).2.getD f oc0)]).getD f oc0 = (foldL l).2.getD f oc0 := by
    rw [List.getD_eq_getElem?_getD, List.getD_eq_getElem?_getD, List.getElem?_append_left (by rw [foldL_len]; exact hl)]
  rw [hg, List.append_assoc, List.append_assoc] at h2
  exact h2
theorem first_le {l : List En} {k : Nat} (hk : k < l.length) : ∃ f, firstAt l l[k].o.id = some f ∧ f ≤ k := by
  cases h : firstAt l l[k].o.id with
  | none => exact absurd rfl (firstAt_none.1 h _ (List.getElem_mem hk))
  | some f =>
    obtain ⟨_, _, h3⟩ := firstAt_some h
    exact ⟨f, rfl, Nat.le_of_not_lt fun hlt => h3 k hlt rfl⟩
theorem rem_bd {x k : Int} (h : 0 < k) : -k < x.tmod k ∧ x.tmod k < k := ⟨Int.lt_tmod_of_pos x h, Int.tmod_lt_of_pos x h⟩
set_option maxRecDepth 100000 in
set_option maxHeartbeats 1000000 in
theorem walk_off (A : Option Addr) (n c : Nat) (x : En) (at_ : Int) (w : World) (HW : Hid (∀ X : World, Below w.heap.size w X → Calls Tryd.prog 15 #[] X (NumPost (.bool true) X))) (h : 300 < n ∨ n = 0) :
    Calls Tryd.prog 7 #[.slice A n c, .agg #[.int .i64 x.ep, .int .i64 x.o.id, .int .i64 x.o.st, .int .i64 x.o.ex, .int .i64 x.o.ki, .int .i64 x.o.ar], .int .i64 at_] w (fun e w' => e = .returned (.bool true) ∧ Below w.heap.size w w') := by
  obtain ⟨w1, HX1⟩ : ∃ W : World, Hid (W = w.alloc (.cells #[.int .i64 x.ep, .int .i64 x.o.id, .int .i64 x.o.st, .int .i64 x.o.ex, .int .i64 x.o.ki, .int .i64 x.o.ar] 45)) := ⟨_, Lib.hid rfl⟩
  have hb1 : Below w.heap.size w w1 := by rw [HX1.out]; exact (Below.refl _ _).alloc (Nat.le_refl _) _
  by_cases h1 : 300 < n
  · have t1 : decide (300 < (n : Int)) = true := decide_eq_true (by omega)
    have t2 : (300 : Int) < (n : Int) := by omega
    clear h
    go_enter Tryd.func7, Tryd.ntmps7
    go_wp2_with (rw [← HX1.out])
    refine (HW.out _ hb1).mono ?_
    rintro e w2 ⟨rfl, hb⟩
    go_wp2_with fail
    go_ret
    exact ⟨rfl, keepB hb1 hb⟩
  · obtain rfl : n = 0 := by omega
    clear h h1
    go_enter Tryd.func7, Tryd.ntmps7
    go_wp2_with (rw [← HX1.out])
    refine (HW.out _ hb1).mono ?_
    rintro e w2 ⟨rfl, hb⟩
    go_wp2_with fail
    go_ret
    exact ⟨rfl, keepB hb1 hb⟩
set_option maxRecDepth 100000 in
set_option maxHeartbeats 16000000 in
theorem walk_on (A : Option Addr) (c : Nat) (es : List En) (x : En) (at_ : Int) (w : World) (hA : Asked w) (ha : EsB w.heap.size w (.slice A es.length c) es) (hi : ∀ e ∈ es, IntsOk e.l) (hxi : IntsOk x.l) (hn3 : es.length ≤ 300) (hn0 : es.length ≠ 0) :
    Calls Tryd.prog 7 #[.slice A es.length c, .agg #[.int .i64 x.ep, .int .i64 x.o.id, .int .i64 x.o.st, .int .i64 x.o.ex, .int .i64 x.o.ki, .int .i64 x.o.ar], .int .i64 at_] w (fun e w' => e = .returned (.bool true) ∧ Below w.heap.size w w') := by
  have t1 : decide (300 < (es.length : Int)) = false := decide_eq_false (by omega)
  have t2 : ¬ (300 : Int) < (es.length : Int) := by omega
  have t3 : ((es.length : Int) == 0) = false := beq_eq_false_iff_ne.2 (by omega)
  have t4 : ¬ (es.length : Int) = 0 := by omega
  have HA := Lib.hid hA
  have HI := Lib.hid hi
  have HXI := Lib.hid hxi
  have HW := Lib.hid (fun X hX => foWorks_any X (HA.out.keep hX))
  have HL := Lib.hid (fun X (hX : Below w.heap.size w X) => (RdB.below ha hX (Nat.le_refl _) : EsB _ X _ es))
  have HC := Lib.hid (fun k (hk : k < es.length) => EsB.cells ha hk)
  have H1 := fun X (hX : Below w.heap.size w X) => ofp_any (w := X) (HL.out X hX) hi hX.size (HA.out.keep hX) (by omega)
  unfold OfP at H1
  simp only [St.v] at H1
  replace H1 := Lib.hid H1
  have hol := foldL_len es
  obtain ⟨_, _, hv, hel, hem, -⟩ := ha.len
  injection hv with e1 _ e3
  subst e1 e3
  unfold maxLen at hem
  obtain ⟨hm1, hm2⟩ := rem_bd (x := at_) (k := (es.length : Int)) (by omega)
  clear ha hA hi hxi
  obtain ⟨z0, y1, z2, z3, z4, z5⟩ := x
  obtain ⟨w1, HX1⟩ : ∃ W : World, Hid (W = w.alloc (.cells #[.int .i64 z0, .int .i64 y1, .int .i64 z2, .int .i64 z3, .int .i64 z4, .int .i64 z5] 45)) := ⟨_, Lib.hid rfl⟩
  have h_x1 : w1.heap[w.heap.size]? = some (.cells #[.int .i64 z0, .int .i64 y1, .int .i64 z2, .int .i64 z3, .int .i64 z4, .int .i64 z5] 45 (0, 0)) := by rw [HX1.out]; exact heap_alloc_new _ _
  have hb1 : Below w.heap.size w w1 := by rw [HX1.out]; exact (Below.refl _ _).alloc (Nat.le_refl _) _
  have hz1 : w.heap.size < w1.heap.size := lt_of_block h_x1
  dsimp only
  go_enter Tryd.func7, Tryd.ntmps7
  go_upto_if 29 with (rw [← HX1.out])
  go_cut [7] (fun s wx => ∃ K : Nat, K < es.length ∧ s = .int .i64 (K : Int) ∧ wx = w1)
  case first =>
    by_cases hneg : at_.tmod (es.length : Int) < 0
    · have t2 : decide (at_.tmod (es.length : Int) < 0) = true := decide_eq_true hneg
      go_wp2_with fail
      go_meet
      case rel => exact ⟨(at_.tmod (es.length : Int) + (es.length : Int)).toNat, by omega, by congr 1; omega, rfl⟩
    · have t2 : decide (at_.tmod (es.length : Int) < 0) = false := decide_eq_false hneg
      go_wp2_with fail
      go_meet
      case rel => exact ⟨(at_.tmod (es.length : Int)).toNat, by omega, by congr 1; omega, rfl⟩
  case rest =>
  obtain ⟨K, hK, rfl, hwc⟩ := hcut
  obtain rfl : w1 = wc := hwc.symm
  clear hm1 hm2 HX1
  obtain ⟨bq, oq, cq, hv, -, -, ck, -⟩ := HC.out K hK
  obtain ⟨f, hf, hfK⟩ := first_le hK
  have hzi : IntsOk (En.l ⟨z0, ⟨es[K].o.id, z2, z3, z4, z5⟩⟩) := fun n hn => by
    have h2 := HI.out _ (List.getElem_mem hK) es[K].o.id (by simp [En.l, Od.l])
    have h3 : n = es[K].o.id ∨ n ∈ En.l ⟨z0, ⟨y1, z2, z3, z4, z5⟩⟩ := by
      simp [En.l, Od.l] at hn ⊢
      omega
    rcases h3 with rfl | h3
    · exact h2
    · exact HXI.out n h3
  generalize es[K].o.id = z1 at *
  injection hv with e1 _ e3
  subst e1 e3
  have c1 := keepC hb1 ck
  have hsn := foldL_twice (l := es) (x := ⟨z0, z1, z2, z3, z4, z5⟩) hf
  have H2 := fun X (hX : Below w.heap.size w X) v (hv : EsB X.heap.size X v (es ++ [⟨z0, z1, z2, z3, z4, z5⟩, ⟨z0, z1, z2, z3, z4, z5⟩])) => ofp_any (w := X) hv (ints_two HI.out hzi) (Nat.le_refl _) (HA.out.keep hX) (by simp; omega)
  unfold OfP at H2
  generalize foldL (es ++ [⟨z0, z1, z2, z3, z4, z5⟩, ⟨z0, z1, z2, z3, z4, z5⟩]) = FX at hsn H2
  obtain ⟨T2, lx⟩ := FX
  simp only [St.v, List.length_append, List.length_cons, List.length_nil, Nat.zero_add, Nat.reduceAdd] at H2
  replace H2 := Lib.hid H2
  injection hsn with q1 q2
  replace q1 := Lib.hid q1
  replace q2 := Lib.hid q2
  have HF := Lib.hid (fun X (hX : Below w.heap.size w X) => (findR_some hf) ▸ find_any (w := X) z1 (HL.out X hX) hX.size)
  have hfl := firstAt_lt hf
  have hfK' : decide ((K : Int) < (f : Int)) = false := decide_eq_false (by omega)
  have hfK2 : ¬ (K : Int) < (f : Int) := by omega
  clear hf ck HC hzi
  have fz : w1.frozen? ⟨w.heap.size, 1, none⟩ = false := Lib.frozen_of_heap h_x1 1
  have cy : w1.cell? ⟨w.heap.size, 1, none⟩ = some (.int .i64 y1) := by rw [Lib.cell_of_heap h_x1]; rfl
  obtain ⟨wa, HXa⟩ : ∃ W : World, Hid (W = w1.setCell ⟨w.heap.size, 1, none⟩ (.int .i64 z1)) := ⟨_, Lib.hid rfl⟩
  have h_xa : wa.heap[w.heap.size]? = some (.cells #[.int .i64 z0, .int .i64 z1, .int .i64 z2, .int .i64 z3, .int .i64 z4, .int .i64 z5] 45 (0, 0)) := by rw [HXa.out]; exact heap_setCell_same _ _ 1 _ _ _ h_x1
  have hba : Below w.heap.size w1 wa := by rw [HXa.out]; refine Below.setCell (Below.refl _ _) ?_ _; exact Nat.le_refl _
  have hB1 := hb1.trans hba
  have ca : wa.cell? ⟨w.heap.size, 1, none⟩ = some (.int .i64 z1) := by rw [Lib.cell_of_heap h_xa]; rfl
  have hKl : (K : Int) < (some ⟨bq, oq, none⟩ : Option Addr).elim 0 (fun _ => (es.length : Int)) := by simp; omega
  clear hKl
  have hKl : (K : Int) < (es.length : Int) := by omega
  go_wp2_with (rw [← HXa.out])
  refine (HF.out _ hB1).mono ?_
  rintro e w2 ⟨rfl, hb⟩
  have hB2 := keepB hB1 hb
  have h_x2 := keepH hb h_xa
  clear hb ca c1 cy fz h_xa h_x1 hb1 hba HXa HF hB1
  go_wp2_with fail
  refine (H1.out _ hB2).mono ?_
  rintro e w3 ⟨g, rfl, hoc, hg1, hg2, hb⟩
  have hB3 := keepB hB2 hb
  have hw3s : w.heap.size ≤ w3.heap.size := hB3.size
  have h_x3 := keepH hb h_x2
  obtain ⟨w4, HX4⟩ : ∃ W : World, Hid (W = w3.alloc (.cells #[.int .i64 (foldL es).1.tag, .bool (foldL es).1.cl, .int .i64 (foldL es).1.sum, .int .i64 (foldL es).1.ver] 25)) := ⟨_, Lib.hid rfl⟩
  have h_s4 : w4.heap[w3.heap.size]? = some (.cells #[.int .i64 (foldL es).1.tag, .bool (foldL es).1.cl, .int .i64 (foldL es).1.sum, .int .i64 (foldL es).1.ver] 25 (0, 0)) := by rw [HX4.out]; exact heap_alloc_new _ _
  have hb4 : Below w3.heap.size w3 w4 := by rw [HX4.out]; exact (Below.refl _ _).alloc (Nat.le_refl _) _
  have HO := Lib.hid (hoc.below hb4 (Nat.le_refl _))
  have hB4 := keepB hB3 hb4
  have h_x4 := keepH hb4 h_x3
  have hz4 : w3.heap.size < w4.heap.size := lt_of_block h_s4
  have hz0 : w.heap.size < w4.heap.size := lt_of_block h_x4
  clear hoc hb hb4 h_x2 h_x3 hB2 hB3 H1
  go_wp2_with (rw [← HX4.out])
  clear HX4
  go_cut [12, 13] (fun u v wx => ∃ (gF g2 : Nat), u = .pointer (some ⟨gF, 0, none⟩) ∧ v = .slice (some ⟨g2, 0, none⟩) (es.length + 2) (es.length + 2) ∧ Hid (wx.heap[gF]? = some (.cells #[.int .i64 T2.tag, .bool T2.cl, .int .i64 T2.sum, .int .i64 T2.ver] 25 (0, 0))) ∧ Hid (OcsB w4.heap.size wx.heap.size wx (.slice (some ⟨g2, 0, none⟩) (es.length + 2) (es.length + 2)) lx) ∧ Hid (Below w4.heap.size w4 wx) ∧ w4.heap.size ≤ gF ∧ w4.heap.size ≤ g2)
  case first =>
    have hW : Below w4.heap.size w4 w4.drew := (Below.refl _ _).drew
    have hX : w4.drew.heap[w.heap.size]? = some (.cells #[.int .i64 z0, .int .i64 z1, .int .i64 z2, .int .i64 z3, .int .i64 z4, .int .i64 z5] 45 (0, 0)) := h_x4
    have hL := RdB.mono (HL.out w4.drew (keepB hB4 hW)) (keepB hB4 hW).size
    have hS : ∀ X : World, X.heap[w.heap.size]? = some (.cells #[.int .i64 z0, .int .i64 z1, .int .i64 z2, .int .i64 z3, .int .i64 z4, .int .i64 z5] 45 (0, 0)) → X.cell? ⟨w.heap.size, 0, none⟩ = some (.int .i64 z0) ∧ X.cell? ⟨w.heap.size, 1, none⟩ = some (.int .i64 z1) ∧ X.cell? ⟨w.heap.size, 2, none⟩ = some (.int .i64 z2) ∧ X.cell? ⟨w.heap.size, 3, none⟩ = some (.int .i64 z3) ∧ X.cell? ⟨w.heap.size, 4, none⟩ = some (.int .i64 z4) ∧ X.cell? ⟨w.heap.size, 5, none⟩ = some (.int .i64 z5) := fun X h => ⟨by rw [Lib.cell_of_heap h]; rfl, by rw [Lib.cell_of_heap h]; rfl, by rw [Lib.cell_of_heap h]; rfl, by rw [Lib.cell_of_heap h]; rfl, by rw [Lib.cell_of_heap h]; rfl, by rw [Lib.cell_of_heap h]; rfl⟩
    have hS' := Lib.hid hS
    have hH := hS _ hX
    obtain ⟨c0, c1, c2, c3, c4, c5⟩ := hS w4 h_x4
    clear hS
    refine wp_region_held_drew (S := fun X => X.cell? ⟨w.heap.size, 0, none⟩ = some (.int .i64 z0) ∧ X.cell? ⟨w.heap.size, 1, none⟩ = some (.int .i64 z1) ∧ X.cell? ⟨w.heap.size, 2, none⟩ = some (.int .i64 z2) ∧ X.cell? ⟨w.heap.size, 3, none⟩ = some (.int .i64 z3) ∧ X.cell? ⟨w.heap.size, 4, none⟩ = some (.int .i64 z4) ∧ X.cell? ⟨w.heap.size, 5, none⟩ = some (.int .i64 z5)) (by kernel_rfl) hH (fun hHeld => ?_)
    clear hH c0 c1 c2 c3 c4 c5
    refine wpAnyH_take (i := 1) (v := ?_) rfl (by kernel_rfl) (by kernel_rfl) (by kernel_rfl) (fun _ _ _ h => h) (Or.inl ⟨by rfl, ?_⟩) (by assumption) ?_
    rotate_left
    · intro X hX
      go_simp
      try with_reducible rfl
    try simp only [List.getElem_toArray, List.getElem_cons_succ, List.getElem_cons_zero]
    try simp only [Act.put, List.setIfInBounds_toArray, List.set_cons_zero, List.set_cons_succ]
    refine wpAnyH_take (i := 3) (v := .agg #[.int .i64 z0, .int .i64 z1, .int .i64 z2, .int .i64 z3, .int .i64 z4, .int .i64 z5]) rfl (by kernel_rfl) (by kernel_rfl) (by kernel_rfl) (fun _ _ _ h => h) (Or.inl ⟨by rfl, ?_⟩) (by assumption) ?_
    · intro X hX
      obtain ⟨c0, c1, c2, c3, c4, c5⟩ := hX
      go_simp
    try simp only [List.getElem_toArray, List.getElem_cons_succ, List.getElem_cons_zero]
    try simp only [Act.put, List.setIfInBounds_toArray, List.set_cons_zero, List.set_cons_succ]
    refine wpAnyH_take (i := 4) (v := .agg #[.int .i64 z0, .int .i64 z1, .int .i64 z2, .int .i64 z3, .int .i64 z4, .int .i64 z5]) rfl (by kernel_rfl) (by kernel_rfl) (by kernel_rfl) (fun _ _ _ h => h) (Or.inl ⟨by rfl, ?_⟩) (by assumption) ?_
    · intro X hX
      obtain ⟨c0, c1, c2, c3, c4, c5⟩ := hX
      go_simp
    try simp only [List.getElem_toArray, List.getElem_cons_succ, List.getElem_cons_zero]
    try simp only [Act.put, List.setIfInBounds_toArray, List.set_cons_zero, List.set_cons_succ]
    refine wpAnyH_ready (rs := [0,5,11]) (by kernel_rfl) (by simp) (AllReadyH.cons rfl (fun K hK => ?_) (AllReadyH.cons rfl (fun K hK => ?_) (AllReadyH.cons rfl (fun K hK => ?_) AllReadyH.nil)))
    · refine step_build_new rfl 22 0 #[] #[] rfl (by simp) #[] 45 build0_run ?_
      intro gA wn hA hgA hb
      replace hgA : w4.heap.size ≤ gA := Nat.le_trans hW.size hgA
      replace hX := keepH hb hX
      replace hW := keepB hW hb
      have hH := hS'.out _ hX
      clear hb
      refine hK.out _ _ ?_ (fun hHeld => ?_)
      · with_reducible exact hH
      clear hK K hH
      try simp only [List.getElem_toArray, List.getElem_cons_zero]
      try simp only [Act.put, List.setIfInBounds_toArray, List.set_cons_zero, List.set_cons_succ]
      refine wpAnyH_ready (rs := [2,5,11]) (by kernel_rfl) (by simp) (AllReadyH.cons rfl (fun K hK => ?_) (AllReadyH.cons rfl (fun K hK => ?_) (AllReadyH.cons rfl (fun K hK => ?_) AllReadyH.nil)))
      · obtain ⟨A1, ca1, wm, hr, hB, hg⟩ := put_log (base := w4.heap.size) hA hgA (HL.out _ (keepB hB4 hW)) (by omega)
        refine step_append_known rfl _ _ 22 22 rfl (.slice (some ⟨gA, 0, none⟩) 0 0) (.slice (some ⟨bq, oq, none⟩) es.length c) (by simp [Act.eval]) (by simp [Act.eval]) hr ?_
        replace hX := keepG hg hX (fun e => by injection e; omega)
        replace hW := hW.trans (below_grow (B := w4.heap.size) hg (fun q h1 e => by injection e; omega) hW.size)
        have hH := hS'.out _ hX
        clear hr hg hA hgA
        refine hK.out _ _ ?_ (fun hHeld => ?_)
        · with_reducible exact hH
        clear hK K hH
        try simp only [List.getElem_toArray, List.getElem_cons_succ, List.getElem_cons_zero]
        try simp only [Act.put, List.setIfInBounds_toArray, List.set_cons_zero, List.set_cons_succ]
        refine wpAnyH_ready (rs := [5,11]) (by kernel_rfl) (by simp) (AllReadyH.cons rfl (fun K hK => ?_) (AllReadyH.cons rfl (fun K hK => ?_) AllReadyH.nil))
        · refine step_build_new rfl 22 2 _ #[(0, .agg #[.int .i64 z0, .int .i64 z1, .int .i64 z2, .int .i64 z3, .int .i64 z4, .int .i64 z5]), (1, .agg #[.int .i64 z0, .int .i64 z1, .int .i64 z2, .int .i64 z3, .int .i64 z4, .int .i64 z5])] rfl (by simp [Act.eval]) #[.int .i64 z0, .int .i64 z1, .int .i64 z2, .int .i64 z3, .int .i64 z4, .int .i64 z5, .int .i64 z0, .int .i64 z1, .int .i64 z2, .int .i64 z3, .int .i64 z4, .int .i64 z5] 45 (build2_run ⟨z0, z1, z2, z3, z4, z5⟩) ?_
          intro gC wn hC hgC hb
          clear hgC
          replace hX := keepH hb hX
          replace hW := keepB hW hb
          replace hB := keepR hb hB
          have hH := hS'.out _ hX
          clear hb
          refine hK.out _ _ ?_ (fun hHeld => ?_)
          · with_reducible exact hH
          clear hK K hH
          try simp only [List.getElem_toArray, List.getElem_cons_succ, List.getElem_cons_zero]
          try simp only [Act.put, List.setIfInBounds_toArray, List.set_cons_zero, List.set_cons_succ]
          refine wpAnyH_ready (rs := [6,11]) (by kernel_rfl) (by simp) (AllReadyH.cons rfl (fun K hK => ?_) (AllReadyH.cons rfl (fun K hK => ?_) AllReadyH.nil))
          · obtain ⟨A2, ca2, wm, hr, hD', hg, -⟩ := run_append_es hB (es_heap (es := [⟨z0, z1, z2, z3, z4, z5⟩, ⟨z0, z1, z2, z3, z4, z5⟩]) hC (by simp [ecs, En.l, Od.l]) (by simp)) hW.size (by simp; omega)
            simp only [List.length_cons, List.length_nil] at hr hD'
            refine step_append_known rfl _ _ 22 22 rfl (.slice A1 es.length ca1) (.slice (some ⟨gC, 0, none⟩) 2 2) (by simp [Act.eval]) (by simp [Act.eval]) hr ?_
            replace hX := keepG hg hX (fun e => by have := (World.ownsRow.lt hB _ e).1; omega)
            replace hW := hW.trans (below_grow (B := w4.heap.size) hg (fun q h1 e => by have := (World.ownsRow.lt hB _ e).1; omega) hW.size)
            have hD := own_es (es := es ++ [⟨z0, z1, z2, z3, z4, z5⟩, ⟨z0, z1, z2, z3, z4, z5⟩]) (by rw [ecs_append]; simpa using hD') (by simp; omega)
            have hH := hS'.out _ hX
            clear hr hg hB hC hD'
            refine hK.out _ _ ?_ (fun hHeld => ?_)
            · with_reducible exact hH
            clear hK K hH
            try simp only [List.getElem_toArray, List.getElem_cons_succ, List.getElem_cons_zero]
            try simp only [Act.put, List.setIfInBounds_toArray, List.set_cons_zero, List.set_cons_succ]
            refine wpAnyH_ready (rs := [7,11]) (by kernel_rfl) (by simp) (AllReadyH.cons rfl (fun K hK => ?_) (AllReadyH.cons rfl (fun K hK => ?_) AllReadyH.nil))
            · go_simp
              refine (H2.out _ (keepB hB4 hW) _ hD).mono ?_
              rintro e wm ⟨g2, rfl, hE, hg2a, hg2b, hb⟩
              have hg4 : w4.heap.size ≤ g2 := Nat.le_trans hW.size hg2a
              obtain ⟨lo, hi, hE, hlo, hhi, hge⟩ := ocs_bounds hE
              replace hlo : w4.heap.size ≤ lo := by rw [hlo]; exact hW.size
              replace hX := keepH hb hX
              replace hW := keepB hW hb
              have hH := hS'.out _ hX
              clear hb hD hge hg2a hg2b
              go_wp2_with fail
              refine hK.out _ _ ?_ (fun hHeld => ?_)
              · with_reducible exact hH
              clear hK K hH
              try simp only [List.getElem_toArray, List.getElem_cons_succ, List.getElem_cons_zero]
              try simp only [Act.put, List.setIfInBounds_toArray, List.set_cons_zero, List.set_cons_succ]
              refine wpAnyH_take (i := 8) (v := ?_) rfl (by kernel_rfl) (by kernel_rfl) (by kernel_rfl) (fun _ _ _ h => h) (Or.inl ⟨by rfl, ?_⟩) (by assumption) ?_
              rotate_left
              · intro X hX
                go_simp
                try with_reducible rfl
              try simp only [List.getElem_toArray, List.getElem_cons_succ, List.getElem_cons_zero]
              try simp only [Act.put, List.setIfInBounds_toArray, List.set_cons_zero, List.set_cons_succ]
              refine wpAnyH_take (i := 9) (v := ?_) rfl (by kernel_rfl) (by kernel_rfl) (by kernel_rfl) (fun _ _ _ h => h) (Or.inl ⟨by rfl, ?_⟩) (by assumption) ?_
              rotate_left
              · intro X hX
                go_simp
                try with_reducible rfl
              try simp only [List.getElem_toArray, List.getElem_cons_succ, List.getElem_cons_zero]
              try simp only [Act.put, List.setIfInBounds_toArray, List.set_cons_zero, List.set_cons_succ]
              refine wpAnyH_take (i := 10) (v := ?_) rfl (by kernel_rfl) (by kernel_rfl) (by kernel_rfl) (fun _ _ _ h => h) (Or.inl ⟨by rfl, ?_⟩) (by assumption) ?_
              rotate_left
              · intro X hX
                go_simp
                try with_reducible rfl
              try simp only [List.getElem_toArray, List.getElem_cons_succ, List.getElem_cons_zero]
              try simp only [Act.put, List.setIfInBounds_toArray, List.set_cons_zero, List.set_cons_succ]
              refine wpAnyH_ready (rs := [11]) (by kernel_rfl) (by simp) (AllReadyH.cons rfl (fun K hK => ?_) AllReadyH.nil)
              · refine step_alloc_new rfl 25 rfl _ alloc_st ?_
                intro gF wn hF hgF hb
                have hsep : gF < lo ∨ hi ≤ gF := .inr (Nat.le_trans hhi hgF)
                replace hgF : w4.heap.size ≤ gF := Nat.le_trans hW.size hgF
                replace hX := keepH hb hX
                replace hW := keepB hW hb
                replace hE := hE.below hb hhi
                replace hhi := Nat.le_trans hhi hb.size
                have hH := hS'.out _ hX
                clear hb
                refine hK.out _ _ ?_ (fun hHeld => ?_)
                · with_reducible exact hH
                clear hK K hH
                try simp only [List.getElem_toArray, List.getElem_cons_succ, List.getElem_cons_zero]
                try simp only [Act.put, List.setIfInBounds_toArray, List.set_cons_zero, List.set_cons_succ]
                refine wpAnyH_ready (rs := [12]) (by kernel_rfl) (by simp) (AllReadyH.cons rfl (fun K hK => ?_) AllReadyH.nil)
                · obtain ⟨wm, HST, hG, hbl, hzz, hoth⟩ := st_store (n := w4.heap.size) T2.tag T2.cl T2.sum T2.ver hF rfl hgF
                  refine step_store_known rfl 25 _ _ rfl ⟨gF, 0, none⟩ (.agg #[.int .i64 T2.tag, .bool T2.cl, .int .i64 T2.sum, .int .i64 T2.ver]) (by simp [Act.eval]) (by simp [Act.eval]) HST ?_
                  replace hX := (hoth _ (by omega)).trans hX
                  replace hW := hW.trans hbl
                  replace hE := hE.keep (fun q h1 h2 => hoth q (by rcases hsep with h | h <;> omega)) (Nat.le_refl _) (Nat.le_refl _)
                  replace hhi : hi ≤ wm.heap.size := by omega
                  have hH := hS'.out _ hX
                  clear HST hbl hzz hoth hF hsep
                  refine hK.out _ _ ?_ (fun hHeld => ?_)
                  · with_reducible exact hH
                  clear hK K hH
                  try simp only [List.getElem_toArray, List.getElem_cons_succ, List.getElem_cons_zero]
                  try simp only [Act.put]
                  refine wpAnyH_take (i := 13) (v := ?_) rfl (by kernel_rfl) (by kernel_rfl) (by kernel_rfl) (fun _ _ _ h => h) (Or.inl ⟨by rfl, ?_⟩) (by assumption) ?_
                  rotate_left
                  · intro X hX
                    go_simp
                    try with_reducible rfl
                  try simp only [List.getElem_toArray, List.getElem_cons_succ, List.getElem_cons_zero]
                  try simp only [Act.put, List.setIfInBounds_toArray, List.set_cons_zero, List.set_cons_succ]
                  refine wpAnyH_done (by kernel_rfl) ?_ _
                  go_wp2_with fail
                  go_meet
                  case rel => exact ⟨gF, g2, rfl, rfl, Lib.hid hG, Lib.hid (hE.keep (fun _ _ _ => rfl) hlo hhi), Lib.hid hW, hgF, hg4⟩
            · refine step_alloc_new rfl 25 rfl _ alloc_st ?_
              intro gF wn hF hgF hb
              replace hgF : w4.heap.size ≤ gF := Nat.le_trans hW.size hgF
              replace hX := keepH hb hX
              replace hW := keepB hW hb
              replace hD := keepE hb hD
              have hH := hS'.out _ hX
              clear hb
              refine hK.out _ _ ?_ (fun hHeld => ?_)
              · with_reducible exact hH
              clear hK K hH
              try simp only [List.getElem_toArray, List.getElem_cons_succ, List.getElem_cons_zero]
              try simp only [Act.put, List.setIfInBounds_toArray, List.set_cons_zero, List.set_cons_succ]
              refine wpAnyH_ready (rs := [7]) (by kernel_rfl) (by simp) (AllReadyH.cons rfl (fun K hK => ?_) AllReadyH.nil)
              · go_simp
                refine (H2.out _ (keepB hB4 hW) _ hD).mono ?_
                rintro e wm ⟨g2, rfl, hE, hg2a, hg2b, hb⟩
                have hg4 : w4.heap.size ≤ g2 := Nat.le_trans hW.size hg2a
                obtain ⟨lo, hi, hE, hlo, hhi, hge⟩ := ocs_bounds hE
                have hsep : gF < lo ∨ hi ≤ gF := .inl (by rw [hlo]; exact lt_of_block hF)
                replace hlo : w4.heap.size ≤ lo := by rw [hlo]; exact hW.size
                replace hX := keepH hb hX
                replace hW := keepB hW hb
                replace hF := keepH hb hF
                have hH := hS'.out _ hX
                clear hb hD hge hg2a hg2b
                go_wp2_with fail
                refine hK.out _ _ ?_ (fun hHeld => ?_)
                · with_reducible exact hH
                clear hK K hH
                try simp only [List.getElem_toArray, List.getElem_cons_succ, List.getElem_cons_zero]
                try simp only [Act.put, List.setIfInBounds_toArray, List.set_cons_zero, List.set_cons_succ]
                refine wpAnyH_take (i := 8) (v := ?_) rfl (by kernel_rfl) (by kernel_rfl) (by kernel_rfl) (fun _ _ _ h => h) (Or.inl ⟨by rfl, ?_⟩) (by assumption) ?_
                rotate_left
                · intro X hX
                  go_simp
                  try with_reducible rfl
                try simp only [List.getElem_toArray, List.getElem_cons_succ, List.getElem_cons_zero]
                try simp only [Act.put, List.setIfInBounds_toArray, List.set_cons_zero, List.set_cons_succ]
                refine wpAnyH_take (i := 9) (v := ?_) rfl (by kernel_rfl) (by kernel_rfl) (by kernel_rfl) (fun _ _ _ h => h) (Or.inl ⟨by rfl, ?_⟩) (by assumption) ?_
                rotate_left
                · intro X hX
                  go_simp
                  try with_reducible rfl
                try simp only [List.getElem_toArray, List.getElem_cons_succ, List.getElem_cons_zero]
                try simp only [Act.put, List.setIfInBounds_toArray, List.set_cons_zero, List.set_cons_succ]
                refine wpAnyH_take (i := 10) (v := ?_) rfl (by kernel_rfl) (by kernel_rfl) (by kernel_rfl) (fun _ _ _ h => h) (Or.inl ⟨by rfl, ?_⟩) (by assumption) ?_
                rotate_left
                · intro X hX
                  go_simp
                  try with_reducible rfl
                try simp only [List.getElem_toArray, List.getElem_cons_succ, List.getElem_cons_zero]
                try simp only [Act.put, List.setIfInBounds_toArray, List.set_cons_zero, List.set_cons_succ]
                refine wpAnyH_ready (rs := [12]) (by kernel_rfl) (by simp) (AllReadyH.cons rfl (fun K hK => ?_) AllReadyH.nil)
                · obtain ⟨wm, HST, hG, hbl, hzz, hoth⟩ := st_store (n := w4.heap.size) T2.tag T2.cl T2.sum T2.ver hF rfl hgF
                  refine step_store_known rfl 25 _ _ rfl ⟨gF, 0, none⟩ (.agg #[.int .i64 T2.tag, .bool T2.cl, .int .i64 T2.sum, .int .i64 T2.ver]) (by simp [Act.eval]) (by simp [Act.eval]) HST ?_
                  replace hX := (hoth _ (by omega)).trans hX
                  replace hW := hW.trans hbl
                  replace hE := hE.keep (fun q h1 h2 => hoth q (by rcases hsep with h | h <;> omega)) (Nat.le_refl _) (Nat.le_refl _)
                  replace hhi : hi ≤ wm.heap.size := by omega
                  have hH := hS'.out _ hX
                  clear HST hbl hzz hoth hF hsep
                  refine hK.out _ _ ?_ (fun hHeld => ?_)
                  · with_reducible exact hH
                  clear hK K hH
                  try simp only [List.getElem_toArray, List.getElem_cons_succ, List.getElem_cons_zero]
                  try simp only [Act.put]
                  refine wpAnyH_take (i := 13) (v := ?_) rfl (by kernel_rfl) (by kernel_rfl) (by kernel_rfl) (fun _ _ _ h => h) (Or.inl ⟨by rfl, ?_⟩) (by assumption) ?_
                  rotate_left
                  · intro X hX
                    go_simp
                    try with_reducible rfl
                  try simp only [List.getElem_toArray, List.getElem_cons_succ, List.getElem_cons_zero]
                  try simp only [Act.put, List.setIfInBounds_toArray, List.set_cons_zero, List.set_cons_succ]
                  refine wpAnyH_done (by kernel_rfl) ?_ _
                  go_wp2_with fail
                  go_meet
                  case rel => exact ⟨gF, g2, rfl, rfl, Lib.hid hG, Lib.hid (hE.keep (fun _ _ _ => rfl) hlo hhi), Lib.hid hW, hgF, hg4⟩
          · refine step_alloc_new rfl 25 rfl _ alloc_st ?_
            intro gF wn hF hgF hb
            replace hgF : w4.heap.size ≤ gF := Nat.le_trans hW.size hgF
            replace hX := keepH hb hX
            replace hW := keepB hW hb
            replace hB := keepR hb hB
            replace hC := keepH hb hC
            have hH := hS'.out _ hX
            clear hb
            refine hK.out _ _ ?_ (fun hHeld => ?_)
            · with_reducible exact hH
            clear hK K hH
            try simp only [List.getElem_toArray, List.getElem_cons_succ, List.getElem_cons_zero]
            try simp only [Act.put, List.setIfInBounds_toArray, List.set_cons_zero, List.set_cons_succ]
            refine wpAnyH_ready (rs := [6]) (by kernel_rfl) (by simp) (AllReadyH.cons rfl (fun K hK => ?_) AllReadyH.nil)
            · obtain ⟨A2, ca2, wm, hr, hD', hg, -⟩ := run_append_es hB (es_heap (es := [⟨z0, z1, z2, z3, z4, z5⟩, ⟨z0, z1, z2, z3, z4, z5⟩]) hC (by simp [ecs, En.l, Od.l]) (by simp)) hW.size (by simp; omega)
              simp only [List.length_cons, List.length_nil] at hr hD'
              refine step_append_known rfl _ _ 22 22 rfl (.slice A1 es.length ca1) (.slice (some ⟨gC, 0, none⟩) 2 2) (by simp [Act.eval]) (by simp [Act.eval]) hr ?_
              replace hX := keepG hg hX (fun e => by have := (World.ownsRow.lt hB _ e).1; omega)
              replace hF := keepG hg hF (own_ne_state hB hF)
              replace hW := hW.trans (below_grow (B := w4.heap.size) hg (fun q h1 e => by have := (World.ownsRow.lt hB _ e).1; omega) hW.size)
              have hD := own_es (es := es ++ [⟨z0, z1, z2, z3, z4, z5⟩, ⟨z0, z1, z2, z3, z4, z5⟩]) (by rw [ecs_append]; simpa using hD') (by simp; omega)
              have hH := hS'.out _ hX
              clear hr hg hB hC hD'
              refine hK.out _ _ ?_ (fun hHeld => ?_)
              · with_reducible exact hH
              clear hK K hH
              try simp only [List.getElem_toArray, List.getElem_cons_succ, List.getElem_cons_zero]
              try simp only [Act.put, List.setIfInBounds_toArray, List.set_cons_zero, List.set_cons_succ]
              refine wpAnyH_ready (rs := [7]) (by kernel_rfl) (by simp) (AllReadyH.cons rfl (fun K hK => ?_) AllReadyH.nil)
              · go_simp
                refine (H2.out _ (keepB hB4 hW) _ hD).mono ?_
                rintro e wm ⟨g2, rfl, hE, hg2a, hg2b, hb⟩
                have hg4 : w4.heap.size ≤ g2 := Nat.le_trans hW.size hg2a
                obtain ⟨lo, hi, hE, hlo, hhi, hge⟩ := ocs_bounds hE
                have hsep : gF < lo ∨ hi ≤ gF := .inl (by rw [hlo]; exact lt_of_block hF)
                replace hlo : w4.heap.size ≤ lo := by rw [hlo]; exact hW.size
                replace hX := keepH hb hX
                replace hW := keepB hW hb
                replace hF := keepH hb hF
                have hH := hS'.out _ hX
                clear hb hD hge hg2a hg2b
                go_wp2_with fail
                refine hK.out _ _ ?_ (fun hHeld => ?_)
                · with_reducible exact hH
                clear hK K hH
                try simp only [List.getElem_toArray, List.getElem_cons_succ, List.getElem_cons_zero]
                try simp only [Act.put, List.setIfInBounds_toArray, List.set_cons_zero, List.set_cons_succ]
                refine wpAnyH_take (i := 8) (v := ?_) rfl (by kernel_rfl) (by kernel_rfl) (by kernel_rfl) (fun _ _ _ h => h) (Or.inl ⟨by rfl, ?_⟩) (by assumption) ?_
                rotate_left
                · intro X hX
                  go_simp
                  try with_reducible rfl
                try simp only [List.getElem_toArray, List.getElem_cons_succ, List.getElem_cons_zero]
                try simp only [Act.put, List.setIfInBounds_toArray, List.set_cons_zero, List.set_cons_succ]
                refine wpAnyH_take (i := 9) (v := ?_) rfl (by kernel_rfl) (by kernel_rfl) (by kernel_rfl) (fun _ _ _ h => h) (Or.inl ⟨by rfl, ?_⟩) (by assumption) ?_
                rotate_left
                · intro X hX
                  go_simp
                  try with_reducible rfl
                try simp only [List.getElem_toArray, List.getElem_cons_succ, List.getElem_cons_zero]
                try simp only [Act.put, List.setIfInBounds_toArray, List.set_cons_zero, List.set_cons_succ]
                refine wpAnyH_take (i := 10) (v := ?_) rfl (by kernel_rfl) (by kernel_rfl) (by kernel_rfl) (fun _ _ _ h => h) (Or.inl ⟨by rfl, ?_⟩) (by assumption) ?_
                rotate_left
                · intro X hX
                  go_simp
                  try with_reducible rfl
                try simp only [List.getElem_toArray, List.getElem_cons_succ, List.getElem_cons_zero]
                try simp only [Act.put, List.setIfInBounds_toArray, List.set_cons_zero, List.set_cons_succ]
                refine wpAnyH_ready (rs := [12]) (by kernel_rfl) (by simp) (AllReadyH.cons rfl (fun K hK => ?_) AllReadyH.nil)
                · obtain ⟨wm, HST, hG, hbl, hzz, hoth⟩ := st_store (n := w4.heap.size) T2.tag T2.cl T2.sum T2.ver hF rfl hgF
                  refine step_store_known rfl 25 _ _ rfl ⟨gF, 0, none⟩ (.agg #[.int .i64 T2.tag, .bool T2.cl, .int .i64 T2.sum, .int .i64 T2.ver]) (by simp [Act.eval]) (by simp [Act.eval]) HST ?_
                  replace hX := (hoth _ (by omega)).trans hX
                  replace hW := hW.trans hbl
                  replace hE := hE.keep (fun q h1 h2 => hoth q (by rcases hsep with h | h <;> omega)) (Nat.le_refl _) (Nat.le_refl _)
                  replace hhi : hi ≤ wm.heap.size := by omega
                  have hH := hS'.out _ hX
                  clear HST hbl hzz hoth hF hsep
                  refine hK.out _ _ ?_ (fun hHeld => ?_)
                  · with_reducible exact hH
                  clear hK K hH
                  try simp only [List.getElem_toArray, List.getElem_cons_succ, List.getElem_cons_zero]
                  try simp only [Act.put]
                  refine wpAnyH_take (i := 13) (v := ?_) rfl (by kernel_rfl) (by kernel_rfl) (by kernel_rfl) (fun _ _ _ h => h) (Or.inl ⟨by rfl, ?_⟩) (by assumption) ?_
                  rotate_left
                  · intro X hX
                    go_simp
                    try with_reducible rfl
                  try simp only [List.getElem_toArray, List.getElem_cons_succ, List.getElem_cons_zero]
                  try simp only [Act.put, List.setIfInBounds_toArray, List.set_cons_zero, List.set_cons_succ]
                  refine wpAnyH_done (by kernel_rfl) ?_ _
                  go_wp2_with fail
                  go_meet
                  case rel => exact ⟨gF, g2, rfl, rfl, Lib.hid hG, Lib.hid (hE.keep (fun _ _ _ => rfl) hlo hhi), Lib.hid hW, hgF, hg4⟩
        · refine step_alloc_new rfl 25 rfl _ alloc_st ?_
          intro gF wn hF hgF hb
          replace hgF : w4.heap.size ≤ gF := Nat.le_trans hW.size hgF
          replace hX := keepH hb hX
          replace hW := keepB hW hb
          replace hB := keepR hb hB
          have hH := hS'.out _ hX
          clear hb
          refine hK.out _ _ ?_ (fun hHeld => ?_)
          · with_reducible exact hH
          clear hK K hH
          try simp only [List.getElem_toArray, List.getElem_cons_succ, List.getElem_cons_zero]
          try simp only [Act.put, List.setIfInBounds_toArray, List.set_cons_zero, List.set_cons_succ]
          refine wpAnyH_ready (rs := [5]) (by kernel_rfl) (by simp) (AllReadyH.cons rfl (fun K hK => ?_) AllReadyH.nil)
          · refine step_build_new rfl 22 2 _ #[(0, .agg #[.int .i64 z0, .int .i64 z1, .int .i64 z2, .int .i64 z3, .int .i64 z4, .int .i64 z5]), (1, .agg #[.int .i64 z0, .int .i64 z1, .int .i64 z2, .int .i64 z3, .int .i64 z4, .int .i64 z5])] rfl (by simp [Act.eval]) #[.int .i64 z0, .int .i64 z1, .int .i64 z2, .int .i64 z3, .int .i64 z4, .int .i64 z5, .int .i64 z0, .int .i64 z1, .int .i64 z2, .int .i64 z3, .int .i64 z4, .int .i64 z5] 45 (build2_run ⟨z0, z1, z2, z3, z4, z5⟩) ?_
            intro gC wn hC hgC hb
            clear hgC
            replace hX := keepH hb hX
            replace hW := keepB hW hb
            replace hB := keepR hb hB
            replace hF := keepH hb hF
            have hH := hS'.out _ hX
            clear hb
            refine hK.out _ _ ?_ (fun hHeld => ?_)
            · with_reducible exact hH
            clear hK K hH
            try simp only [List.getElem_toArray, List.getElem_cons_succ, List.getElem_cons_zero]
            try simp only [Act.put, List.setIfInBounds_toArray, List.set_cons_zero, List.set_cons_succ]
            refine wpAnyH_ready (rs := [6]) (by kernel_rfl) (by simp) (AllReadyH.cons rfl (fun K hK => ?_) AllReadyH.nil)
            · obtain ⟨A2, ca2, wm, hr, hD', hg, -⟩ := run_append_es hB (es_heap (es := [⟨z0, z1, z2, z3, z4, z5⟩, ⟨z0, z1, z2, z3, z4, z5⟩]) hC (by simp [ecs, En.l, Od.l]) (by simp)) hW.size (by simp; omega)
              simp only [List.length_cons, List.length_nil] at hr hD'
              refine step_append_known rfl _ _ 22 22 rfl (.slice A1 es.length ca1) (.slice (some ⟨gC, 0, none⟩) 2 2) (by simp [Act.eval]) (by simp [Act.eval]) hr ?_
              replace hX := keepG hg hX (fun e => by have := (World.ownsRow.lt hB _ e).1; omega)
              replace hF := keepG hg hF (own_ne_state hB hF)
              replace hW := hW.trans (below_grow (B := w4.heap.size) hg (fun q h1 e => by have := (World.ownsRow.lt hB _ e).1; omega) hW.size)
              have hD := own_es (es := es ++ [⟨z0, z1, z2, z3, z4, z5⟩, ⟨z0, z1, z2, z3, z4, z5⟩]) (by rw [ecs_append]; simpa using hD') (by simp; omega)
              have hH := hS'.out _ hX
              clear hr hg hB hC hD'
              refine hK.out _ _ ?_ (fun hHeld => ?_)
              · with_reducible exact hH
              clear hK K hH
              try simp only [List.getElem_toArray, List.getElem_cons_succ, List.getElem_cons_zero]
              try simp only [Act.put, List.setIfInBounds_toArray, List.set_cons_zero, List.set_cons_succ]
              refine wpAnyH_ready (rs := [7]) (by kernel_rfl) (by simp) (AllReadyH.cons rfl (fun K hK => ?_) AllReadyH.nil)
              · go_simp
                refine (H2.out _ (keepB hB4 hW) _ hD).mono ?_
                rintro e wm ⟨g2, rfl, hE, hg2a, hg2b, hb⟩
                have hg4 : w4.heap.size ≤ g2 := Nat.le_trans hW.size hg2a
                obtain ⟨lo, hi, hE, hlo, hhi, hge⟩ := ocs_bounds hE
                have hsep : gF < lo ∨ hi ≤ gF := .inl (by rw [hlo]; exact lt_of_block hF)
                replace hlo : w4.heap.size ≤ lo := by rw [hlo]; exact hW.size
                replace hX := keepH hb hX
                replace hW := keepB hW hb
                replace hF := keepH hb hF
                have hH := hS'.out _ hX
                clear hb hD hge hg2a hg2b
                go_wp2_with fail
                refine hK.out _ _ ?_ (fun hHeld => ?_)
                · with_reducible exact hH
                clear hK K hH
                try simp only [List.getElem_toArray, List.getElem_cons_succ, List.getElem_cons_zero]
                try simp only [Act.put, List.setIfInBounds_toArray, List.set_cons_zero, List.set_cons_succ]
                refine wpAnyH_take (i := 8) (v := ?_) rfl (by kernel_rfl) (by kernel_rfl) (by kernel_rfl) (fun _ _ _ h => h) (Or.inl ⟨by rfl, ?_⟩) (by assumption) ?_
                rotate_left
                · intro X hX
                  go_simp
                  try with_reducible rfl
                try simp only [List.getElem_toArray, List.getElem_cons_succ, List.getElem_cons_zero]
                try simp only [Act.put, List.setIfInBounds_toArray, List.set_cons_zero, List.set_cons_succ]
                refine wpAnyH_take (i := 9) (v := ?_) rfl (by kernel_rfl) (by kernel_rfl) (by kernel_rfl) (fun _ _ _ h => h) (Or.inl ⟨by rfl, ?_⟩) (by assumption) ?_
                rotate_left
                · intro X hX
                  go_simp
                  try with_reducible rfl
                try simp only [List.getElem_toArray, List.getElem_cons_succ, List.getElem_cons_zero]
                try simp only [Act.put, List.setIfInBounds_toArray, List.set_cons_zero, List.set_cons_succ]
                refine wpAnyH_take (i := 10) (v := ?_) rfl (by kernel_rfl) (by kernel_rfl) (by kernel_rfl) (fun _ _ _ h => h) (Or.inl ⟨by rfl, ?_⟩) (by assumption) ?_
                rotate_left
                · intro X hX
                  go_simp
                  try with_reducible rfl
                try simp only [List.getElem_toArray, List.getElem_cons_succ, List.getElem_cons_zero]
                try simp only [Act.put, List.setIfInBounds_toArray, List.set_cons_zero, List.set_cons_succ]
                refine wpAnyH_ready (rs := [12]) (by kernel_rfl) (by simp) (AllReadyH.cons rfl (fun K hK => ?_) AllReadyH.nil)
                · obtain ⟨wm, HST, hG, hbl, hzz, hoth⟩ := st_store (n := w4.heap.size) T2.tag T2.cl T2.sum T2.ver hF rfl hgF
                  refine step_store_known rfl 25 _ _ rfl ⟨gF, 0, none⟩ (.agg #[.int .i64 T2.tag, .bool T2.cl, .int .i64 T2.sum, .int .i64 T2.ver]) (by simp [Act.eval]) (by simp [Act.eval]) HST ?_
                  replace hX := (hoth _ (by omega)).trans hX
                  replace hW := hW.trans hbl
                  replace hE := hE.keep (fun q h1 h2 => hoth q (by rcases hsep with h | h <;> omega)) (Nat.le_refl _) (Nat.le_refl _)
                  replace hhi : hi ≤ wm.heap.size := by omega
                  have hH := hS'.out _ hX
                  clear HST hbl hzz hoth hF hsep
                  refine hK.out _ _ ?_ (fun hHeld => ?_)
                  · with_reducible exact hH
                  clear hK K hH
                  try simp only [List.getElem_toArray, List.getElem_cons_succ, List.getElem_cons_zero]
                  try simp only [Act.put]
                  refine wpAnyH_take (i := 13) (v := ?_) rfl (by kernel_rfl) (by kernel_rfl) (by kernel_rfl) (fun _ _ _ h => h) (Or.inl ⟨by rfl, ?_⟩) (by assumption) ?_
                  rotate_left
                  · intro X hX
                    go_simp
                    try with_reducible rfl
                  try simp only [List.getElem_toArray, List.getElem_cons_succ, List.getElem_cons_zero]
                  try simp only [Act.put, List.setIfInBounds_toArray, List.set_cons_zero, List.set_cons_succ]
                  refine wpAnyH_done (by kernel_rfl) ?_ _
                  go_wp2_with fail
                  go_meet
                  case rel => exact ⟨gF, g2, rfl, rfl, Lib.hid hG, Lib.hid (hE.keep (fun _ _ _ => rfl) hlo hhi), Lib.hid hW, hgF, hg4⟩
      · refine step_build_new rfl 22 2 _ #[(0, .agg #[.int .i64 z0, .int .i64 z1, .int .i64 z2, .int .i64 z3, .int .i64 z4, .int .i64 z5]), (1, .agg #[.int .i64 z0, .int .i64 z1, .int .i64 z2, .int .i64 z3, .int .i64 z4, .int .i64 z5])] rfl (by simp [Act.eval]) #[.int .i64 z0, .int .i64 z1, .int .i64 z2, .int .i64 z3, .int .i64 z4, .int .i64 z5, .int .i64 z0, .int .i64 z1, .int .i64 z2, .int .i64 z3, .int .i64 z4, .int .i64 z5] 45 (build2_run ⟨z0, z1, z2, z3, z4, z5⟩) ?_
        intro gC wn hC hgC hb
        clear hgC
        replace hX := keepH hb hX
        replace hW := keepB hW hb
        replace hA := keepH hb hA
        have hH := hS'.out _ hX
        clear hb
        refine hK.out _ _ ?_ (fun hHeld => ?_)
        · with_reducible exact hH
        clear hK K hH
        try simp only [List.getElem_toArray, List.getElem_cons_succ, List.getElem_cons_zero]
        try simp only [Act.put, List.setIfInBounds_toArray, List.set_cons_zero, List.set_cons_succ]
        refine wpAnyH_ready (rs := [2,11]) (by kernel_rfl) (by simp) (AllReadyH.cons rfl (fun K hK => ?_) (AllReadyH.cons rfl (fun K hK => ?_) AllReadyH.nil))
        · obtain ⟨A1, ca1, wm, hr, hB, hg⟩ := put_log (base := w4.heap.size) hA hgA (HL.out _ (keepB hB4 hW)) (by omega)
          refine step_append_known rfl _ _ 22 22 rfl (.slice (some ⟨gA, 0, none⟩) 0 0) (.slice (some ⟨bq, oq, none⟩) es.length c) (by simp [Act.eval]) (by simp [Act.eval]) hr ?_
          replace hX := keepG hg hX (fun e => by injection e; omega)
          replace hC := keepG hg hC (fun e => ne_heap hA hC (by simp) (Option.some.inj e))
          replace hW := hW.trans (below_grow (B := w4.heap.size) hg (fun q h1 e => by injection e; omega) hW.size)
          have hH := hS'.out _ hX
          clear hr hg hA hgA
          refine hK.out _ _ ?_ (fun hHeld => ?_)
          · with_reducible exact hH
          clear hK K hH
          try simp only [List.getElem_toArray, List.getElem_cons_succ, List.getElem_cons_zero]
          try simp only [Act.put, List.setIfInBounds_toArray, List.set_cons_zero, List.set_cons_succ]
          refine wpAnyH_ready (rs := [6,11]) (by kernel_rfl) (by simp) (AllReadyH.cons rfl (fun K hK => ?_) (AllReadyH.cons rfl (fun K hK => ?_) AllReadyH.nil))
          · obtain ⟨A2, ca2, wm, hr, hD', hg, -⟩ := run_append_es hB (es_heap (es := [⟨z0, z1, z2, z3, z4, z5⟩, ⟨z0, z1, z2, z3, z4, z5⟩]) hC (by simp [ecs, En.l, Od.l]) (by simp)) hW.size (by simp; omega)
            simp only [List.length_cons, List.length_nil] at hr hD'
            refine step_append_known rfl _ _ 22 22 rfl (.slice A1 es.length ca1) (.slice (some ⟨gC, 0, none⟩) 2 2) (by simp [Act.eval]) (by simp [Act.eval]) hr ?_
            replace hX := keepG hg hX (fun e => by have := (World.ownsRow.lt hB _ e).1; omega)
            replace hW := hW.trans (below_grow (B := w4.heap.size) hg (fun q h1 e => by have := (World.ownsRow.lt hB _ e).1; omega) hW.size)
            have hD := own_es (es := es ++ [⟨z0, z1, z2, z3, z4, z5⟩, ⟨z0, z1, z2, z3, z4, z5⟩]) (by rw [ecs_append]; simpa using hD') (by simp; omega)
            have hH := hS'.out _ hX
            clear hr hg hB hC hD'
            refine hK.out _ _ ?_ (fun hHeld => ?_)
            · with_reducible exact hH
            clear hK K hH
            try simp only [List.getElem_toArray, List.getElem_cons_succ, List.getElem_cons_zero]
            try simp only [Act.put, List.setIfInBounds_toArray, List.set_cons_zero, List.set_cons_succ]
            refine wpAnyH_ready (rs := [7,11]) (by kernel_rfl) (by simp) (AllReadyH.cons rfl (fun K hK => ?_) (AllReadyH.cons rfl (fun K hK => ?_) AllReadyH.nil))
            · go_simp
              refine (H2.out _ (keepB hB4 hW) _ hD).mono ?_
              rintro e wm ⟨g2, rfl, hE, hg2a, hg2b, hb⟩
              have hg4 : w4.heap.size ≤ g2 := Nat.le_trans hW.size hg2a
              obtain ⟨lo, hi, hE, hlo, hhi, hge⟩ := ocs_bounds hE
              replace hlo : w4.heap.size ≤ lo := by rw [hlo]; exact hW.size
              replace hX := keepH hb hX
              replace hW := keepB hW hb
              have hH := hS'.out _ hX
              clear hb hD hge hg2a hg2b
              go_wp2_with fail
              refine hK.out _ _ ?_ (fun hHeld => ?_)
              · with_reducible exact hH
              clear hK K hH
              try simp only [List.getElem_toArray, List.getElem_cons_succ, List.getElem_cons_zero]
              try simp only [Act.put, List.setIfInBounds_toArray, List.set_cons_zero, List.set_cons_succ]
              refine wpAnyH_take (i := 8) (v := ?_) rfl (by kernel_rfl) (by kernel_rfl) (by kernel_rfl) (fun _ _ _ h => h) (Or.inl ⟨by rfl, ?_⟩) (by assumption) ?_
              rotate_left
              · intro X hX
                go_simp
                try with_reducible rfl
              try simp only [List.getElem_toArray, List.getElem_cons_succ, List.getElem_cons_zero]
              try simp only [Act.put, List.setIfInBounds_toArray, List.set_cons_zero, List.set_cons_succ]
              refine wpAnyH_take (i := 9) (v := ?_) rfl (by kernel_rfl) (by kernel_rfl) (by kernel_rfl) (fun _ _ _ h => h) (Or.inl ⟨by rfl, ?_⟩) (by assumption) ?_
              rotate_left
              · intro X hX
                go_simp
                try with_reducible rfl
              try simp only [List.getElem_toArray, List.getElem_cons_succ, List.getElem_cons_zero]
              try simp only [Act.put, List.setIfInBounds_toArray, List.set_cons_zero, List.set_cons_succ]
              refine wpAnyH_take (i := 10) (v := ?_) rfl (by kernel_rfl) (by kernel_rfl) (by kernel_rfl) (fun _ _ _ h => h) (Or.inl ⟨by rfl, ?_⟩) (by assumption) ?_
              rotate_left
              · intro X hX
                go_simp
                try with_reducible rfl
              try simp only [List.getElem_toArray, List.getElem_cons_succ, List.getElem_cons_zero]
              try simp only [Act.put, List.setIfInBounds_toArray, List.set_cons_zero, List.set_cons_succ]
              refine wpAnyH_ready (rs := [11]) (by kernel_rfl) (by simp) (AllReadyH.cons rfl (fun K hK => ?_) AllReadyH.nil)
              · refine step_alloc_new rfl 25 rfl _ alloc_st ?_
                intro gF wn hF hgF hb
                have hsep : gF < lo ∨ hi ≤ gF := .inr (Nat.le_trans hhi hgF)
                replace hgF : w4.heap.size ≤ gF := Nat.le_trans hW.size hgF
                replace hX := keepH hb hX
                replace hW := keepB hW hb
                replace hE := hE.below hb hhi
                replace hhi := Nat.le_trans hhi hb.size
                have hH := hS'.out _ hX
                clear hb
                refine hK.out _ _ ?_ (fun hHeld => ?_)
                · with_reducible exact hH
                clear hK K hH
                try simp only [List.getElem_toArray, List.getElem_cons_succ, List.getElem_cons_zero]
                try simp only [Act.put, List.setIfInBounds_toArray, List.set_cons_zero, List.set_cons_succ]
                refine wpAnyH_ready (rs := [12]) (by kernel_rfl) (by simp) (AllReadyH.cons rfl (fun K hK => ?_) AllReadyH.nil)
                · obtain ⟨wm, HST, hG, hbl, hzz, hoth⟩ := st_store (n := w4.heap.size) T2.tag T2.cl T2.sum T2.ver hF rfl hgF
                  refine step_store_known rfl 25 _ _ rfl ⟨gF, 0, none⟩ (.agg #[.int .i64 T2.tag, .bool T2.cl, .int .i64 T2.sum, .int .i64 T2.ver]) (by simp [Act.eval]) (by simp [Act.eval]) HST ?_
                  replace hX := (hoth _ (by omega)).trans hX
                  replace hW := hW.trans hbl
                  replace hE := hE.keep (fun q h1 h2 => hoth q (by rcases hsep with h | h <;> omega)) (Nat.le_refl _) (Nat.le_refl _)
                  replace hhi : hi ≤ wm.heap.size := by omega
                  have hH := hS'.out _ hX
                  clear HST hbl hzz hoth hF hsep
                  refine hK.out _ _ ?_ (fun hHeld => ?_)
                  · with_reducible exact hH
                  clear hK K hH
                  try simp only [List.getElem_toArray, List.getElem_cons_succ, List.getElem_cons_zero]
                  try simp only [Act.put]
                  refine wpAnyH_take (i := 13) (v := ?_) rfl (by kernel_rfl) (by kernel_rfl) (by kernel_rfl) (fun _ _ _ h => h) (Or.inl ⟨by rfl, ?_⟩) (by assumption) ?_
                  rotate_left
                  · intro X hX
                    go_simp
                    try with_reducible rfl
                  try simp only [List.getElem_toArray, List.getElem_cons_succ, List.getElem_cons_zero]
                  try simp only [Act.put, List.setIfInBounds_toArray, List.set_cons_zero, List.set_cons_succ]
                  refine wpAnyH_done (by kernel_rfl) ?_ _
                  go_wp2_with fail
                  go_meet
                  case rel => exact ⟨gF, g2, rfl, rfl, Lib.hid hG, Lib.hid (hE.keep (fun _ _ _ => rfl) hlo hhi), Lib.hid hW, hgF, hg4⟩
            · refine step_alloc_new rfl 25 rfl _ alloc_st ?_
              intro gF wn hF hgF hb
              replace hgF : w4.heap.size ≤ gF := Nat.le_trans hW.size hgF
              replace hX := keepH hb hX
              replace hW := keepB hW hb
              replace hD := keepE hb hD
              have hH := hS'.out _ hX
              clear hb
              refine hK.out _ _ ?_ (fun hHeld => ?_)
              · with_reducible exact hH
              clear hK K hH
              try simp only [List.getElem_toArray, List.getElem_cons_succ, List.getElem_cons_zero]
              try simp only [Act.put, List.setIfInBounds_toArray, List.set_cons_zero, List.set_cons_succ]
              refine wpAnyH_ready (rs := [7]) (by kernel_rfl) (by simp) (AllReadyH.cons rfl (fun K hK => ?_) AllReadyH.nil)
              · go_simp
                refine (H2.out _ (keepB hB4 hW) _ hD).mono ?_
                rintro e wm ⟨g2, rfl, hE, hg2a, hg2b, hb⟩
                have hg4 : w4.heap.size ≤ g2 := Nat.le_trans hW.size hg2a
                obtain ⟨lo, hi, hE, hlo, hhi, hge⟩ := ocs_bounds hE
                have hsep : gF < lo ∨ hi ≤ gF := .inl (by rw [hlo]; exact lt_of_block hF)
                replace hlo : w4.heap.size ≤ lo := by rw [hlo]; exact hW.size
                replace hX := keepH hb hX
                replace hW := keepB hW hb
                replace hF := keepH hb hF
                have hH := hS'.out _ hX
                clear hb hD hge hg2a hg2b
                go_wp2_with fail
                refine hK.out _ _ ?_ (fun hHeld => ?_)
                · with_reducible exact hH
                clear hK K hH
                try simp only [List.getElem_toArray, List.getElem_cons_succ, List.getElem_cons_zero]
                try simp only [Act.put, List.setIfInBounds_toArray, List.set_cons_zero, List.set_cons_succ]
                refine wpAnyH_take (i := 8) (v := ?_) rfl (by kernel_rfl) (by kernel_rfl) (by kernel_rfl) (fun _ _ _ h => h) (Or.inl ⟨by rfl, ?_⟩) (by assumption) ?_
                rotate_left
                · intro X hX
                  go_simp
                  try with_reducible rfl
                try simp only [List.getElem_toArray, List.getElem_cons_succ, List.getElem_cons_zero]
                try simp only [Act.put, List.setIfInBounds_toArray, List.set_cons_zero, List.set_cons_succ]
                refine wpAnyH_take (i := 9) (v := ?_) rfl (by kernel_rfl) (by kernel_rfl) (by kernel_rfl) (fun _ _ _ h => h) (Or.inl ⟨by rfl, ?_⟩) (by assumption) ?_
                rotate_left
                · intro X hX
                  go_simp
                  try with_reducible rfl
                try simp only [List.getElem_toArray, List.getElem_cons_succ, List.getElem_cons_zero]
                try simp only [Act.put, List.setIfInBounds_toArray, List.set_cons_zero, List.set_cons_succ]
                refine wpAnyH_take (i := 10) (v := ?_) rfl (by kernel_rfl) (by kernel_rfl) (by kernel_rfl) (fun _ _ _ h => h) (Or.inl ⟨by rfl, ?_⟩) (by assumption) ?_
                rotate_left
                · intro X hX
                  go_simp
                  try with_reducible rfl
                try simp only [List.getElem_toArray, List.getElem_cons_succ, List.getElem_cons_zero]
                try simp only [Act.put, List.setIfInBounds_toArray, List.set_cons_zero, List.set_cons_succ]
                refine wpAnyH_ready (rs := [12]) (by kernel_rfl) (by simp) (AllReadyH.cons rfl (fun K hK => ?_) AllReadyH.nil)
                · obtain ⟨wm, HST, hG, hbl, hzz, hoth⟩ := st_store (n := w4.heap.size) T2.tag T2.cl T2.sum T2.ver hF rfl hgF
                  refine step_store_known rfl 25 _ _ rfl ⟨gF, 0, none⟩ (.agg #[.int .i64 T2.tag, .bool T2.cl, .int .i64 T2.sum, .int .i64 T2.ver]) (by simp [Act.eval]) (by simp [Act.eval]) HST ?_
                  replace hX := (hoth _ (by omega)).trans hX
                  replace hW := hW.trans hbl
                  replace hE := hE.keep (fun q h1 h2 => hoth q (by rcases hsep with h | h <;> omega)) (Nat.le_refl _) (Nat.le_refl _)
                  replace hhi : hi ≤ wm.heap.size := by omega
                  have hH := hS'.out _ hX
                  clear HST hbl hzz hoth hF hsep
                  refine hK.out _ _ ?_ (fun hHeld => ?_)
                  · with_reducible exact hH
                  clear hK K hH
                  try simp only [List.getElem_toArray, List.getElem_cons_succ, List.getElem_cons_zero]
                  try simp only [Act.put]
                  refine wpAnyH_take (i := 13) (v := ?_) rfl (by kernel_rfl) (by kernel_rfl) (by kernel_rfl) (fun _ _ _ h => h) (Or.inl ⟨by rfl, ?_⟩) (by assumption) ?_
                  rotate_left
                  · intro X hX
                    go_simp
                    try with_reducible rfl
                  try simp only [List.getElem_toArray, List.getElem_cons_succ, List.getElem_cons_zero]
                  try simp only [Act.put, List.setIfInBounds_toArray, List.set_cons_zero, List.set_cons_succ]
                  refine wpAnyH_done (by kernel_rfl) ?_ _
                  go_wp2_with fail
                  go_meet
                  case rel => exact ⟨gF, g2, rfl, rfl, Lib.hid hG, Lib.hid (hE.keep (fun _ _ _ => rfl) hlo hhi), Lib.hid hW, hgF, hg4⟩
          · refine step_alloc_new rfl 25 rfl _ alloc_st ?_
            intro gF wn hF hgF hb
            replace hgF : w4.heap.size ≤ gF := Nat.le_trans hW.size hgF
            replace hX := keepH hb hX
            replace hW := keepB hW hb
            replace hB := keepR hb hB
            replace hC := keepH hb hC
            have hH := hS'.out _ hX
            clear hb
            refine hK.out _ _ ?_ (fun hHeld => ?_)
            · with_reducible exact hH
            clear hK K hH
            try simp only [List.getElem_toArray, List.getElem_cons_succ, List.getElem_cons_zero]
            try simp only [Act.put, List.setIfInBounds_toArray, List.set_cons_zero, List.set_cons_succ]
            refine wpAnyH_ready (rs := [6]) (by kernel_rfl) (by simp) (AllReadyH.cons rfl (fun K hK => ?_) AllReadyH.nil)
            · obtain ⟨A2, ca2, wm, hr, hD', hg, -⟩ := run_append_es hB (es_heap (es := [⟨z0, z1, z2, z3, z4, z5⟩, ⟨z0, z1, z2, z3, z4, z5⟩]) hC (by simp [ecs, En.l, Od.l]) (by simp)) hW.size (by simp; omega)
              simp only [List.length_cons, List.length_nil] at hr hD'
              refine step_append_known rfl _ _ 22 22 rfl (.slice A1 es.length ca1) (.slice (some ⟨gC, 0, none⟩) 2 2) (by simp [Act.eval]) (by simp [Act.eval]) hr ?_
              replace hX := keepG hg hX (fun e => by have := (World.ownsRow.lt hB _ e).1; omega)
              replace hF := keepG hg hF (own_ne_state hB hF)
              replace hW := hW.trans (below_grow (B := w4.heap.size) hg (fun q h1 e => by have := (World.ownsRow.lt hB _ e).1; omega) hW.size)
              have hD := own_es (es := es ++ [⟨z0, z1, z2, z3, z4, z5⟩, ⟨z0, z1, z2, z3, z4, z5⟩]) (by rw [ecs_append]; simpa using hD') (by simp; omega)
              have hH := hS'.out _ hX
              clear hr hg hB hC hD'
              refine hK.out _ _ ?_ (fun hHeld => ?_)
              · with_reducible exact hH
              clear hK K hH
              try simp only [List.getElem_toArray, List.getElem_cons_succ, List.getElem_cons_zero]
              try simp only [Act.put, List.setIfInBounds_toArray, List.set_cons_zero, List.set_cons_succ]
              refine wpAnyH_ready (rs := [7]) (by kernel_rfl) (by simp) (AllReadyH.cons rfl (fun K hK => ?_) AllReadyH.nil)
              · go_simp
                refine (H2.out _ (keepB hB4 hW) _ hD).mono ?_
                rintro e wm ⟨g2, rfl, hE, hg2a, hg2b, hb⟩
                have hg4 : w4.heap.size ≤ g2 := Nat.le_trans hW.size hg2a
                obtain ⟨lo, hi, hE, hlo, hhi, hge⟩ := ocs_bounds hE
                have hsep : gF < lo ∨ hi ≤ gF := .inl (by rw [hlo]; exact lt_of_block hF)
                replace hlo : w4.heap.size ≤ lo := by rw [hlo]; exact hW.size
                replace hX := keepH hb hX
                replace hW := keepB hW hb
                replace hF := keepH hb hF
                have hH := hS'.out _ hX
                clear hb hD hge hg2a hg2b
                go_wp2_with fail
                refine hK.out _ _ ?_ (fun hHeld => ?_)
                · with_reducible exact hH
                clear hK K hH
                try simp only [List.getElem_toArray, List.getElem_cons_succ, List.getElem_cons_zero]
                try simp only [Act.put, List.setIfInBounds_toArray, List.set_cons_zero, List.set_cons_succ]
                refine wpAnyH_take (i := 8) (v := ?_) rfl (by kernel_rfl) (by kernel_rfl) (by kernel_rfl) (fun _ _ _ h => h) (Or.inl ⟨by rfl, ?_⟩) (by assumption) ?_
                rotate_left
                · intro X hX
                  go_simp
                  try with_reducible rfl
                try simp only [List.getElem_toArray, List.getElem_cons_succ, List.getElem_cons_zero]
                try simp only [Act.put, List.setIfInBounds_toArray, List.set_cons_zero, List.set_cons_succ]
                refine wpAnyH_take (i := 9) (v := ?_) rfl (by kernel_rfl) (by kernel_rfl) (by kernel_rfl) (fun _ _ _ h => h) (Or.inl ⟨by rfl, ?_⟩) (by assumption) ?_
                rotate_left
                · intro X hX
                  go_simp
                  try with_reducible rfl
                try simp only [List.getElem_toArray, List.getElem_cons_succ, List.getElem_cons_zero]
                try simp only [Act.put, List.setIfInBounds_toArray, List.set_cons_zero, List.set_cons_succ]
                refine wpAnyH_take (i := 10) (v := ?_) rfl (by kernel_rfl) (by kernel_rfl) (by kernel_rfl) (fun _ _ _ h => h) (Or.inl ⟨by rfl, ?_⟩) (by assumption) ?_
                rotate_left
                · intro X hX
                  go_simp
                  try with_reducible rfl
                try simp only [List.getElem_toArray, List.getElem_cons_succ, List.getElem_cons_zero]
                try simp only [Act.put, List.setIfInBounds_toArray, List.set_cons_zero, List.set_cons_succ]
                refine wpAnyH_ready (rs := [12]) (by kernel_rfl) (by simp) (AllReadyH.cons rfl (fun K hK => ?_) AllReadyH.nil)
                · obtain ⟨wm, HST, hG, hbl, hzz, hoth⟩ := st_store (n := w4.heap.size) T2.tag T2.cl T2.sum T2.ver hF rfl hgF
                  refine step_store_known rfl 25 _ _ rfl ⟨gF, 0, none⟩ (.agg #[.int .i64 T2.tag, .bool T2.cl, .int .i64 T2.sum, .int .i64 T2.ver]) (by simp [Act.eval]) (by simp [Act.eval]) HST ?_
                  replace hX := (hoth _ (by omega)).trans hX
                  replace hW := hW.trans hbl
                  replace hE := hE.keep (fun q h1 h2 => hoth q (by rcases hsep with h | h <;> omega)) (Nat.le_refl _) (Nat.le_refl _)
                  replace hhi : hi ≤ wm.heap.size := by omega
                  have hH := hS'.out _ hX
                  clear HST hbl hzz hoth hF hsep
                  refine hK.out _ _ ?_ (fun hHeld => ?_)
                  · with_reducible exact hH
                  clear hK K hH
                  try simp only [List.getElem_toArray, List.getElem_cons_succ, List.getElem_cons_zero]
                  try simp only [Act.put]
                  refine wpAnyH_take (i := 13) (v := ?_) rfl (by kernel_rfl) (by kernel_rfl) (by kernel_rfl) (fun _ _ _ h => h) (Or.inl ⟨by rfl, ?_⟩) (by assumption) ?_
                  rotate_left
                  · intro X hX
                    go_simp
                    try with_reducible rfl
                  try simp only [List.getElem_toArray, List.getElem_cons_succ, List.getElem_cons_zero]
                  try simp only [Act.put, List.setIfInBounds_toArray, List.set_cons_zero, List.set_cons_succ]
                  refine wpAnyH_done (by kernel_rfl) ?_ _
                  go_wp2_with fail
                  go_meet
                  case rel => exact ⟨gF, g2, rfl, rfl, Lib.hid hG, Lib.hid (hE.keep (fun _ _ _ => rfl) hlo hhi), Lib.hid hW, hgF, hg4⟩
        · refine step_alloc_new rfl 25 rfl _ alloc_st ?_
          intro gF wn hF hgF hb
          replace hgF : w4.heap.size ≤ gF := Nat.le_trans hW.size hgF
          replace hX := keepH hb hX
          replace hW := keepB hW hb
          replace hA := keepH hb hA
          replace hC := keepH hb hC
          have hH := hS'.out _ hX
          clear hb
          refine hK.out _ _ ?_ (fun hHeld => ?_)
          · with_reducible exact hH
          clear hK K hH
          try simp only [List.getElem_toArray, List.getElem_cons_succ, List.getElem_cons_zero]
          try simp only [Act.put, List.setIfInBounds_toArray, List.set_cons_zero, List.set_cons_succ]
          refine wpAnyH_ready (rs := [2]) (by kernel_rfl) (by simp) (AllReadyH.cons rfl (fun K hK => ?_) AllReadyH.nil)
          · obtain ⟨A1, ca1, wm, hr, hB, hg⟩ := put_log (base := w4.heap.size) hA hgA (HL.out _ (keepB hB4 hW)) (by omega)
            refine step_append_known rfl _ _ 22 22 rfl (.slice (some ⟨gA, 0, none⟩) 0 0) (.slice (some ⟨bq, oq, none⟩) es.length c) (by simp [Act.eval]) (by simp [Act.eval]) hr ?_
            replace hX := keepG hg hX (fun e => by injection e; omega)
            replace hC := keepG hg hC (fun e => ne_heap hA hC (by simp) (Option.some.inj e))
            replace hF := keepG hg hF (fun e => ne_heap hA hF (by simp) (Option.some.inj e))
            replace hW := hW.trans (below_grow (B := w4.heap.size) hg (fun q h1 e => by injection e; omega) hW.size)
            have hH := hS'.out _ hX
            clear hr hg hA hgA
            refine hK.out _ _ ?_ (fun hHeld => ?_)
            · with_reducible exact hH
            clear hK K hH
            try simp only [List.getElem_toArray, List.getElem_cons_succ, List.getElem_cons_zero]
            try simp only [Act.put, List.setIfInBounds_toArray, List.set_cons_zero, List.set_cons_succ]
            refine wpAnyH_ready (rs := [6]) (by kernel_rfl) (by simp) (AllReadyH.cons rfl (fun K hK => ?_) AllReadyH.nil)
            · obtain ⟨A2, ca2, wm, hr, hD', hg, -⟩ := run_append_es hB (es_heap (es := [⟨z0, z1, z2, z3, z4, z5⟩, ⟨z0, z1, z2, z3, z4, z5⟩]) hC (by simp [ecs, En.l, Od.l]) (by simp)) hW.size (by simp; omega)
              simp only [List.length_cons, List.length_nil] at hr hD'
              refine step_append_known rfl _ _ 22 22 rfl (.slice A1 es.length ca1) (.slice (some ⟨gC, 0, none⟩) 2 2) (by simp [Act.eval]) (by simp [Act.eval]) hr ?_
              replace hX := keepG hg hX (fun e => by have := (World.ownsRow.lt hB _ e).1; omega)
              replace hF := keepG hg hF (own_ne_state hB hF)
              replace hW := hW.trans (below_grow (B := w4.heap.size) hg (fun q h1 e => by have := (World.ownsRow.lt hB _ e).1; omega) hW.size)
              have hD := own_es (es := es ++ [⟨z0, z1, z2, z3, z4, z5⟩, ⟨z0, z1, z2, z3, z4, z5⟩]) (by rw [ecs_append]; simpa using hD') (by simp; omega)
              have hH := hS'.out _ hX
              clear hr hg hB hC hD'
              refine hK.out _ _ ?_ (fun hHeld => ?_)
              · with_reducible exact hH
              clear hK K hH
              try simp only [List.getElem_toArray, List.getElem_cons_succ, List.getElem_cons_zero]
              try simp only [Act.put, List.setIfInBounds_toArray, List.set_cons_zero, List.set_cons_succ]
              refine wpAnyH_ready (rs := [7]) (by kernel_rfl) (by simp) (AllReadyH.cons rfl (fun K hK => ?_) AllReadyH.nil)
              · go_simp
                refine (H2.out _ (keepB hB4 hW) _ hD).mono ?_
                rintro e wm ⟨g2, rfl, hE, hg2a, hg2b, hb⟩
                have hg4 : w4.heap.size ≤ g2 := Nat.le_trans hW.size hg2a
                obtain ⟨lo, hi, hE, hlo, hhi, hge⟩ := ocs_bounds hE
                have hsep : gF < lo ∨ hi ≤ gF := .inl (by rw [hlo]; exact lt_of_block hF)
                replace hlo : w4.heap.size ≤ lo := by rw [hlo]; exact hW.size
                replace hX := keepH hb hX
                replace hW := keepB hW hb
                replace hF := keepH hb hF
                have hH := hS'.out _ hX
                clear hb hD hge hg2a hg2b
                go_wp2_with fail
                refine hK.out _ _ ?_ (fun hHeld => ?_)
                · with_reducible exact hH
                clear hK K hH
                try simp only [List.getElem_toArray, List.getElem_cons_succ, List.getElem_cons_zero]
                try simp only [Act.put, List.setIfInBounds_toArray, List.set_cons_zero, List.set_cons_succ]
                refine wpAnyH_take (i := 8) (v := ?_) rfl (by kernel_rfl) (by kernel_rfl) (by kernel_rfl) (fun _ _ _ h => h) (Or.inl ⟨by rfl, ?_⟩) (by assumption) ?_
                rotate_left
                · intro X hX
                  go_simp
                  try with_reducible rfl
                try simp only [List.getElem_toArray, List.getElem_cons_succ, List.getElem_cons_zero]
                try simp only [Act.put, List.setIfInBounds_toArray, List.set_cons_zero, List.set_cons_succ]
                refine wpAnyH_take (i := 9) (v := ?_) rfl (by kernel_rfl) (by kernel_rfl) (by kernel_rfl) (fun _ _ _ h => h) (Or.inl ⟨by rfl, ?_⟩) (by assumption) ?_
                rotate_left
                · intro X hX
                  go_simp
                  try with_reducible rfl
                try simp only [List.getElem_toArray, List.getElem_cons_succ, List.getElem_cons_zero]
                try simp only [Act.put, List.setIfInBounds_toArray, List.set_cons_zero, List.set_cons_succ]
                refine wpAnyH_take (i := 10) (v := ?_) rfl (by kernel_rfl) (by kernel_rfl) (by kernel_rfl) (fun _ _ _ h => h) (Or.inl ⟨by rfl, ?_⟩) (by assumption) ?_
                rotate_left
                · intro X hX
                  go_simp
                  try with_reducible rfl
                try simp only [List.getElem_toArray, List.getElem_cons_succ, List.getElem_cons_zero]
                try simp only [Act.put, List.setIfInBounds_toArray, List.set_cons_zero, List.set_cons_succ]
                refine wpAnyH_ready (rs := [12]) (by kernel_rfl) (by simp) (AllReadyH.cons rfl (fun K hK => ?_) AllReadyH.nil)
                · obtain ⟨wm, HST, hG, hbl, hzz, hoth⟩ := st_store (n := w4.heap.size) T2.tag T2.cl T2.sum T2.ver hF rfl hgF
                  refine step_store_known rfl 25 _ _ rfl ⟨gF, 0, none⟩ (.agg #[.int .i64 T2.tag, .bool T2.cl, .int .i64 T2.sum, .int .i64 T2.ver]) (by simp [Act.eval]) (by simp [Act.eval]) HST ?_
                  replace hX := (hoth _ (by omega)).trans hX
                  replace hW := hW.trans hbl
                  replace hE := hE.keep (fun q h1 h2 => hoth q (by rcases hsep with h | h <;> omega)) (Nat.le_refl _) (Nat.le_refl _)
                  replace hhi : hi ≤ wm.heap.size := by omega
                  have hH := hS'.out _ hX
                  clear HST hbl hzz hoth hF hsep
                  refine hK.out _ _ ?_ (fun hHeld => ?_)
                  · with_reducible exact hH
                  clear hK K hH
                  try simp only [List.getElem_toArray, List.getElem_cons_succ, List.getElem_cons_zero]
                  try simp only [Act.put]
                  refine wpAnyH_take (i := 13) (v := ?_) rfl (by kernel_rfl) (by kernel_rfl) (by kernel_rfl) (fun _ _ _ h => h) (Or.inl ⟨by rfl, ?_⟩) (by assumption) ?_
                  rotate_left
                  · intro X hX
                    go_simp
                    try with_reducible rfl
                  try simp only [List.getElem_toArray, List.getElem_cons_succ, List.getElem_cons_zero]
                  try simp only [Act.put, List.setIfInBounds_toArray, List.set_cons_zero, List.set_cons_succ]
                  refine wpAnyH_done (by kernel_rfl) ?_ _
                  go_wp2_with fail
                  go_meet
                  case rel => exact ⟨gF, g2, rfl, rfl, Lib.hid hG, Lib.hid (hE.keep (fun _ _ _ => rfl) hlo hhi), Lib.hid hW, hgF, hg4⟩
      · refine step_alloc_new rfl 25 rfl _ alloc_st ?_
        intro gF wn hF hgF hb
        replace hgF : w4.heap.size ≤ gF := Nat.le_trans hW.size hgF
        replace hX := keepH hb hX
        replace hW := keepB hW hb
        replace hA := keepH hb hA
        have hH := hS'.out _ hX
        clear hb
        refine hK.out _ _ ?_ (fun hHeld => ?_)
        · with_reducible exact hH
        clear hK K hH
        try simp only [List.getElem_toArray, List.getElem_cons_succ, List.getElem_cons_zero]
        try simp only [Act.put, List.setIfInBounds_toArray, List.set_cons_zero, List.set_cons_succ]
        refine wpAnyH_ready (rs := [2,5]) (by kernel_rfl) (by simp) (AllReadyH.cons rfl (fun K hK => ?_) (AllReadyH.cons rfl (fun K hK => ?_) AllReadyH.nil))
        · obtain ⟨A1, ca1, wm, hr, hB, hg⟩ := put_log (base := w4.heap.size) hA hgA (HL.out _ (keepB hB4 hW)) (by omega)
          refine step_append_known rfl _ _ 22 22 rfl (.slice (some ⟨gA, 0, none⟩) 0 0) (.slice (some ⟨bq, oq, none⟩) es.length c) (by simp [Act.eval]) (by simp [Act.eval]) hr ?_
          replace hX := keepG hg hX (fun e => by injection e; omega)
          replace hF := keepG hg hF (fun e => ne_heap hA hF (by simp) (Option.some.inj e))
          replace hW := hW.trans (below_grow (B := w4.heap.size) hg (fun q h1 e => by injection e; omega) hW.size)
          have hH := hS'.out _ hX
          clear hr hg hA hgA
          refine hK.out _ _ ?_ (fun hHeld => ?_)
          · with_reducible exact hH
          clear hK K hH
          try simp only [List.getElem_toArray, List.getElem_cons_succ, List.getElem_cons_zero]
          try simp only [Act.put, List.setIfInBounds_toArray, List.set_cons_zero, List.set_cons_succ]
          refine wpAnyH_ready (rs := [5]) (by kernel_rfl) (by simp) (AllReadyH.cons rfl (fun K hK => ?_) AllReadyH.nil)
          · refine step_build_new rfl 22 2 _ #[(0, .agg #[.int .i64 z0, .int .i64 z1, .int .i64 z2, .int .i64 z3, .int .i64 z4, .int .i64 z5]), (1, .agg #[.int .i64 z0, .int .i64 z1, .int .i64 z2, .int .i64 z3, .int .i64 z4, .int .i64 z5])] rfl (by simp [Act.eval]) #[.int .i64 z0, .int .i64 z1, .int .i64 z2, .int .i64 z3, .int .i64 z4, .int .i64 z5, .int .i64 z0, .int .i64 z1, .int .i64 z2, .int .i64 z3, .int .i64 z4, .int .i64 z5] 45 (build2_run ⟨z0, z1, z2, z3, z4, z5⟩) ?_
            intro gC wn hC hgC hb
            clear hgC
            replace hX := keepH hb hX
            replace hW := keepB hW hb
            replace hB := keepR hb hB
            replace hF := keepH hb hF
            have hH := hS'.out _ hX
            clear hb
            refine hK.out _ _ ?_ (fun hHeld => ?_)
            · with_reducible exact hH
            clear hK K hH
            try simp only [List.getElem_toArray, List.getElem_cons_succ, List.getElem_cons_zero]
            try simp only [Act.put, List.setIfInBounds_toArray, List.set_cons_zero, List.set_cons_succ]
            refine wpAnyH_ready (rs := [6]) (by kernel_rfl) (by simp) (AllReadyH.cons rfl (fun K hK => ?_) AllReadyH.nil)
            · obtain ⟨A2, ca2, wm, hr, hD', hg, -⟩ := run_append_es hB (es_heap (es := [⟨z0, z1, z2, z3, z4, z5⟩, ⟨z0, z1, z2, z3, z4, z5⟩]) hC (by simp [ecs, En.l, Od.l]) (by simp)) hW.size (by simp; omega)
              simp only [List.length_cons, List.length_nil] at hr hD'
              refine step_append_known rfl _ _ 22 22 rfl (.slice A1 es.length ca1) (.slice (some ⟨gC, 0, none⟩) 2 2) (by simp [Act.eval]) (by simp [Act.eval]) hr ?_
              replace hX := keepG hg hX (fun e => by have := (World.ownsRow.lt hB _ e).1; omega)
              replace hF := keepG hg hF (own_ne_state hB hF)
              replace hW := hW.trans (below_grow (B := w4.heap.size) hg (fun q h1 e => by have := (World.ownsRow.lt hB _ e).1; omega) hW.size)
              have hD := own_es (es := es ++ [⟨z0, z1, z2, z3, z4, z5⟩, ⟨z0, z1, z2, z3, z4, z5⟩]) (by rw [ecs_append]; simpa using hD') (by simp; omega)
              have hH := hS'.out _ hX
              clear hr hg hB hC hD'
              refine hK.out _ _ ?_ (fun hHeld => ?_)
              · with_reducible exact hH
              clear hK K hH
              try simp only [List.getElem_toArray, List.getElem_cons_succ, List.getElem_cons_zero]
              try simp only [Act.put, List.setIfInBounds_toArray, List.set_cons_zero, List.set_cons_succ]
              refine wpAnyH_ready (rs := [7]) (by kernel_rfl) (by simp) (AllReadyH.cons rfl (fun K hK => ?_) AllReadyH.nil)
              · go_simp
                refine (H2.out _ (keepB hB4 hW) _ hD).mono ?_
                rintro e wm ⟨g2, rfl, hE, hg2a, hg2b, hb⟩
                have hg4 : w4.heap.size ≤ g2 := Nat.le_trans hW.size hg2a
                obtain ⟨lo, hi, hE, hlo, hhi, hge⟩ := ocs_bounds hE
                have hsep : gF < lo ∨ hi ≤ gF := .inl (by rw [hlo]; exact lt_of_block hF)
                replace hlo : w4.heap.size ≤ lo := by rw [hlo]; exact hW.size
                replace hX := keepH hb hX
                replace hW := keepB hW hb
                replace hF := keepH hb hF
                have hH := hS'.out _ hX
                clear hb hD hge hg2a hg2b
                go_wp2_with fail
                refine hK.out _ _ ?_ (fun hHeld => ?_)
                · with_reducible exact hH
                clear hK K hH
                try simp only [List.getElem_toArray, List.getElem_cons_succ, List.getElem_cons_zero]
                try simp only [Act.put, List.setIfInBounds_toArray, List.set_cons_zero, List.set_cons_succ]
                refine wpAnyH_take (i := 8) (v := ?_) rfl (by kernel_rfl) (by kernel_rfl) (by kernel_rfl) (fun _ _ _ h => h) (Or.inl ⟨by rfl, ?_⟩) (by assumption) ?_
                rotate_left
                · intro X hX
                  go_simp
                  try with_reducible rfl
                try simp only [List.getElem_toArray, List.getElem_cons_succ, List.getElem_cons_zero]
                try simp only [Act.put, List.setIfInBounds_toArray, List.set_cons_zero, List.set_cons_succ]
                refine wpAnyH_take (i := 9) (v := ?_) rfl (by kernel_rfl) (by kernel_rfl) (by kernel_rfl) (fun _ _ _ h => h) (Or.inl ⟨by rfl, ?_⟩) (by assumption) ?_
                rotate_left
                · intro X hX
                  go_simp
                  try with_reducible rfl
                try simp only [List.getElem_toArray, List.getElem_cons_succ, List.getElem_cons_zero]
                try simp only [Act.put, List.setIfInBounds_toArray, List.set_cons_zero, List.set_cons_succ]
                refine wpAnyH_take (i := 10) (v := ?_) rfl (by kernel_rfl) (by kernel_rfl) (by kernel_rfl) (fun _ _ _ h => h) (Or.inl ⟨by rfl, ?_⟩) (by assumption) ?_
                rotate_left
                · intro X hX
                  go_simp
                  try with_reducible rfl
                try simp only [List.getElem_toArray, List.getElem_cons_succ, List.getElem_cons_zero]
                try simp only [Act.put, List.setIfInBounds_toArray, List.set_cons_zero, List.set_cons_succ]
                refine wpAnyH_ready (rs := [12]) (by kernel_rfl) (by simp) (AllReadyH.cons rfl (fun K hK => ?_) AllReadyH.nil)
                · obtain ⟨wm, HST, hG, hbl, hzz, hoth⟩ := st_store (n := w4.heap.size) T2.tag T2.cl T2.sum T2.ver hF rfl hgF
                  refine step_store_known rfl 25 _ _ rfl ⟨gF, 0, none⟩ (.agg #[.int .i64 T2.tag, .bool T2.cl, .int .i64 T2.sum, .int .i64 T2.ver]) (by simp [Act.eval]) (by simp [Act.eval]) HST ?_
                  replace hX := (hoth _ (by omega)).trans hX
                  replace hW := hW.trans hbl
                  replace hE := hE.keep (fun q h1 h2 => hoth q (by rcases hsep with h | h <;> omega)) (Nat.le_refl _) (Nat.le_refl _)
                  replace hhi : hi ≤ wm.heap.size := by omega
                  have hH := hS'.out _ hX
                  clear HST hbl hzz hoth hF hsep
                  refine hK.out _ _ ?_ (fun hHeld => ?_)
                  · with_reducible exact hH
                  clear hK K hH
                  try simp only [List.getElem_toArray, List.getElem_cons_succ, List.getElem_cons_zero]
                  try simp only [Act.put]
                  refine wpAnyH_take (i := 13) (v := ?_) rfl (by kernel_rfl) (by kernel_rfl) (by kernel_rfl) (fun _ _ _ h => h) (Or.inl ⟨by rfl, ?_⟩) (by assumption) ?_
                  rotate_left
                  · intro X hX
                    go_simp
                    try with_reducible rfl
                  try simp only [List.getElem_toArray, List.getElem_cons_succ, List.getElem_cons_zero]
                  try simp only [Act.put, List.setIfInBounds_toArray, List.set_cons_zero, List.set_cons_succ]
                  refine wpAnyH_done (by kernel_rfl) ?_ _
                  go_wp2_with fail
                  go_meet
                  case rel => exact ⟨gF, g2, rfl, rfl, Lib.hid hG, Lib.hid (hE.keep (fun _ _ _ => rfl) hlo hhi), Lib.hid hW, hgF, hg4⟩
        · refine step_build_new rfl 22 2 _ #[(0, .agg #[.int .i64 z0, .int .i64 z1, .int .i64 z2, .int .i64 z3, .int .i64 z4, .int .i64 z5]), (1, .agg #[.int .i64 z0, .int .i64 z1, .int .i64 z2, .int .i64 z3, .int .i64 z4, .int .i64 z5])] rfl (by simp [Act.eval]) #[.int .i64 z0, .int .i64 z1, .int .i64 z2, .int .i64 z3, .int .i64 z4, .int .i64 z5, .int .i64 z0, .int .i64 z1, .int .i64 z2, .int .i64 z3, .int .i64 z4, .int .i64 z5] 45 (build2_run ⟨z0, z1, z2, z3, z4, z5⟩) ?_
          intro gC wn hC hgC hb
          clear hgC
          replace hX := keepH hb hX
          replace hW := keepB hW hb
          replace hA := keepH hb hA
          replace hF := keepH hb hF
          have hH := hS'.out _ hX
          clear hb
          refine hK.out _ _ ?_ (fun hHeld => ?_)
          · with_reducible exact hH
          clear hK K hH
          try simp only [List.getElem_toArray, List.getElem_cons_succ, List.getElem_cons_zero]
          try simp only [Act.put, List.setIfInBounds_toArray, List.set_cons_zero, List.set_cons_succ]
          refine wpAnyH_ready (rs := [2]) (by kernel_rfl) (by simp) (AllReadyH.cons rfl (fun K hK => ?_) AllReadyH.nil)
          · obtain ⟨A1, ca1, wm, hr, hB, hg⟩ := put_log (base := w4.heap.size) hA hgA (HL.out _ (keepB hB4 hW)) (by omega)
            refine step_append_known rfl _ _ 22 22 rfl (.slice (some ⟨gA, 0, none⟩) 0 0) (.slice (some ⟨bq, oq, none⟩) es.length c) (by simp [Act.eval]) (by simp [Act.eval]) hr ?_
            replace hX := keepG hg hX (fun e => by injection e; omega)
            replace hC := keepG hg hC (fun e => ne_heap hA hC (by simp) (Option.some.inj e))
            replace hF := keepG hg hF (fun e => ne_heap hA hF (by simp) (Option.some.inj e))
            replace hW := hW.trans (below_grow (B := w4.heap.size) hg (fun q h1 e => by injection e; omega) hW.size)
            have hH := hS'.out _ hX
            clear hr hg hA hgA
            refine hK.out _ _ ?_ (fun hHeld => ?_)
            · with_reducible exact hH
            clear hK K hH
            try simp only [List.getElem_toArray, List.getElem_cons_succ, List.getElem_cons_zero]
            try simp only [Act.put, List.setIfInBounds_toArray, List.set_cons_zero, List.set_cons_succ]
            refine wpAnyH_ready (rs := [6]) (by kernel_rfl) (by simp) (AllReadyH.cons rfl (fun K hK => ?_) AllReadyH.nil)
            · obtain ⟨A2, ca2, wm, hr, hD', hg, -⟩ := run_append_es hB (es_heap (es := [⟨z0, z1, z2, z3, z4, z5⟩, ⟨z0, z1, z2, z3, z4, z5⟩]) hC (by simp [ecs, En.l, Od.l]) (by simp)) hW.size (by simp; omega)
              simp only [List.length_cons, List.length_nil] at hr hD'
              refine step_append_known rfl _ _ 22 22 rfl (.slice A1 es.length ca1) (.slice (some ⟨gC, 0, none⟩) 2 2) (by simp [Act.eval]) (by simp [Act.eval]) hr ?_
              replace hX := keepG hg hX (fun e => by have := (World.ownsRow.lt hB _ e).1; omega)
              replace hF := keepG hg hF (own_ne_state hB hF)
              replace hW := hW.trans (below_grow (B := w4.heap.size) hg (fun q h1 e => by have := (World.ownsRow.lt hB _ e).1; omega) hW.size)
              have hD := own_es (es := es ++ [⟨z0, z1, z2, z3, z4, z5⟩, ⟨z0, z1, z2, z3, z4, z5⟩]) (by rw [ecs_append]; simpa using hD') (by simp; omega)
              have hH := hS'.out _ hX
              clear hr hg hB hC hD'
              refine hK.out _ _ ?_ (fun hHeld => ?_)
              · with_reducible exact hH
              clear hK K hH
              try simp only [List.getElem_toArray, List.getElem_cons_succ, List.getElem_cons_zero]
              try simp only [Act.put, List.setIfInBounds_toArray, List.set_cons_zero, List.set_cons_succ]
              refine wpAnyH_ready (rs := [7]) (by kernel_rfl) (by simp) (AllReadyH.cons rfl (fun K hK => ?_) AllReadyH.nil)
              · go_simp
                refine (H2.out _ (keepB hB4 hW) _ hD).mono ?_
                rintro e wm ⟨g2, rfl, hE, hg2a, hg2b, hb⟩
                have hg4 : w4.heap.size ≤ g2 := Nat.le_trans hW.size hg2a
                obtain ⟨lo, hi, hE, hlo, hhi, hge⟩ := ocs_bounds hE
                have hsep : gF < lo ∨ hi ≤ gF := .inl (by rw [hlo]; exact lt_of_block hF)
                replace hlo : w4.heap.size ≤ lo := by rw [hlo]; exact hW.size
                replace hX := keepH hb hX
                replace hW := keepB hW hb
                replace hF := keepH hb hF
                have hH := hS'.out _ hX
                clear hb hD hge hg2a hg2b
                go_wp2_with fail
                refine hK.out _ _ ?_ (fun hHeld => ?_)
                · with_reducible exact hH
                clear hK K hH
                try simp only [List.getElem_toArray, List.getElem_cons_succ, List.getElem_cons_zero]
                try simp only [Act.put, List.setIfInBounds_toArray, List.set_cons_zero, List.set_cons_succ]
                refine wpAnyH_take (i := 8) (v := ?_) rfl (by kernel_rfl) (by kernel_rfl) (by kernel_rfl) (fun _ _ _ h => h) (Or.inl ⟨by rfl, ?_⟩) (by assumption) ?_
                rotate_left
                · intro X hX
                  go_simp
                  try with_reducible rfl
                try simp only [List.getElem_toArray, List.getElem_cons_succ, List.getElem_cons_zero]
                try simp only [Act.put, List.setIfInBounds_toArray, List.set_cons_zero, List.set_cons_succ]
                refine wpAnyH_take (i := 9) (v := ?_) rfl (by kernel_rfl) (by kernel_rfl) (by kernel_rfl) (fun _ _ _ h => h) (Or.inl ⟨by rfl, ?_⟩) (by assumption) ?_
                rotate_left
                · intro X hX
                  go_simp
                  try with_reducible rfl
                try simp only [List.getElem_toArray, List.getElem_cons_succ, List.getElem_cons_zero]
                try simp only [Act.put, List.setIfInBounds_toArray, List.set_cons_zero, List.set_cons_succ]
                refine wpAnyH_take (i := 10) (v := ?_) rfl (by kernel_rfl) (by kernel_rfl) (by kernel_rfl) (fun _ _ _ h => h) (Or.inl ⟨by rfl, ?_⟩) (by assumption) ?_
                rotate_left
                · intro X hX
                  go_simp
                  try with_reducible rfl
                try simp only [List.getElem_toArray, List.getElem_cons_succ, List.getElem_cons_zero]
                try simp only [Act.put, List.setIfInBounds_toArray, List.set_cons_zero, List.set_cons_succ]
                refine wpAnyH_ready (rs := [12]) (by kernel_rfl) (by simp) (AllReadyH.cons rfl (fun K hK => ?_) AllReadyH.nil)
                · obtain ⟨wm, HST, hG, hbl, hzz, hoth⟩ := st_store (n := w4.heap.size) T2.tag T2.cl T2.sum T2.ver hF rfl hgF
                  refine step_store_known rfl 25 _ _ rfl ⟨gF, 0, none⟩ (.agg #[.int .i64 T2.tag, .bool T2.cl, .int .i64 T2.sum, .int .i64 T2.ver]) (by simp [Act.eval]) (by simp [Act.eval]) HST ?_
                  replace hX := (hoth _ (by omega)).trans hX
                  replace hW := hW.trans hbl
                  replace hE := hE.keep (fun q h1 h2 => hoth q (by rcases hsep with h | h <;> omega)) (Nat.le_refl _) (Nat.le_refl _)
                  replace hhi : hi ≤ wm.heap.size := by omega
                  have hH := hS'.out _ hX
                  clear HST hbl hzz hoth hF hsep
                  refine hK.out _ _ ?_ (fun hHeld => ?_)
                  · with_reducible exact hH
                  clear hK K hH
                  try simp only [List.getElem_toArray, List.getElem_cons_succ, List.getElem_cons_zero]
                  try simp only [Act.put]
                  refine wpAnyH_take (i := 13) (v := ?_) rfl (by kernel_rfl) (by kernel_rfl) (by kernel_rfl) (fun _ _ _ h => h) (Or.inl ⟨by rfl, ?_⟩) (by assumption) ?_
                  rotate_left
                  · intro X hX
                    go_simp
                    try with_reducible rfl
                  try simp only [List.getElem_toArray, List.getElem_cons_succ, List.getElem_cons_zero]
                  try simp only [Act.put, List.setIfInBounds_toArray, List.set_cons_zero, List.set_cons_succ]
                  refine wpAnyH_done (by kernel_rfl) ?_ _
                  go_wp2_with fail
                  go_meet
                  case rel => exact ⟨gF, g2, rfl, rfl, Lib.hid hG, Lib.hid (hE.keep (fun _ _ _ => rfl) hlo hhi), Lib.hid hW, hgF, hg4⟩
    · refine step_build_new rfl 22 2 _ #[(0, .agg #[.int .i64 z0, .int .i64 z1, .int .i64 z2, .int .i64 z3, .int .i64 z4, .int .i64 z5]), (1, .agg #[.int .i64 z0, .int .i64 z1, .int .i64 z2, .int .i64 z3, .int .i64 z4, .int .i64 z5])] rfl (by simp [Act.eval]) #[.int .i64 z0, .int .i64 z1, .int .i64 z2, .int .i64 z3, .int .i64 z4, .int .i64 z5, .int .i64 z0, .int .i64 z1, .int .i64 z2, .int .i64 z3, .int .i64 z4, .int .i64 z5] 45 (build2_run ⟨z0, z1, z2, z3, z4, z5⟩) ?_
      intro gC wn hC hgC hb
      clear hgC
      replace hX := keepH hb hX
      replace hW := keepB hW hb
      have hH := hS'.out _ hX
      clear hb
      refine hK.out _ _ ?_ (fun hHeld => ?_)
      · with_reducible exact hH
      clear hK K hH
      try simp only [List.getElem_toArray, List.getElem_cons_succ, List.getElem_cons_zero]
      try simp only [Act.put, List.setIfInBounds_toArray, List.set_cons_zero, List.set_cons_succ]
      refine wpAnyH_ready (rs := [0,11]) (by kernel_rfl) (by simp) (AllReadyH.cons rfl (fun K hK => ?_) (AllReadyH.cons rfl (fun K hK => ?_) AllReadyH.nil))
      · refine step_build_new rfl 22 0 #[] #[] rfl (by simp) #[] 45 build0_run ?_
        intro gA wn hA hgA hb
        replace hgA : w4.heap.size ≤ gA := Nat.le_trans hW.size hgA
        replace hX := keepH hb hX
        replace hW := keepB hW hb
        replace hC := keepH hb hC
        have hH := hS'.out _ hX
        clear hb
        refine hK.out _ _ ?_ (fun hHeld => ?_)
        · with_reducible exact hH
        clear hK K hH
        try simp only [List.getElem_toArray, List.getElem_cons_zero]
        try simp only [Act.put, List.setIfInBounds_toArray, List.set_cons_zero, List.set_cons_succ]
        refine wpAnyH_ready (rs := [2,11]) (by kernel_rfl) (by simp) (AllReadyH.cons rfl (fun K hK => ?_) (AllReadyH.cons rfl (fun K hK => ?_) AllReadyH.nil))
        · obtain ⟨A1, ca1, wm, hr, hB, hg⟩ := put_log (base := w4.heap.size) hA hgA (HL.out _ (keepB hB4 hW)) (by omega)
          refine step_append_known rfl _ _ 22 22 rfl (.slice (some ⟨gA, 0, none⟩) 0 0) (.slice (some ⟨bq, oq, none⟩) es.length c) (by simp [Act.eval]) (by simp [Act.eval]) hr ?_
          replace hX := keepG hg hX (fun e => by injection e; omega)
          replace hC := keepG hg hC (fun e => ne_heap hA hC (by simp) (Option.some.inj e))
          replace hW := hW.trans (below_grow (B := w4.heap.size) hg (fun q h1 e => by injection e; omega) hW.size)
          have hH := hS'.out _ hX
          clear hr hg hA hgA
          refine hK.out _ _ ?_ (fun hHeld => ?_)
          · with_reducible exact hH
          clear hK K hH
          try simp only [List.getElem_toArray, List.getElem_cons_succ, List.getElem_cons_zero]
          try simp only [Act.put, List.setIfInBounds_toArray, List.set_cons_zero, List.set_cons_succ]
          refine wpAnyH_ready (rs := [6,11]) (by kernel_rfl) (by simp) (AllReadyH.cons rfl (fun K hK => ?_) (AllReadyH.cons rfl (fun K hK => ?_) AllReadyH.nil))
          · obtain ⟨A2, ca2, wm, hr, hD', hg, -⟩ := run_append_es hB (es_heap (es := [⟨z0, z1, z2, z3, z4, z5⟩, ⟨z0, z1, z2, z3, z4, z5⟩]) hC (by simp [ecs, En.l, Od.l]) (by simp)) hW.size (by simp; omega)
            simp only [List.length_cons, List.length_nil] at hr hD'
            refine step_append_known rfl _ _ 22 22 rfl (.slice A1 es.length ca1) (.slice (some ⟨gC, 0, none⟩) 2 2) (by simp [Act.eval]) (by simp [Act.eval]) hr ?_
            replace hX := keepG hg hX (fun e => by have := (World.ownsRow.lt hB _ e).1; omega)
            replace hW := hW.trans (below_grow (B := w4.heap.size) hg (fun q h1 e => by have := (World.ownsRow.lt hB _ e).1; omega) hW.size)
            have hD := own_es (es := es ++ [⟨z0, z1, z2, z3, z4, z5⟩, ⟨z0, z1, z2, z3, z4, z5⟩]) (by rw [ecs_append]; simpa using hD') (by simp; omega)
            have hH := hS'.out _ hX
            clear hr hg hB hC hD'
            refine hK.out _ _ ?_ (fun hHeld => ?_)
            · with_reducible exact hH
            clear hK K hH
            try simp only [List.getElem_toArray, List.getElem_cons_succ, List.getElem_cons_zero]
            try simp only [Act.put, List.setIfInBounds_toArray, List.set_cons_zero, List.set_cons_succ]
            refine wpAnyH_ready (rs := [7,11]) (by kernel_rfl) (by simp) (AllReadyH.cons rfl (fun K hK => ?_) (AllReadyH.cons rfl (fun K hK => ?_) AllReadyH.nil))
            · go_simp
              refine (H2.out _ (keepB hB4 hW) _ hD).mono ?_
              rintro e wm ⟨g2, rfl, hE, hg2a, hg2b, hb⟩
              have hg4 : w4.heap.size ≤ g2 := Nat.le_trans hW.size hg2a
              obtain ⟨lo, hi, hE, hlo, hhi, hge⟩ := ocs_bounds hE
              replace hlo : w4.heap.size ≤ lo := by rw [hlo]; exact hW.size
              replace hX := keepH hb hX
              replace hW := keepB hW hb
              have hH := hS'.out _ hX
              clear hb hD hge hg2a hg2b
              go_wp2_with fail
              refine hK.out _ _ ?_ (fun hHeld => ?_)
              · with_reducible exact hH
              clear hK K hH
              try simp only [List.getElem_toArray, List.getElem_cons_succ, List.getElem_cons_zero]
              try simp only [Act.put, List.setIfInBounds_toArray, List.set_cons_zero, List.set_cons_succ]
              refine wpAnyH_take (i := 8) (v := ?_) rfl (by kernel_rfl) (by kernel_rfl) (by kernel_rfl) (fun _ _ _ h => h) (Or.inl ⟨by rfl, ?_⟩) (by assumption) ?_
              rotate_left
              · intro X hX
                go_simp
                try with_reducible rfl
              try simp only [List.getElem_toArray, List.getElem_cons_succ, List.getElem_cons_zero]
              try simp only [Act.put, List.setIfInBounds_toArray, List.set_cons_zero, List.set_cons_succ]
              refine wpAnyH_take (i := 9) (v := ?_) rfl (by kernel_rfl) (by kernel_rfl) (by kernel_rfl) (fun _ _ _ h => h) (Or.inl ⟨by rfl, ?_⟩) (by assumption) ?_
              rotate_left
              · intro X hX
                go_simp
                try with_reducible rfl
              try simp only [List.getElem_toArray, List.getElem_cons_succ, List.getElem_cons_zero]
              try simp only [Act.put, List.setIfInBounds_toArray, List.set_cons_zero, List.set_cons_succ]
              refine wpAnyH_take (i := 10) (v := ?_) rfl (by kernel_rfl) (by kernel_rfl) (by kernel_rfl) (fun _ _ _ h => h) (Or.inl ⟨by rfl, ?_⟩) (by assumption) ?_
              rotate_left
              · intro X hX
                go_simp
                try with_reducible rfl
              try simp only [List.getElem_toArray, List.getElem_cons_succ, List.getElem_cons_zero]
              try simp only [Act.put, List.setIfInBounds_toArray, List.set_cons_zero, List.set_cons_succ]
              refine wpAnyH_ready (rs := [11]) (by kernel_rfl) (by simp) (AllReadyH.cons rfl (fun K hK => ?_) AllReadyH.nil)
              · refine step_alloc_new rfl 25 rfl _ alloc_st ?_
                intro gF wn hF hgF hb
                have hsep : gF < lo ∨ hi ≤ gF := .inr (Nat.le_trans hhi hgF)
                replace hgF : w4.heap.size ≤ gF := Nat.le_trans hW.size hgF
                replace hX := keepH hb hX
                replace hW := keepB hW hb
                replace hE := hE.below hb hhi
                replace hhi := Nat.le_trans hhi hb.size
                have hH := hS'.out _ hX
                clear hb
                refine hK.out _ _ ?_ (fun hHeld => ?_)
                · with_reducible exact hH
                clear hK K hH
                try simp only [List.getElem_toArray, List.getElem_cons_succ, List.getElem_cons_zero]
                try simp only [Act.put, List.setIfInBounds_toArray, List.set_cons_zero, List.set_cons_succ]
                refine wpAnyH_ready (rs := [12]) (by kernel_rfl) (by simp) (AllReadyH.cons rfl (fun K hK => ?_) AllReadyH.nil)
                · obtain ⟨wm, HST, hG, hbl, hzz, hoth⟩ := st_store (n := w4.heap.size) T2.tag T2.cl T2.sum T2.ver hF rfl hgF
                  refine step_store_known rfl 25 _ _ rfl ⟨gF, 0, none⟩ (.agg #[.int .i64 T2.tag, .bool T2.cl, .int .i64 T2.sum, .int .i64 T2.ver]) (by simp [Act.eval]) (by simp [Act.eval]) HST ?_
                  replace hX := (hoth _ (by omega)).trans hX
                  replace hW := hW.trans hbl
                  replace hE := hE.keep (fun q h1 h2 => hoth q (by rcases hsep with h | h <;> omega)) (Nat.le_refl _) (Nat.le_refl _)
                  replace hhi : hi ≤ wm.heap.size := by omega
                  have hH := hS'.out _ hX
                  clear HST hbl hzz hoth hF hsep
                  refine hK.out _ _ ?_ (fun hHeld => ?_)
                  · with_reducible exact hH
                  clear hK K hH
                  try simp only [List.getElem_toArray, List.getElem_cons_succ, List.getElem_cons_zero]
                  try simp only [Act.put]
                  refine wpAnyH_take (i := 13) (v := ?_) rfl (by kernel_rfl) (by kernel_rfl) (by kernel_rfl) (fun _ _ _ h => h) (Or.inl ⟨by rfl, ?_⟩) (by assumption) ?_
                  rotate_left
                  · intro X hX
                    go_simp
                    try with_reducible rfl
                  try simp only [List.getElem_toArray, List.getElem_cons_succ, List.getElem_cons_zero]
                  try simp only [Act.put, List.setIfInBounds_toArray, List.set_cons_zero, List.set_cons_succ]
                  refine wpAnyH_done (by kernel_rfl) ?_ _
                  go_wp2_with fail
                  go_meet
                  case rel => exact ⟨gF, g2, rfl, rfl, Lib.hid hG, Lib.hid (hE.keep (fun _ _ _ => rfl) hlo hhi), Lib.hid hW, hgF, hg4⟩
            · refine step_alloc_new rfl 25 rfl _ alloc_st ?_
              intro gF wn hF hgF hb
              replace hgF : w4.heap.size ≤ gF := Nat.le_trans hW.size hgF
              replace hX := keepH hb hX
              replace hW := keepB hW hb
              replace hD := keepE hb hD
              have hH := hS'.out _ hX
              clear hb
              refine hK.out _ _ ?_ (fun hHeld => ?_)
              · with_reducible exact hH
              clear hK K hH
              try simp only [List.getElem_toArray, List.getElem_cons_succ, List.getElem_cons_zero]
              try simp only [Act.put, List.setIfInBounds_toArray, List.set_cons_zero, List.set_cons_succ]
              refine wpAnyH_ready (rs := [7]) (by kernel_rfl) (by simp) (AllReadyH.cons rfl (fun K hK => ?_) AllReadyH.nil)
              · go_simp
                refine (H2.out _ (keepB hB4 hW) _ hD).mono ?_
                rintro e wm ⟨g2, rfl, hE, hg2a, hg2b, hb⟩
                have hg4 : w4.heap.size ≤ g2 := Nat.le_trans hW.size hg2a
                obtain ⟨lo, hi, hE, hlo, hhi, hge⟩ := ocs_bounds hE
                have hsep : gF < lo ∨ hi ≤ gF := .inl (by rw [hlo]; exact lt_of_block hF)
                replace hlo : w4.heap.size ≤ lo := by rw [hlo]; exact hW.size
                replace hX := keepH hb hX
                replace hW := keepB hW hb
                replace hF := keepH hb hF
                have hH := hS'.out _ hX
                clear hb hD hge hg2a hg2b
                go_wp2_with fail
                refine hK.out _ _ ?_ (fun hHeld => ?_)
                · with_reducible exact hH
                clear hK K hH
                try simp only [List.getElem_toArray, List.getElem_cons_succ, List.getElem_cons_zero]
                try simp only [Act.put, List.setIfInBounds_toArray, List.set_cons_zero, List.set_cons_succ]
                refine wpAnyH_take (i := 8) (v := ?_) rfl (by kernel_rfl) (by kernel_rfl) (by kernel_rfl) (fun _ _ _ h => h) (Or.inl ⟨by rfl, ?_⟩) (by assumption) ?_
                rotate_left
                · intro X hX
                  go_simp
                  try with_reducible rfl
                try simp only [List.getElem_toArray, List.getElem_cons_succ, List.getElem_cons_zero]
                try simp only [Act.put, List.setIfInBounds_toArray, List.set_cons_zero, List.set_cons_succ]
                refine wpAnyH_take (i := 9) (v := ?_) rfl (by kernel_rfl) (by kernel_rfl) (by kernel_rfl) (fun _ _ _ h => h) (Or.inl ⟨by rfl, ?_⟩) (by assumption) ?_
                rotate_left
                · intro X hX
                  go_simp
                  try with_reducible rfl
                try simp only [List.getElem_toArray, List.getElem_cons_succ, List.getElem_cons_zero]
                try simp only [Act.put, List.setIfInBounds_toArray, List.set_cons_zero, List.set_cons_succ]
                refine wpAnyH_take (i := 10) (v := ?_) rfl (by kernel_rfl) (by kernel_rfl) (by kernel_rfl) (fun _ _ _ h => h) (Or.inl ⟨by rfl, ?_⟩) (by assumption) ?_
                rotate_left
                · intro X hX
                  go_simp
                  try with_reducible rfl
                try simp only [List.getElem_toArray, List.getElem_cons_succ, List.getElem_cons_zero]
                try simp only [Act.put, List.setIfInBounds_toArray, List.set_cons_zero, List.set_cons_succ]
                refine wpAnyH_ready (rs := [12]) (by kernel_rfl) (by simp) (AllReadyH.cons rfl (fun K hK => ?_) AllReadyH.nil)
                · obtain ⟨wm, HST, hG, hbl, hzz, hoth⟩ := st_store (n := w4.heap.size) T2.tag T2.cl T2.sum T2.ver hF rfl hgF
                  refine step_store_known rfl 25 _ _ rfl ⟨gF, 0, none⟩ (.agg #[.int .i64 T2.tag, .bool T2.cl, .int .i64 T2.sum, .int .i64 T2.ver]) (by simp [Act.eval]) (by simp [Act.eval]) HST ?_
                  replace hX := (hoth _ (by omega)).trans hX
                  replace hW := hW.trans hbl
                  replace hE := hE.keep (fun q h1 h2 => hoth q (by rcases hsep with h | h <;> omega)) (Nat.le_refl _) (Nat.le_refl _)
                  replace hhi : hi ≤ wm.heap.size := by omega
                  have hH := hS'.out _ hX
                  clear HST hbl hzz hoth hF hsep
                  refine hK.out _ _ ?_ (fun hHeld => ?_)
                  · with_reducible exact hH
                  clear hK K hH
                  try simp only [List.getElem_toArray, List.getElem_cons_succ, List.getElem_cons_zero]
                  try simp only [Act.put]
                  refine wpAnyH_take (i := 13) (v := ?_) rfl (by kernel_rfl) (by kernel_rfl) (by kernel_rfl) (fun _ _ _ h => h) (Or.inl ⟨by rfl, ?_⟩) (by assumption) ?_
                  rotate_left
                  · intro X hX
                    go_simp
                    try with_reducible rfl
                  try simp only [List.getElem_toArray, List.getElem_cons_succ, List.getElem_cons_zero]
                  try simp only [Act.put, List.setIfInBounds_toArray, List.set_cons_zero, List.set_cons_succ]
                  refine wpAnyH_done (by kernel_rfl) ?_ _
                  go_wp2_with fail
                  go_meet
                  case rel => exact ⟨gF, g2, rfl, rfl, Lib.hid hG, Lib.hid (hE.keep (fun _ _ _ => rfl) hlo hhi), Lib.hid hW, hgF, hg4⟩
          · refine step_alloc_new rfl 25 rfl _ alloc_st ?_
            intro gF wn hF hgF hb
            replace hgF : w4.heap.size ≤ gF := Nat.le_trans hW.size hgF
            replace hX := keepH hb hX
            replace hW := keepB hW hb
            replace hB := keepR hb hB
            replace hC := keepH hb hC
            have hH := hS'.out _ hX
            clear hb
            refine hK.out _ _ ?_ (fun hHeld => ?_)
            · with_reducible exact hH
            clear hK K hH
            try simp only [List.getElem_toArray, List.getElem_cons_succ, List.getElem_cons_zero]
            try simp only [Act.put, List.setIfInBounds_toArray, List.set_cons_zero, List.set_cons_succ]
            refine wpAnyH_ready (rs := [6]) (by kernel_rfl) (by simp) (AllReadyH.cons rfl (fun K hK => ?_) AllReadyH.nil)
            · obtain ⟨A2, ca2, wm, hr, hD', hg, -⟩ := run_append_es hB (es_heap (es := [⟨z0, z1, z2, z3, z4, z5⟩, ⟨z0, z1, z2, z3, z4, z5⟩]) hC (by simp [ecs, En.l, Od.l]) (by simp)) hW.size (by simp; omega)
              simp only [List.length_cons, List.length_nil] at hr hD'
              refine step_append_known rfl _ _ 22 22 rfl (.slice A1 es.length ca1) (.slice (some ⟨gC, 0, none⟩) 2 2) (by simp [Act.eval]) (by simp [Act.eval]) hr ?_
              replace hX := keepG hg hX (fun e => by have := (World.ownsRow.lt hB _ e).1; omega)
              replace hF := keepG hg hF (own_ne_state hB hF)
              replace hW := hW.trans (below_grow (B := w4.heap.size) hg (fun q h1 e => by have := (World.ownsRow.lt hB _ e).1; omega) hW.size)
              have hD := own_es (es := es ++ [⟨z0, z1, z2, z3, z4, z5⟩, ⟨z0, z1, z2, z3, z4, z5⟩]) (by rw [ecs_append]; simpa using hD') (by simp; omega)
              have hH := hS'.out _ hX
              clear hr hg hB hC hD'
              refine hK.out _ _ ?_ (fun hHeld => ?_)
              · with_reducible exact hH
              clear hK K hH
              try simp only [List.getElem_toArray, List.getElem_cons_succ, List.getElem_cons_zero]
              try simp only [Act.put, List.setIfInBounds_toArray, List.set_cons_zero, List.set_cons_succ]
              refine wpAnyH_ready (rs := [7]) (by kernel_rfl) (by simp) (AllReadyH.cons rfl (fun K hK => ?_) AllReadyH.nil)
              · go_simp
                refine (H2.out _ (keepB hB4 hW) _ hD).mono ?_
                rintro e wm ⟨g2, rfl, hE, hg2a, hg2b, hb⟩
                have hg4 : w4.heap.size ≤ g2 := Nat.le_trans hW.size hg2a
                obtain ⟨lo, hi, hE, hlo, hhi, hge⟩ := ocs_bounds hE
                have hsep : gF < lo ∨ hi ≤ gF := .inl (by rw [hlo]; exact lt_of_block hF)
                replace hlo : w4.heap.size ≤ lo := by rw [hlo]; exact hW.size
                replace hX := keepH hb hX
                replace hW := keepB hW hb
                replace hF := keepH hb hF
                have hH := hS'.out _ hX
                clear hb hD hge hg2a hg2b
                go_wp2_with fail
                refine hK.out _ _ ?_ (fun hHeld => ?_)
                · with_reducible exact hH
                clear hK K hH
                try simp only [List.getElem_toArray, List.getElem_cons_succ, List.getElem_cons_zero]
                try simp only [Act.put, List.setIfInBounds_toArray, List.set_cons_zero, List.set_cons_succ]
                refine wpAnyH_take (i := 8) (v := ?_) rfl (by kernel_rfl) (by kernel_rfl) (by kernel_rfl) (fun _ _ _ h => h) (Or.inl ⟨by rfl, ?_⟩) (by assumption) ?_
                rotate_left
                · intro X hX
                  go_simp
                  try with_reducible rfl
                try simp only [List.getElem_toArray, List.getElem_cons_succ, List.getElem_cons_zero]
                try simp only [Act.put, List.setIfInBounds_toArray, List.set_cons_zero, List.set_cons_succ]
                refine wpAnyH_take (i := 9) (v := ?_) rfl (by kernel_rfl) (by kernel_rfl) (by kernel_rfl) (fun _ _ _ h => h) (Or.inl ⟨by rfl, ?_⟩) (by assumption) ?_
                rotate_left
                · intro X hX
                  go_simp
                  try with_reducible rfl
                try simp only [List.getElem_toArray, List.getElem_cons_succ, List.getElem_cons_zero]
                try simp only [Act.put, List.setIfInBounds_toArray, List.set_cons_zero, List.set_cons_succ]
                refine wpAnyH_take (i := 10) (v := ?_) rfl (by kernel_rfl) (by kernel_rfl) (by kernel_rfl) (fun _ _ _ h => h) (Or.inl ⟨by rfl, ?_⟩) (by assumption) ?_
                rotate_left
                · intro X hX
                  go_simp
                  try with_reducible rfl
                try simp only [List.getElem_toArray, List.getElem_cons_succ, List.getElem_cons_zero]
                try simp only [Act.put, List.setIfInBounds_toArray, List.set_cons_zero, List.set_cons_succ]
                refine wpAnyH_ready (rs := [12]) (by kernel_rfl) (by simp) (AllReadyH.cons rfl (fun K hK => ?_) AllReadyH.nil)
                · obtain ⟨wm, HST, hG, hbl, hzz, hoth⟩ := st_store (n := w4.heap.size) T2.tag T2.cl T2.sum T2.ver hF rfl hgF
                  refine step_store_known rfl 25 _ _ rfl ⟨gF, 0, none⟩ (.agg #[.int .i64 T2.tag, .bool T2.cl, .int .i64 T2.sum, .int .i64 T2.ver]) (by simp [Act.eval]) (by simp [Act.eval]) HST ?_
                  replace hX := (hoth _ (by omega)).trans hX
                  replace hW := hW.trans hbl
                  replace hE := hE.keep (fun q h1 h2 => hoth q (by rcases hsep with h | h <;> omega)) (Nat.le_refl _) (Nat.le_refl _)
                  replace hhi : hi ≤ wm.heap.size := by omega
                  have hH := hS'.out _ hX
                  clear HST hbl hzz hoth hF hsep
                  refine hK.out _ _ ?_ (fun hHeld => ?_)
                  · with_reducible exact hH
                  clear hK K hH
                  try simp only [List.getElem_toArray, List.getElem_cons_succ, List.getElem_cons_zero]
                  try simp only [Act.put]
                  refine wpAnyH_take (i := 13) (v := ?_) rfl (by kernel_rfl) (by kernel_rfl) (by kernel_rfl) (fun _ _ _ h => h) (Or.inl ⟨by rfl, ?_⟩) (by assumption) ?_
                  rotate_left
                  · intro X hX
                    go_simp
                    try with_reducible rfl
                  try simp only [List.getElem_toArray, List.getElem_cons_succ, List.getElem_cons_zero]
                  try simp only [Act.put, List.setIfInBounds_toArray, List.set_cons_zero, List.set_cons_succ]
                  refine wpAnyH_done (by kernel_rfl) ?_ _
                  go_wp2_with fail
                  go_meet
                  case rel => exact ⟨gF, g2, rfl, rfl, Lib.hid hG, Lib.hid (hE.keep (fun _ _ _ => rfl) hlo hhi), Lib.hid hW, hgF, hg4⟩
        · refine step_alloc_new rfl 25 rfl _ alloc_st ?_
          intro gF wn hF hgF hb
          replace hgF : w4.heap.size ≤ gF := Nat.le_trans hW.size hgF
          replace hX := keepH hb hX
          replace hW := keepB hW hb
          replace hA := keepH hb hA
          replace hC := keepH hb hC
          have hH := hS'.out _ hX
          clear hb
          refine hK.out _ _ ?_ (fun hHeld => ?_)
          · with_reducible exact hH
          clear hK K hH
          try simp only [List.getElem_toArray, List.getElem_cons_succ, List.getElem_cons_zero]
          try simp only [Act.put, List.setIfInBounds_toArray, List.set_cons_zero, List.set_cons_succ]
          refine wpAnyH_ready (rs := [2]) (by kernel_rfl) (by simp) (AllReadyH.cons rfl (fun K hK => ?_) AllReadyH.nil)
          · obtain ⟨A1, ca1, wm, hr, hB, hg⟩ := put_log (base := w4.heap.size) hA hgA (HL.out _ (keepB hB4 hW)) (by omega)
            refine step_append_known rfl _ _ 22 22 rfl (.slice (some ⟨gA, 0, none⟩) 0 0) (.slice (some ⟨bq, oq, none⟩) es.length c) (by simp [Act.eval]) (by simp [Act.eval]) hr ?_
            replace hX := keepG hg hX (fun e => by injection e; omega)
            replace hC := keepG hg hC (fun e => ne_heap hA hC (by simp) (Option.some.inj e))
            replace hF := keepG hg hF (fun e => ne_heap hA hF (by simp) (Option.some.inj e))
            replace hW := hW.trans (below_grow (B := w4.heap.size) hg (fun q h1 e => by injection e; omega) hW.size)
            have hH := hS'.out _ hX
            clear hr hg hA hgA
            refine hK.out _ _ ?_ (fun hHeld => ?_)
            · with_reducible exact hH
            clear hK K hH
            try simp only [List.getElem_toArray, List.getElem_cons_succ, List.getElem_cons_zero]
            try simp only [Act.put, List.setIfInBounds_toArray, List.set_cons_zero, List.set_cons_succ]
            refine wpAnyH_ready (rs := [6]) (by kernel_rfl) (by simp) (AllReadyH.cons rfl (fun K hK => ?_) AllReadyH.nil)
            · obtain ⟨A2, ca2, wm, hr, hD', hg, -⟩ := run_append_es hB (es_heap (es := [⟨z0, z1, z2, z3, z4, z5⟩, ⟨z0, z1, z2, z3, z4, z5⟩]) hC (by simp [ecs, En.l, Od.l]) (by simp)) hW.size (by simp; omega)
              simp only [List.length_cons, List.length_nil] at hr hD'
              refine step_append_known rfl _ _ 22 22 rfl (.slice A1 es.length ca1) (.slice (some ⟨gC, 0, none⟩) 2 2) (by simp [Act.eval]) (by simp [Act.eval]) hr ?_
              replace hX := keepG hg hX (fun e => by have := (World.ownsRow.lt hB _ e).1; omega)
              replace hF := keepG hg hF (own_ne_state hB hF)
              replace hW := hW.trans (below_grow (B := w4.heap.size) hg (fun q h1 e => by have := (World.ownsRow.lt hB _ e).1; omega) hW.size)
              have hD := own_es (es := es ++ [⟨z0, z1, z2, z3, z4, z5⟩, ⟨z0, z1, z2, z3, z4, z5⟩]) (by rw [ecs_append]; simpa using hD') (by simp; omega)
              have hH := hS'.out _ hX
              clear hr hg hB hC hD'
              refine hK.out _ _ ?_ (fun hHeld => ?_)
              · with_reducible exact hH
              clear hK K hH
              try simp only [List.getElem_toArray, List.getElem_cons_succ, List.getElem_cons_zero]
              try simp only [Act.put, List.setIfInBounds_toArray, List.set_cons_zero, List.set_cons_succ]
              refine wpAnyH_ready (rs := [7]) (by kernel_rfl) (by simp) (AllReadyH.cons rfl (fun K hK => ?_) AllReadyH.nil)
              · go_simp
                refine (H2.out _ (keepB hB4 hW) _ hD).mono ?_
                rintro e wm ⟨g2, rfl, hE, hg2a, hg2b, hb⟩
                have hg4 : w4.heap.size ≤ g2 := Nat.le_trans hW.size hg2a
                obtain ⟨lo, hi, hE, hlo, hhi, hge⟩ := ocs_bounds hE
                have hsep : gF < lo ∨ hi ≤ gF := .inl (by rw [hlo]; exact lt_of_block hF)
                replace hlo : w4.heap.size ≤ lo := by rw [hlo]; exact hW.size
                replace hX := keepH hb hX
                replace hW := keepB hW hb
                replace hF := keepH hb hF
                have hH := hS'.out _ hX
                clear hb hD hge hg2a hg2b
                go_wp2_with fail
                refine hK.out _ _ ?_ (fun hHeld => ?_)
                · with_reducible exact hH
                clear hK K hH
                try simp only [List.getElem_toArray, List.getElem_cons_succ, List.getElem_cons_zero]
                try simp only [Act.put, List.setIfInBounds_toArray, List.set_cons_zero, List.set_cons_succ]
                refine wpAnyH_take (i := 8) (v := ?_) rfl (by kernel_rfl) (by kernel_rfl) (by kernel_rfl) (fun _ _ _ h => h) (Or.inl ⟨by rfl, ?_⟩) (by assumption) ?_
                rotate_left
                · intro X hX
                  go_simp
                  try with_reducible rfl
                try simp only [List.getElem_toArray, List.getElem_cons_succ, List.getElem_cons_zero]
                try simp only [Act.put, List.setIfInBounds_toArray, List.set_cons_zero, List.set_cons_succ]
                refine wpAnyH_take (i := 9) (v := ?_) rfl (by kernel_rfl) (by kernel_rfl) (by kernel_rfl) (fun _ _ _ h => h) (Or.inl ⟨by rfl, ?_⟩) (by assumption) ?_
                rotate_left
                · intro X hX
                  go_simp
                  try with_reducible rfl
                try simp only [List.getElem_toArray, List.getElem_cons_succ, List.getElem_cons_zero]
                try simp only [Act.put, List.setIfInBounds_toArray, List.set_cons_zero, List.set_cons_succ]
                refine wpAnyH_take (i := 10) (v := ?_) rfl (by kernel_rfl) (by kernel_rfl) (by kernel_rfl) (fun _ _ _ h => h) (Or.inl ⟨by rfl, ?_⟩) (by assumption) ?_
                rotate_left
                · intro X hX
                  go_simp
                  try with_reducible rfl
                try simp only [List.getElem_toArray, List.getElem_cons_succ, List.getElem_cons_zero]
                try simp only [Act.put, List.setIfInBounds_toArray, List.set_cons_zero, List.set_cons_succ]
                refine wpAnyH_ready (rs := [12]) (by kernel_rfl) (by simp) (AllReadyH.cons rfl (fun K hK => ?_) AllReadyH.nil)
                · obtain ⟨wm, HST, hG, hbl, hzz, hoth⟩ := st_store (n := w4.heap.size) T2.tag T2.cl T2.sum T2.ver hF rfl hgF
                  refine step_store_known rfl 25 _ _ rfl ⟨gF, 0, none⟩ (.agg #[.int .i64 T2.tag, .bool T2.cl, .int .i64 T2.sum, .int .i64 T2.ver]) (by simp [Act.eval]) (by simp [Act.eval]) HST ?_
                  replace hX := (hoth _ (by omega)).trans hX
                  replace hW := hW.trans hbl
                  replace hE := hE.keep (fun q h1 h2 => hoth q (by rcases hsep with h | h <;> omega)) (Nat.le_refl _) (Nat.le_refl _)
                  replace hhi : hi ≤ wm.heap.size := by omega
                  have hH := hS'.out _ hX
                  clear HST hbl hzz hoth hF hsep
                  refine hK.out _ _ ?_ (fun hHeld => ?_)
                  · with_reducible exact hH
                  clear hK K hH
                  try simp only [List.getElem_toArray, List.getElem_cons_succ, List.getElem_cons_zero]
                  try simp only [Act.put]
                  refine wpAnyH_take (i := 13) (v := ?_) rfl (by kernel_rfl) (by kernel_rfl) (by kernel_rfl) (fun _ _ _ h => h) (Or.inl ⟨by rfl, ?_⟩) (by assumption) ?_
                  rotate_left
                  · intro X hX
                    go_simp
                    try with_reducible rfl
                  try simp only [List.getElem_toArray, List.getElem_cons_succ, List.getElem_cons_zero]
                  try simp only [Act.put, List.setIfInBounds_toArray, List.set_cons_zero, List.set_cons_succ]
                  refine wpAnyH_done (by kernel_rfl) ?_ _
                  go_wp2_with fail
                  go_meet
                  case rel => exact ⟨gF, g2, rfl, rfl, Lib.hid hG, Lib.hid (hE.keep (fun _ _ _ => rfl) hlo hhi), Lib.hid hW, hgF, hg4⟩
      · refine step_alloc_new rfl 25 rfl _ alloc_st ?_
        intro gF wn hF hgF hb
        replace hgF : w4.heap.size ≤ gF := Nat.le_trans hW.size hgF
        replace hX := keepH hb hX
        replace hW := keepB hW hb
        replace hC := keepH hb hC
        have hH := hS'.out _ hX
        clear hb
        refine hK.out _ _ ?_ (fun hHeld => ?_)
        · with_reducible exact hH
        clear hK K hH
        try simp only [List.getElem_toArray, List.getElem_cons_succ, List.getElem_cons_zero]
        try simp only [Act.put, List.setIfInBounds_toArray, List.set_cons_zero, List.set_cons_succ]
        refine wpAnyH_ready (rs := [0]) (by kernel_rfl) (by simp) (AllReadyH.cons rfl (fun K hK => ?_) AllReadyH.nil)
        · refine step_build_new rfl 22 0 #[] #[] rfl (by simp) #[] 45 build0_run ?_
          intro gA wn hA hgA hb
          replace hgA : w4.heap.size ≤ gA := Nat.le_trans hW.size hgA
          replace hX := keepH hb hX
          replace hW := keepB hW hb
          replace hC := keepH hb hC
          replace hF := keepH hb hF
          have hH := hS'.out _ hX
          clear hb
          refine hK.out _ _ ?_ (fun hHeld => ?_)
          · with_reducible exact hH
          clear hK K hH
          try simp only [List.getElem_toArray, List.getElem_cons_zero]
          try simp only [Act.put, List.setIfInBounds_toArray, List.set_cons_zero, List.set_cons_succ]
          refine wpAnyH_ready (rs := [2]) (by kernel_rfl) (by simp) (AllReadyH.cons rfl (fun K hK => ?_) AllReadyH.nil)
          · obtain ⟨A1, ca1, wm, hr, hB, hg⟩ := put_log (base := w4.heap.size) hA hgA (HL.out _ (keepB hB4 hW)) (by omega)
            refine step_append_known rfl _ _ 22 22 rfl (.slice (some ⟨gA, 0, none⟩) 0 0) (.slice (some ⟨bq, oq, none⟩) es.length c) (by simp [Act.eval]) (by simp [Act.eval]) hr ?_
            replace hX := keepG hg hX (fun e => by injection e; omega)
            replace hC := keepG hg hC (fun e => ne_heap hA hC (by simp) (Option.some.inj e))
            replace hF := keepG hg hF (fun e => ne_heap hA hF (by simp) (Option.some.inj e))
            replace hW := hW.trans (below_grow (B := w4.heap.size) hg (fun q h1 e => by injection e; omega) hW.size)
            have hH := hS'.out _ hX
            clear hr hg hA hgA
            refine hK.out _ _ ?_ (fun hHeld => ?_)
            · with_reducible exact hH
            clear hK K hH
            try simp only [List.getElem_toArray, List.getElem_cons_succ, List.getElem_cons_zero]
            try simp only [Act.put, List.setIfInBounds_toArray, List.set_cons_zero, List.set_cons_succ]
            refine wpAnyH_ready (rs := [6]) (by kernel_rfl) (by simp) (AllReadyH.cons rfl (fun K hK => ?_) AllReadyH.nil)
            · obtain ⟨A2, ca2, wm, hr, hD', hg, -⟩ := run_append_es hB (es_heap (es := [⟨z0, z1, z2, z3, z4, z5⟩, ⟨z0, z1, z2, z3, z4, z5⟩]) hC (by simp [ecs, En.l, Od.l]) (by simp)) hW.size (by simp; omega)
              simp only [List.length_cons, List.length_nil] at hr hD'
              refine step_append_known rfl _ _ 22 22 rfl (.slice A1 es.length ca1) (.slice (some ⟨gC, 0, none⟩) 2 2) (by simp [Act.eval]) (by simp [Act.eval]) hr ?_
              replace hX := keepG hg hX (fun e => by have := (World.ownsRow.lt hB _ e).1; omega)
              replace hF := keepG hg hF (own_ne_state hB hF)
              replace hW := hW.trans (below_grow (B := w4.heap.size) hg (fun q h1 e => by have := (World.ownsRow.lt hB _ e).1; omega) hW.size)
              have hD := own_es (es := es ++ [⟨z0, z1, z2, z3, z4, z5⟩, ⟨z0, z1, z2, z3, z4, z5⟩]) (by rw [ecs_append]; simpa using hD') (by simp; omega)
              have hH := hS'.out _ hX
              clear hr hg hB hC hD'
              refine hK.out _ _ ?_ (fun hHeld => ?_)
              · with_reducible exact hH
              clear hK K hH
              try simp only [List.getElem_toArray, List.getElem_cons_succ, List.getElem_cons_zero]
              try simp only [Act.put, List.setIfInBounds_toArray, List.set_cons_zero, List.set_cons_succ]
              refine wpAnyH_ready (rs := [7]) (by kernel_rfl) (by simp) (AllReadyH.cons rfl (fun K hK => ?_) AllReadyH.nil)
              · go_simp
                refine (H2.out _ (keepB hB4 hW) _ hD).mono ?_
                rintro e wm ⟨g2, rfl, hE, hg2a, hg2b, hb⟩
                have hg4 : w4.heap.size ≤ g2 := Nat.le_trans hW.size hg2a
                obtain ⟨lo, hi, hE, hlo, hhi, hge⟩ := ocs_bounds hE
                have hsep : gF < lo ∨ hi ≤ gF := .inl (by rw [hlo]; exact lt_of_block hF)
                replace hlo : w4.heap.size ≤ lo := by rw [hlo]; exact hW.size
                replace hX := keepH hb hX
                replace hW := keepB hW hb
                replace hF := keepH hb hF
                have hH := hS'.out _ hX
                clear hb hD hge hg2a hg2b
                go_wp2_with fail
                refine hK.out _ _ ?_ (fun hHeld => ?_)
                · with_reducible exact hH
                clear hK K hH
                try simp only [List.getElem_toArray, List.getElem_cons_succ, List.getElem_cons_zero]
                try simp only [Act.put, List.setIfInBounds_toArray, List.set_cons_zero, List.set_cons_succ]
                refine wpAnyH_take (i := 8) (v := ?_) rfl (by kernel_rfl) (by kernel_rfl) (by kernel_rfl) (fun _ _ _ h => h) (Or.inl ⟨by rfl, ?_⟩) (by assumption) ?_
                rotate_left
                · intro X hX
                  go_simp
                  try with_reducible rfl
                try simp only [List.getElem_toArray, List.getElem_cons_succ, List.getElem_cons_zero]
                try simp only [Act.put, List.setIfInBounds_toArray, List.set_cons_zero, List.set_cons_succ]
                refine wpAnyH_take (i := 9) (v := ?_) rfl (by kernel_rfl) (by kernel_rfl) (by kernel_rfl) (fun _ _ _ h => h) (Or.inl ⟨by rfl, ?_⟩) (by assumption) ?_
                rotate_left
                · intro X hX
                  go_simp
                  try with_reducible rfl
                try simp only [List.getElem_toArray, List.getElem_cons_succ, List.getElem_cons_zero]
                try simp only [Act.put, List.setIfInBounds_toArray, List.set_cons_zero, List.set_cons_succ]
                refine wpAnyH_take (i := 10) (v := ?_) rfl (by kernel_rfl) (by kernel_rfl) (by kernel_rfl) (fun _ _ _ h => h) (Or.inl ⟨by rfl, ?_⟩) (by assumption) ?_
                rotate_left
                · intro X hX
                  go_simp
                  try with_reducible rfl
                try simp only [List.getElem_toArray, List.getElem_cons_succ, List.getElem_cons_zero]
                try simp only [Act.put, List.setIfInBounds_toArray, List.set_cons_zero, List.set_cons_succ]
                refine wpAnyH_ready (rs := [12]) (by kernel_rfl) (by simp) (AllReadyH.cons rfl (fun K hK => ?_) AllReadyH.nil)
                · obtain ⟨wm, HST, hG, hbl, hzz, hoth⟩ := st_store (n := w4.heap.size) T2.tag T2.cl T2.sum T2.ver hF rfl hgF
                  refine step_store_known rfl 25 _ _ rfl ⟨gF, 0, none⟩ (.agg #[.int .i64 T2.tag, .bool T2.cl, .int .i64 T2.sum, .int .i64 T2.ver]) (by simp [Act.eval]) (by simp [Act.eval]) HST ?_
                  replace hX := (hoth _ (by omega)).trans hX
                  replace hW := hW.trans hbl
                  replace hE := hE.keep (fun q h1 h2 => hoth q (by rcases hsep with h | h <;> omega)) (Nat.le_refl _) (Nat.le_refl _)
                  replace hhi : hi ≤ wm.heap.size := by omega
                  have hH := hS'.out _ hX
                  clear HST hbl hzz hoth hF hsep
                  refine hK.out _ _ ?_ (fun hHeld => ?_)
                  · with_reducible exact hH
                  clear hK K hH
                  try simp only [List.getElem_toArray, List.getElem_cons_succ, List.getElem_cons_zero]
                  try simp only [Act.put]
                  refine wpAnyH_take (i := 13) (v := ?_) rfl (by kernel_rfl) (by kernel_rfl) (by kernel_rfl) (fun _ _ _ h => h) (Or.inl ⟨by rfl, ?_⟩) (by assumption) ?_
                  rotate_left
                  · intro X hX
                    go_simp
                    try with_reducible rfl
                  try simp only [List.getElem_toArray, List.getElem_cons_succ, List.getElem_cons_zero]
                  try simp only [Act.put, List.setIfInBounds_toArray, List.set_cons_zero, List.set_cons_succ]
                  refine wpAnyH_done (by kernel_rfl) ?_ _
                  go_wp2_with fail
                  go_meet
                  case rel => exact ⟨gF, g2, rfl, rfl, Lib.hid hG, Lib.hid (hE.keep (fun _ _ _ => rfl) hlo hhi), Lib.hid hW, hgF, hg4⟩
    · refine step_alloc_new rfl 25 rfl _ alloc_st ?_
      intro gF wn hF hgF hb
      replace hgF : w4.heap.size ≤ gF := Nat.le_trans hW.size hgF
      replace hX := keepH hb hX
      replace hW := keepB hW hb
      have hH := hS'.out _ hX
      clear hb
      refine hK.out _ _ ?_ (fun hHeld => ?_)
      · with_reducible exact hH
      clear hK K hH
      try simp only [List.getElem_toArray, List.getElem_cons_succ, List.getElem_cons_zero]
      try simp only [Act.put, List.setIfInBounds_toArray, List.set_cons_zero, List.set_cons_succ]
      refine wpAnyH_ready (rs := [0,5]) (by kernel_rfl) (by simp) (AllReadyH.cons rfl (fun K hK => ?_) (AllReadyH.cons rfl (fun K hK => ?_) AllReadyH.nil))
      · refine step_build_new rfl 22 0 #[] #[] rfl (by simp) #[] 45 build0_run ?_
        intro gA wn hA hgA hb
        replace hgA : w4.heap.size ≤ gA := Nat.le_trans hW.size hgA
        replace hX := keepH hb hX
        replace hW := keepB hW hb
        replace hF := keepH hb hF
        have hH := hS'.out _ hX
        clear hb
        refine hK.out _ _ ?_ (fun hHeld => ?_)
        · with_reducible exact hH
        clear hK K hH
        try simp only [List.getElem_toArray, List.getElem_cons_zero]
        try simp only [Act.put, List.setIfInBounds_toArray, List.set_cons_zero, List.set_cons_succ]
        refine wpAnyH_ready (rs := [2,5]) (by kernel_rfl) (by simp) (AllReadyH.cons rfl (fun K hK => ?_) (AllReadyH.cons rfl (fun K hK => ?_) AllReadyH.nil))
        · obtain ⟨A1, ca1, wm, hr, hB, hg⟩ := put_log (base := w4.heap.size) hA hgA (HL.out _ (keepB hB4 hW)) (by omega)
          refine step_append_known rfl _ _ 22 22 rfl (.slice (some ⟨gA, 0, none⟩) 0 0) (.slice (some ⟨bq, oq, none⟩) es.length c) (by simp [Act.eval]) (by simp [Act.eval]) hr ?_
          replace hX := keepG hg hX (fun e => by injection e; omega)
          replace hF := keepG hg hF (fun e => ne_heap hA hF (by simp) (Option.some.inj e))
          replace hW := hW.trans (below_grow (B := w4.heap.size) hg (fun q h1 e => by injection e; omega) hW.size)
          have hH := hS'.out _ hX
          clear hr hg hA hgA
          refine hK.out _ _ ?_ (fun hHeld => ?_)
          · with_reducible exact hH
          clear hK K hH
          try simp only [List.getElem_toArray, List.getElem_cons_succ, List.getElem_cons_zero]
          try simp only [Act.put, List.setIfInBounds_toArray, List.set_cons_zero, List.set_cons_succ]
          refine wpAnyH_ready (rs := [5]) (by kernel_rfl) (by simp) (AllReadyH.cons rfl (fun K hK => ?_) AllReadyH.nil)
          · refine step_build_new rfl 22 2 _ #[(0, .agg #[.int .i64 z0, .int .i64 z1, .int .i64 z2, .int .i64 z3, .int .i64 z4, .int .i64 z5]), (1, .agg #[.int .i64 z0, .int .i64 z1, .int .i64 z2, .int .i64 z3, .int .i64 z4, .int .i64 z5])] rfl (by simp [Act.eval]) #[.int .i64 z0, .int .i64 z1, .int .i64 z2, .int .i64 z3, .int .i64 z4, .int .i64 z5, .int .i64 z0, .int .i64 z1, .int .i64 z2, .int .i64 z3, .int .i64 z4, .int .i64 z5] 45 (build2_run ⟨z0, z1, z2, z3, z4, z5⟩) ?_
            intro gC wn hC hgC hb
            clear hgC
            replace hX := keepH hb hX
            replace hW := keepB hW hb
            replace hB := keepR hb hB
            replace hF := keepH hb hF
            have hH := hS'.out _ hX
            clear hb
            refine hK.out _ _ ?_ (fun hHeld => ?_)
            · with_reducible exact hH
            clear hK K hH
            try simp only [List.getElem_toArray, List.getElem_cons_succ, List.getElem_cons_zero]
            try simp only [Act.put, List.setIfInBounds_toArray, List.set_cons_zero, List.set_cons_succ]
            refine wpAnyH_ready (rs := [6]) (by kernel_rfl) (by simp) (AllReadyH.cons rfl (fun K hK => ?_) AllReadyH.nil)
            · obtain ⟨A2, ca2, wm, hr, hD', hg, -⟩ := run_append_es hB (es_heap (es := [⟨z0, z1, z2, z3, z4, z5⟩, ⟨z0, z1, z2, z3, z4, z5⟩]) hC (by simp [ecs, En.l, Od.l]) (by simp)) hW.size (by simp; omega)
              simp only [List.length_cons, List.length_nil] at hr hD'
              refine step_append_known rfl _ _ 22 22 rfl (.slice A1 es.length ca1) (.slice (some ⟨gC, 0, none⟩) 2 2) (by simp [Act.eval]) (by simp [Act.eval]) hr ?_
              replace hX := keepG hg hX (fun e => by have := (World.ownsRow.lt hB _ e).1; omega)
              replace hF := keepG hg hF (own_ne_state hB hF)
              replace hW := hW.trans (below_grow (B := w4.heap.size) hg (fun q h1 e => by have := (World.ownsRow.lt hB _ e).1; omega) hW.size)
              have hD := own_es (es := es ++ [⟨z0, z1, z2, z3, z4, z5⟩, ⟨z0, z1, z2, z3, z4, z5⟩]) (by rw [ecs_append]; simpa using hD') (by simp; omega)
              have hH := hS'.out _ hX
              clear hr hg hB hC hD'
              refine hK.out _ _ ?_ (fun hHeld => ?_)
              · with_reducible exact hH
              clear hK K hH
              try simp only [List.getElem_toArray, List.getElem_cons_succ, List.getElem_cons_zero]
              try simp only [Act.put, List.setIfInBounds_toArray, List.set_cons_zero, List.set_cons_succ]
              refine wpAnyH_ready (rs := [7]) (by kernel_rfl) (by simp) (AllReadyH.cons rfl (fun K hK => ?_) AllReadyH.nil)
              · go_simp
                refine (H2.out _ (keepB hB4 hW) _ hD).mono ?_
                rintro e wm ⟨g2, rfl, hE, hg2a, hg2b, hb⟩
                have hg4 : w4.heap.size ≤ g2 := Nat.le_trans hW.size hg2a
                obtain ⟨lo, hi, hE, hlo, hhi, hge⟩ := ocs_bounds hE
                have hsep : gF < lo ∨ hi ≤ gF := .inl (by rw [hlo]; exact lt_of_block hF)
                replace hlo : w4.heap.size ≤ lo := by rw [hlo]; exact hW.size
                replace hX := keepH hb hX
                replace hW := keepB hW hb
                replace hF := keepH hb hF
                have hH := hS'.out _ hX
                clear hb hD hge hg2a hg2b
                go_wp2_with fail
                refine hK.out _ _ ?_ (fun hHeld => ?_)
                · with_reducible exact hH
                clear hK K hH
                try simp only [List.getElem_toArray, List.getElem_cons_succ, List.getElem_cons_zero]
                try simp only [Act.put, List.setIfInBounds_toArray, List.set_cons_zero, List.set_cons_succ]
                refine wpAnyH_take (i := 8) (v := ?_) rfl (by kernel_rfl) (by kernel_rfl) (by kernel_rfl) (fun _ _ _ h => h) (Or.inl ⟨by rfl, ?_⟩) (by assumption) ?_
                rotate_left
                · intro X hX
                  go_simp
                  try with_reducible rfl
                try simp only [List.getElem_toArray, List.getElem_cons_succ, List.getElem_cons_zero]
                try simp only [Act.put, List.setIfInBounds_toArray, List.set_cons_zero, List.set_cons_succ]
                refine wpAnyH_take (i := 9) (v := ?_) rfl (by kernel_rfl) (by kernel_rfl) (by kernel_rfl) (fun _ _ _ h => h) (Or.inl ⟨by rfl, ?_⟩) (by assumption) ?_
                rotate_left
                · intro X hX
                  go_simp
                  try with_reducible rfl
                try simp only [List.getElem_toArray, List.getElem_cons_succ, List.getElem_cons_zero]
                try simp only [Act.put, List.setIfInBounds_toArray, List.set_cons_zero, List.set_cons_succ]
                refine wpAnyH_take (i := 10) (v := ?_) rfl (by kernel_rfl) (by kernel_rfl) (by kernel_rfl) (fun _ _ _ h => h) (Or.inl ⟨by rfl, ?_⟩) (by assumption) ?_
                rotate_left
                · intro X hX
                  go_simp
                  try with_reducible rfl
                try simp only [List.getElem_toArray, List.getElem_cons_succ, List.getElem_cons_zero]
                try simp only [Act.put, List.setIfInBounds_toArray, List.set_cons_zero, List.set_cons_succ]
                refine wpAnyH_ready (rs := [12]) (by kernel_rfl) (by simp) (AllReadyH.cons rfl (fun K hK => ?_) AllReadyH.nil)
                · obtain ⟨wm, HST, hG, hbl, hzz, hoth⟩ := st_store (n := w4.heap.size) T2.tag T2.cl T2.sum T2.ver hF rfl hgF
                  refine step_store_known rfl 25 _ _ rfl ⟨gF, 0, none⟩ (.agg #[.int .i64 T2.tag, .bool T2.cl, .int .i64 T2.sum, .int .i64 T2.ver]) (by simp [Act.eval]) (by simp [Act.eval]) HST ?_
                  replace hX := (hoth _ (by omega)).trans hX
                  replace hW := hW.trans hbl
                  replace hE := hE.keep (fun q h1 h2 => hoth q (by rcases hsep with h | h <;> omega)) (Nat.le_refl _) (Nat.le_refl _)
                  replace hhi : hi ≤ wm.heap.size := by omega
                  have hH := hS'.out _ hX
                  clear HST hbl hzz hoth hF hsep
                  refine hK.out _ _ ?_ (fun hHeld => ?_)
                  · with_reducible exact hH
                  clear hK K hH
                  try simp only [List.getElem_toArray, List.getElem_cons_succ, List.getElem_cons_zero]
                  try simp only [Act.put]
                  refine wpAnyH_take (i := 13) (v := ?_) rfl (by kernel_rfl) (by kernel_rfl) (by kernel_rfl) (fun _ _ _ h => h) (Or.inl ⟨by rfl, ?_⟩) (by assumption) ?_
                  rotate_left
                  · intro X hX
                    go_simp
                    try with_reducible rfl
                  try simp only [List.getElem_toArray, List.getElem_cons_succ, List.getElem_cons_zero]
                  try simp only [Act.put, List.setIfInBounds_toArray, List.set_cons_zero, List.set_cons_succ]
                  refine wpAnyH_done (by kernel_rfl) ?_ _
                  go_wp2_with fail
                  go_meet
                  case rel => exact ⟨gF, g2, rfl, rfl, Lib.hid hG, Lib.hid (hE.keep (fun _ _ _ => rfl) hlo hhi), Lib.hid hW, hgF, hg4⟩
        · refine step_build_new rfl 22 2 _ #[(0, .agg #[.int .i64 z0, .int .i64 z1, .int .i64 z2, .int .i64 z3, .int .i64 z4, .int .i64 z5]), (1, .agg #[.int .i64 z0, .int .i64 z1, .int .i64 z2, .int .i64 z3, .int .i64 z4, .int .i64 z5])] rfl (by simp [Act.eval]) #[.int .i64 z0, .int .i64 z1, .int .i64 z2, .int .i64 z3, .int .i64 z4, .int .i64 z5, .int .i64 z0, .int .i64 z1, .int .i64 z2, .int .i64 z3, .int .i64 z4, .int .i64 z5] 45 (build2_run ⟨z0, z1, z2, z3, z4, z5⟩) ?_
          intro gC wn hC hgC hb
          clear hgC
          replace hX := keepH hb hX
          replace hW := keepB hW hb
          replace hA := keepH hb hA
          replace hF := keepH hb hF
          have hH := hS'.out _ hX
          clear hb
          refine hK.out _ _ ?_ (fun hHeld => ?_)
          · with_reducible exact hH
          clear hK K hH
          try simp only [List.getElem_toArray, List.getElem_cons_succ, List.getElem_cons_zero]
          try simp only [Act.put, List.setIfInBounds_toArray, List.set_cons_zero, List.set_cons_succ]
          refine wpAnyH_ready (rs := [2]) (by kernel_rfl) (by simp) (AllReadyH.cons rfl (fun K hK => ?_) AllReadyH.nil)
          · obtain ⟨A1, ca1, wm, hr, hB, hg⟩ := put_log (base := w4.heap.size) hA hgA (HL.out _ (keepB hB4 hW)) (by omega)
            refine step_append_known rfl _ _ 22 22 rfl (.slice (some ⟨gA, 0, none⟩) 0 0) (.slice (some ⟨bq, oq, none⟩) es.length c) (by simp [Act.eval]) (by simp [Act.eval]) hr ?_
            replace hX := keepG hg hX (fun e => by injection e; omega)
            replace hC := keepG hg hC (fun e => ne_heap hA hC (by simp) (Option.some.inj e))
            replace hF := keepG hg hF (fun e => ne_heap hA hF (by simp) (Option.some.inj e))
            replace hW := hW.trans (below_grow (B := w4.heap.size) hg (fun q h1 e => by injection e; omega) hW.size)
            have hH := hS'.out _ hX
            clear hr hg hA hgA
            refine hK.out _ _ ?_ (fun hHeld => ?_)
            · with_reducible exact hH
            clear hK K hH
            try simp only [List.getElem_toArray, List.getElem_cons_succ, List.getElem_cons_zero]
            try simp only [Act.put, List.setIfInBounds_toArray, List.set_cons_zero, List.set_cons_succ]
            refine wpAnyH_ready (rs := [6]) (by kernel_rfl) (by simp) (AllReadyH.cons rfl (fun K hK => ?_) AllReadyH.nil)
            · obtain ⟨A2, ca2, wm, hr, hD', hg, -⟩ := run_append_es hB (es_heap (es := [⟨z0, z1, z2, z3, z4, z5⟩, ⟨z0, z1, z2, z3, z4, z5⟩]) hC (by simp [ecs, En.l, Od.l]) (by simp)) hW.size (by simp; omega)
              simp only [List.length_cons, List.length_nil] at hr hD'
              refine step_append_known rfl _ _ 22 22 rfl (.slice A1 es.length ca1) (.slice (some ⟨gC, 0, none⟩) 2 2) (by simp [Act.eval]) (by simp [Act.eval]) hr ?_
              replace hX := keepG hg hX (fun e => by have := (World.ownsRow.lt hB _ e).1; omega)
              replace hF := keepG hg hF (own_ne_state hB hF)
              replace hW := hW.trans (below_grow (B := w4.heap.size) hg (fun q h1 e => by have := (World.ownsRow.lt hB _ e).1; omega) hW.size)
              have hD := own_es (es := es ++ [⟨z0, z1, z2, z3, z4, z5⟩, ⟨z0, z1, z2, z3, z4, z5⟩]) (by rw [ecs_append]; simpa using hD') (by simp; omega)
              have hH := hS'.out _ hX
              clear hr hg hB hC hD'
              refine hK.out _ _ ?_ (fun hHeld => ?_)
              · with_reducible exact hH
              clear hK K hH
              try simp only [List.getElem_toArray, List.getElem_cons_succ, List.getElem_cons_zero]
              try simp only [Act.put, List.setIfInBounds_toArray, List.set_cons_zero, List.set_cons_succ]
              refine wpAnyH_ready (rs := [7]) (by kernel_rfl) (by simp) (AllReadyH.cons rfl (fun K hK => ?_) AllReadyH.nil)
              · go_simp
                refine (H2.out _ (keepB hB4 hW) _ hD).mono ?_
                rintro e wm ⟨g2, rfl, hE, hg2a, hg2b, hb⟩
                have hg4 : w4.heap.size ≤ g2 := Nat.le_trans hW.size hg2a
                obtain ⟨lo, hi, hE, hlo, hhi, hge⟩ := ocs_bounds hE
                have hsep : gF < lo ∨ hi ≤ gF := .inl (by rw [hlo]; exact lt_of_block hF)
                replace hlo : w4.heap.size ≤ lo := by rw [hlo]; exact hW.size
                replace hX := keepH hb hX
                replace hW := keepB hW hb
                replace hF := keepH hb hF
                have hH := hS'.out _ hX
                clear hb hD hge hg2a hg2b
                go_wp2_with fail
                refine hK.out _ _ ?_ (fun hHeld => ?_)
                · with_reducible exact hH
                clear hK K hH
                try simp only [List.getElem_toArray, List.getElem_cons_succ, List.getElem_cons_zero]
                try simp only [Act.put, List.setIfInBounds_toArray, List.set_cons_zero, List.set_cons_succ]
                refine wpAnyH_take (i := 8) (v := ?_) rfl (by kernel_rfl) (by kernel_rfl) (by kernel_rfl) (fun _ _ _ h => h) (Or.inl ⟨by rfl, ?_⟩) (by assumption) ?_
                rotate_left
                · intro X hX
                  go_simp
                  try with_reducible rfl
                try simp only [List.getElem_toArray, List.getElem_cons_succ, List.getElem_cons_zero]
                try simp only [Act.put, List.setIfInBounds_toArray, List.set_cons_zero, List.set_cons_succ]
                refine wpAnyH_take (i := 9) (v := ?_) rfl (by kernel_rfl) (by kernel_rfl) (by kernel_rfl) (fun _ _ _ h => h) (Or.inl ⟨by rfl, ?_⟩) (by assumption) ?_
                rotate_left
                · intro X hX
                  go_simp
                  try with_reducible rfl
                try simp only [List.getElem_toArray, List.getElem_cons_succ, List.getElem_cons_zero]
                try simp only [Act.put, List.setIfInBounds_toArray, List.set_cons_zero, List.set_cons_succ]
                refine wpAnyH_take (i := 10) (v := ?_) rfl (by kernel_rfl) (by kernel_rfl) (by kernel_rfl) (fun _ _ _ h => h) (Or.inl ⟨by rfl, ?_⟩) (by assumption) ?_
                rotate_left
                · intro X hX
                  go_simp
                  try with_reducible rfl
                try simp only [List.getElem_toArray, List.getElem_cons_succ, List.getElem_cons_zero]
                try simp only [Act.put, List.setIfInBounds_toArray, List.set_cons_zero, List.set_cons_succ]
                refine wpAnyH_ready (rs := [12]) (by kernel_rfl) (by simp) (AllReadyH.cons rfl (fun K hK => ?_) AllReadyH.nil)
                · obtain ⟨wm, HST, hG, hbl, hzz, hoth⟩ := st_store (n := w4.heap.size) T2.tag T2.cl T2.sum T2.ver hF rfl hgF
                  refine step_store_known rfl 25 _ _ rfl ⟨gF, 0, none⟩ (.agg #[.int .i64 T2.tag, .bool T2.cl, .int .i64 T2.sum, .int .i64 T2.ver]) (by simp [Act.eval]) (by simp [Act.eval]) HST ?_
                  replace hX := (hoth _ (by omega)).trans hX
                  replace hW := hW.trans hbl
                  replace hE := hE.keep (fun q h1 h2 => hoth q (by rcases hsep with h | h <;> omega)) (Nat.le_refl _) (Nat.le_refl _)
                  replace hhi : hi ≤ wm.heap.size := by omega
                  have hH := hS'.out _ hX
                  clear HST hbl hzz hoth hF hsep
                  refine hK.out _ _ ?_ (fun hHeld => ?_)
                  · with_reducible exact hH
                  clear hK K hH
                  try simp only [List.getElem_toArray, List.getElem_cons_succ, List.getElem_cons_zero]
                  try simp only [Act.put]
                  refine wpAnyH_take (i := 13) (v := ?_) rfl (by kernel_rfl) (by kernel_rfl) (by kernel_rfl) (fun _ _ _ h => h) (Or.inl ⟨by rfl, ?_⟩) (by assumption) ?_
                  rotate_left
                  · intro X hX
                    go_simp
                    try with_reducible rfl
                  try simp only [List.getElem_toArray, List.getElem_cons_succ, List.getElem_cons_zero]
                  try simp only [Act.put, List.setIfInBounds_toArray, List.set_cons_zero, List.set_cons_succ]
                  refine wpAnyH_done (by kernel_rfl) ?_ _
                  go_wp2_with fail
                  go_meet
                  case rel => exact ⟨gF, g2, rfl, rfl, Lib.hid hG, Lib.hid (hE.keep (fun _ _ _ => rfl) hlo hhi), Lib.hid hW, hgF, hg4⟩
      · refine step_build_new rfl 22 2 _ #[(0, .agg #[.int .i64 z0, .int .i64 z1, .int .i64 z2, .int .i64 z3, .int .i64 z4, .int .i64 z5]), (1, .agg #[.int .i64 z0, .int .i64 z1, .int .i64 z2, .int .i64 z3, .int .i64 z4, .int .i64 z5])] rfl (by simp [Act.eval]) #[.int .i64 z0, .int .i64 z1, .int .i64 z2, .int .i64 z3, .int .i64 z4, .int .i64 z5, .int .i64 z0, .int .i64 z1, .int .i64 z2, .int .i64 z3, .int .i64 z4, .int .i64 z5] 45 (build2_run ⟨z0, z1, z2, z3, z4, z5⟩) ?_
        intro gC wn hC hgC hb
        clear hgC
        replace hX := keepH hb hX
        replace hW := keepB hW hb
        replace hF := keepH hb hF
        have hH := hS'.out _ hX
        clear hb
        refine hK.out _ _ ?_ (fun hHeld => ?_)
        · with_reducible exact hH
        clear hK K hH
        try simp only [List.getElem_toArray, List.getElem_cons_succ, List.getElem_cons_zero]
        try simp only [Act.put, List.setIfInBounds_toArray, List.set_cons_zero, List.set_cons_succ]
        refine wpAnyH_ready (rs := [0]) (by kernel_rfl) (by simp) (AllReadyH.cons rfl (fun K hK => ?_) AllReadyH.nil)
        · refine step_build_new rfl 22 0 #[] #[] rfl (by simp) #[] 45 build0_run ?_
          intro gA wn hA hgA hb
          replace hgA : w4.heap.size ≤ gA := Nat.le_trans hW.size hgA
          replace hX := keepH hb hX
          replace hW := keepB hW hb
          replace hC := keepH hb hC
          replace hF := keepH hb hF
          have hH := hS'.out _ hX
          clear hb
          refine hK.out _ _ ?_ (fun hHeld => ?_)
          · with_reducible exact hH
          clear hK K hH
          try simp only [List.getElem_toArray, List.getElem_cons_zero]
          try simp only [Act.put, List.setIfInBounds_toArray, List.set_cons_zero, List.set_cons_succ]
          refine wpAnyH_ready (rs := [2]) (by kernel_rfl) (by simp) (AllReadyH.cons rfl (fun K hK => ?_) AllReadyH.nil)
          · obtain ⟨A1, ca1, wm, hr, hB, hg⟩ := put_log (base := w4.heap.size) hA hgA (HL.out _ (keepB hB4 hW)) (by omega)
            refine step_append_known rfl _ _ 22 22 rfl (.slice (some ⟨gA, 0, none⟩) 0 0) (.slice (some ⟨bq, oq, none⟩) es.length c) (by simp [Act.eval]) (by simp [Act.eval]) hr ?_
            replace hX := keepG hg hX (fun e => by injection e; omega)
            replace hC := keepG hg hC (fun e => ne_heap hA hC (by simp) (Option.some.inj e))
            replace hF := keepG hg hF (fun e => ne_heap hA hF (by simp) (Option.some.inj e))
            replace hW := hW.trans (below_grow (B := w4.heap.size) hg (fun q h1 e => by injection e; omega) hW.size)
            have hH := hS'.out _ hX
            clear hr hg hA hgA
            refine hK.out _ _ ?_ (fun hHeld => ?_)
            · with_reducible exact hH
            clear hK K hH
            try simp only [List.getElem_toArray, List.getElem_cons_succ, List.getElem_cons_zero]
            try simp only [Act.put, List.setIfInBounds_toArray, List.set_cons_zero, List.set_cons_succ]
            refine wpAnyH_ready (rs := [6]) (by kernel_rfl) (by simp) (AllReadyH.cons rfl (fun K hK => ?_) AllReadyH.nil)
            · obtain ⟨A2, ca2, wm, hr, hD', hg, -⟩ := run_append_es hB (es_heap (es := [⟨z0, z1, z2, z3, z4, z5⟩, ⟨z0, z1, z2, z3, z4, z5⟩]) hC (by simp [ecs, En.l, Od.l]) (by simp)) hW.size (by simp; omega)
              simp only [List.length_cons, List.length_nil] at hr hD'
              refine step_append_known rfl _ _ 22 22 rfl (.slice A1 es.length ca1) (.slice (some ⟨gC, 0, none⟩) 2 2) (by simp [Act.eval]) (by simp [Act.eval]) hr ?_
              replace hX := keepG hg hX (fun e => by have := (World.ownsRow.lt hB _ e).1; omega)
              replace hF := keepG hg hF (own_ne_state hB hF)
              replace hW := hW.trans (below_grow (B := w4.heap.size) hg (fun q h1 e => by have := (World.ownsRow.lt hB _ e).1; omega) hW.size)
              have hD := own_es (es := es ++ [⟨z0, z1, z2, z3, z4, z5⟩, ⟨z0, z1, z2, z3, z4, z5⟩]) (by rw [ecs_append]; simpa using hD') (by simp; omega)
              have hH := hS'.out _ hX
              clear hr hg hB hC hD'
              refine hK.out _ _ ?_ (fun hHeld => ?_)
              · with_reducible exact hH
              clear hK K hH
              try simp only [List.getElem_toArray, List.getElem_cons_succ, List.getElem_cons_zero]
              try simp only [Act.put, List.setIfInBounds_toArray, List.set_cons_zero, List.set_cons_succ]
              refine wpAnyH_ready (rs := [7]) (by kernel_rfl) (by simp) (AllReadyH.cons rfl (fun K hK => ?_) AllReadyH.nil)
              · go_simp
                refine (H2.out _ (keepB hB4 hW) _ hD).mono ?_
                rintro e wm ⟨g2, rfl, hE, hg2a, hg2b, hb⟩
                have hg4 : w4.heap.size ≤ g2 := Nat.le_trans hW.size hg2a
                obtain ⟨lo, hi, hE, hlo, hhi, hge⟩ := ocs_bounds hE
                have hsep : gF < lo ∨ hi ≤ gF := .inl (by rw [hlo]; exact lt_of_block hF)
                replace hlo : w4.heap.size ≤ lo := by rw [hlo]; exact hW.size
                replace hX := keepH hb hX
                replace hW := keepB hW hb
                replace hF := keepH hb hF
                have hH := hS'.out _ hX
                clear hb hD hge hg2a hg2b
                go_wp2_with fail
                refine hK.out _ _ ?_ (fun hHeld => ?_)
                · with_reducible exact hH
                clear hK K hH
                try simp only [List.getElem_toArray, List.getElem_cons_succ, List.getElem_cons_zero]
                try simp only [Act.put, List.setIfInBounds_toArray, List.set_cons_zero, List.set_cons_succ]
                refine wpAnyH_take (i := 8) (v := ?_) rfl (by kernel_rfl) (by kernel_rfl) (by kernel_rfl) (fun _ _ _ h => h) (Or.inl ⟨by rfl, ?_⟩) (by assumption) ?_
                rotate_left
                · intro X hX
                  go_simp
                  try with_reducible rfl
                try simp only [List.getElem_toArray, List.getElem_cons_succ, List.getElem_cons_zero]
                try simp only [Act.put, List.setIfInBounds_toArray, List.set_cons_zero, List.set_cons_succ]
                refine wpAnyH_take (i := 9) (v := ?_) rfl (by kernel_rfl) (by kernel_rfl) (by kernel_rfl) (fun _ _ _ h => h) (Or.inl ⟨by rfl, ?_⟩) (by assumption) ?_
                rotate_left
                · intro X hX
                  go_simp
                  try with_reducible rfl
                try simp only [List.getElem_toArray, List.getElem_cons_succ, List.getElem_cons_zero]
                try simp only [Act.put, List.setIfInBounds_toArray, List.set_cons_zero, List.set_cons_succ]
                refine wpAnyH_take (i := 10) (v := ?_) rfl (by kernel_rfl) (by kernel_rfl) (by kernel_rfl) (fun _ _ _ h => h) (Or.inl ⟨by rfl, ?_⟩) (by assumption) ?_
                rotate_left
                · intro X hX
                  go_simp
                  try with_reducible rfl
                try simp only [List.getElem_toArray, List.getElem_cons_succ, List.getElem_cons_zero]
                try simp only [Act.put, List.setIfInBounds_toArray, List.set_cons_zero, List.set_cons_succ]
                refine wpAnyH_ready (rs := [12]) (by kernel_rfl) (by simp) (AllReadyH.cons rfl (fun K hK => ?_) AllReadyH.nil)
                · obtain ⟨wm, HST, hG, hbl, hzz, hoth⟩ := st_store (n := w4.heap.size) T2.tag T2.cl T2.sum T2.ver hF rfl hgF
                  refine step_store_known rfl 25 _ _ rfl ⟨gF, 0, none⟩ (.agg #[.int .i64 T2.tag, .bool T2.cl, .int .i64 T2.sum, .int .i64 T2.ver]) (by simp [Act.eval]) (by simp [Act.eval]) HST ?_
                  replace hX := (hoth _ (by omega)).trans hX
                  replace hW := hW.trans hbl
                  replace hE := hE.keep (fun q h1 h2 => hoth q (by rcases hsep with h | h <;> omega)) (Nat.le_refl _) (Nat.le_refl _)
                  replace hhi : hi ≤ wm.heap.size := by omega
                  have hH := hS'.out _ hX
                  clear HST hbl hzz hoth hF hsep
                  refine hK.out _ _ ?_ (fun hHeld => ?_)
                  · with_reducible exact hH
                  clear hK K hH
                  try simp only [List.getElem_toArray, List.getElem_cons_succ, List.getElem_cons_zero]
                  try simp only [Act.put]
                  refine wpAnyH_take (i := 13) (v := ?_) rfl (by kernel_rfl) (by kernel_rfl) (by kernel_rfl) (fun _ _ _ h => h) (Or.inl ⟨by rfl, ?_⟩) (by assumption) ?_
                  rotate_left
                  · intro X hX
                    go_simp
                    try with_reducible rfl
                  try simp only [List.getElem_toArray, List.getElem_cons_succ, List.getElem_cons_zero]
                  try simp only [Act.put, List.setIfInBounds_toArray, List.set_cons_zero, List.set_cons_succ]
                  refine wpAnyH_done (by kernel_rfl) ?_ _
                  go_wp2_with fail
                  go_meet
                  case rel => exact ⟨gF, g2, rfl, rfl, Lib.hid hG, Lib.hid (hE.keep (fun _ _ _ => rfl) hlo hhi), Lib.hid hW, hgF, hg4⟩
  case rest =>
    obtain ⟨gF, g2, rfl, rfl, hG', hO', hW', hgF4, hg24⟩ := hcut
    generalize wc = w5 at *
    have hG := hG'.out
    have hO := hO'.out
    rw [q1.out] at hG
    rw [q2.out] at hO
    have hs5 := hW'.out.size
    have h_s5 := keepH hW'.out h_s4
    have hB5 := keepB hB4 hW'.out
    have hO5 := (HO.out).below hW'.out (Nat.le_of_lt hz4)
    have hgd : (foldL es).2.getD f oc0 = (foldL es).2[f]'(by omega) := by rw [List.getD_eq_getElem?_getD, List.getElem?_eq_getElem (by omega)]; rfl
    rw [hgd] at hO
    have hmt := hO.take (i := es.length) (by simp; omega)
    rw [List.take_left' hol] at hmt
    have HSO := Lib.hid (sameOcs_any hmt hO5 (Nat.le_refl _) (by omega))
    clear hmt
    obtain ⟨gq, cq', hv, -, hgl, hoc⟩ := OcsB.cells hO (k := es.length) (by simp; omega)
    injection hv with e1 e2 e3
    injection e1 with e1
    injection e1 with e1
    subst e1
    clear e2 e3
    rw [List.getElem_append_right (by omega)] at hoc
    simp only [hol, Nat.sub_self, List.getElem_cons_zero] at hoc
    obtain ⟨V1, m0, m1, m2, m3⟩ := hoc
    obtain ⟨gq', cq'', hv, -, hgl', hoc⟩ := OcsB.cells hO (k := es.length + 1) (by simp; omega)
    injection hv with e1 e2 e3
    injection e1 with e1
    injection e1 with e1
    subst e1
    clear e2 e3
    rw [List.getElem_append_right (by omega)] at hoc
    simp only [hol, Nat.add_sub_cancel_left, List.getElem_cons_succ, List.getElem_cons_zero] at hoc
    obtain ⟨V2, n0, n1, n2, n3⟩ := hoc
    obtain ⟨gq'', cq3, hv, -, hgl'', hoc⟩ := OcsB.cells hO5 (k := f) (by omega)
    injection hv with e1 e2 e3
    injection e1 with e1
    injection e1 with e1
    subst e1
    clear e2 e3
    obtain ⟨V3, l0, l1, -, -⟩ := hoc
    generalize (foldL es).2[f]'(by omega) = oc at *
    obtain ⟨rc, rv, re⟩ := oc
    unfold again at m0 m1 m3 n0 n1 n3
    dsimp only at m0 m1 m3 n0 n1 n3 l0 l1
    rw [Nat.zero_add] at m0 m1 m2 n0 n1 n2 l0 l1
    obtain rfl : V1 = .slice none 0 0 := by
      rcases m3 with ⟨_, h⟩ | ⟨e, q, h, _⟩
      · exact h
      · cases h
    obtain rfl : V2 = .slice none 0 0 := by
      rcases n3 with ⟨_, h⟩ | ⟨e, q, h, _⟩
      · exact h
      · cases h
    clear m3 n3 hO' hO hO5 HO H2 HL q1 q2 h_s4 h_x4 hgd hG' hW'
    generalize (foldL es).1 = S9 at *
    obtain ⟨t, cl, y, v⟩ := S9
    dsimp only at *
    have hnn : (es.length : Int) < (es.length : Int) + 2 := by omega
    have hnc : es.length ≤ es.length + 2 := by omega
    go_wp2_with fail
    refine (HSO.out).mono ?_
    rintro e w6 ⟨rfl, hb6⟩
    have h_s6 := keepH hb6 h_s5
    have h_t6 := keepH hb6 hG
    have hB6 := keepB hB5 hb6
    have hs6 := hb6.size
    have m0 := keepC hb6 m0
    have m1 := keepC hb6 m1
    have m2 := keepC hb6 m2
    have n0 := keepC hb6 n0
    have n1 := keepC hb6 n1
    have n2 := keepC hb6 n2
    have l0 := keepC hb6 l0
    have l1 := keepC hb6 l1
    clear h_s5 hG hB5 HSO
    have s0 : w6.cell? ⟨w3.heap.size, 0, none⟩ = some (.int .i64 t) := by rw [Lib.cell_of_heap h_s6]; rfl
    have s1 : w6.cell? ⟨w3.heap.size, 1, none⟩ = some (.bool cl) := by rw [Lib.cell_of_heap h_s6]; rfl
    have s2 : w6.cell? ⟨w3.heap.size, 2, none⟩ = some (.int .i64 y) := by rw [Lib.cell_of_heap h_s6]; rfl
    have s3 : w6.cell? ⟨w3.heap.size, 3, none⟩ = some (.int .i64 v) := by rw [Lib.cell_of_heap h_s6]; rfl
    have u0 : w6.cell? ⟨gF, 0, none⟩ = some (.int .i64 t) := by rw [Lib.cell_of_heap h_t6]; rfl
    have u1 : w6.cell? ⟨gF, 1, none⟩ = some (.bool cl) := by rw [Lib.cell_of_heap h_t6]; rfl
    have u2 : w6.cell? ⟨gF, 2, none⟩ = some (.int .i64 y) := by rw [Lib.cell_of_heap h_t6]; rfl
    have u3 : w6.cell? ⟨gF, 3, none⟩ = some (.int .i64 v) := by rw [Lib.cell_of_heap h_t6]; rfl
    have hf0 : (f : Int) < (es.length : Int) := by omega
    go_wp2_with fail
    clear s0 s1 s2 s3 u0 u1 u2 u3 h_s6 h_t6
    go_region_held3 (fun X => X.cell? ⟨g, f * 3, none⟩ = some (.int .i64 rc) ∧ X.cell? ⟨g, f * 3 + 1, none⟩ = some (.int .i64 rv)) (go_keep) (fail)
    all_goals
      obtain ⟨w7, HX7⟩ : ∃ W : World, Hid (W = (w6.alloc (.cells #[.int .i64 rc, .int .i64 rv, .slice none 0 0] 33)).drew) := ⟨_, Lib.hid rfl⟩
      rw [← HX7.out]
      have h_b7 : w7.heap[w6.heap.size]? = some (.cells #[.int .i64 rc, .int .i64 rv, .slice none 0 0] 33 (0, 0)) := by rw [HX7.out]; exact heap_alloc_new _ _
      have hb7 : Below w6.heap.size w6 w7 := by rw [HX7.out]; exact ((Below.refl _ _).alloc (Nat.le_refl _) _).drew
      have hBn := keepB hB6 hb7
      have m0 := keepC hb7 m0
      have m1 := keepC hb7 m1
      have m2 := keepC hb7 m2
      have n0 := keepC hb7 n0
      have n1 := keepC hb7 n1
      have n2 := keepC hb7 n2
      have b0 : w7.cell? ⟨w6.heap.size, 0, none⟩ = some (.int .i64 rc) := by rw [Lib.cell_of_heap h_b7]; rfl
      have b1 : w7.cell? ⟨w6.heap.size, 1, none⟩ = some (.int .i64 rv) := by rw [Lib.cell_of_heap h_b7]; rfl
      have b2 : w7.cell? ⟨w6.heap.size, 2, none⟩ = some (.slice none 0 0) := by rw [Lib.cell_of_heap h_b7]; rfl
      have HS : Hid (∀ X : World, Below w7.heap.size w7 X → Calls Tryd.prog 19 #[.agg #[.int .i64 rc, .int .i64 rv, .slice none 0 0], .agg #[.int .i64 rc, .int .i64 rv, .slice none 0 0]] X (NumPost (.bool true) X)) := Lib.hid fun X _ => same_nil _ _ X
      have hnm : (es.length : Int) + 1 < (es.length : Int) + 2 := by omega
      clear HX7 hb7 h_b7 l0 l1 hb6
      go_wp2_with fail
      have k_m0 : ∀ d' os, (grow (redrawn w7 d') os).cell? ⟨g2, es.length * 3, none⟩ = some (.int .i64 rc) := fun d' os => cell_regrown m0 d' os
      have k_m1 : ∀ d' os, (grow (redrawn w7 d') os).cell? ⟨g2, es.length * 3 + 1, none⟩ = some (.int .i64 rv) := fun d' os => cell_regrown m1 d' os
      have k_m2 : ∀ d' os, (grow (redrawn w7 d') os).cell? ⟨g2, es.length * 3 + 2, none⟩ = some (.slice none 0 0) := fun d' os => cell_regrown m2 d' os
      have k_n0 : ∀ d' os, (grow (redrawn w7 d') os).cell? ⟨g2, (es.length + 1) * 3, none⟩ = some (.int .i64 rc) := fun d' os => cell_regrown n0 d' os
      have k_n1 : ∀ d' os, (grow (redrawn w7 d') os).cell? ⟨g2, (es.length + 1) * 3 + 1, none⟩ = some (.int .i64 rv) := fun d' os => cell_regrown n1 d' os
      have k_n2 : ∀ d' os, (grow (redrawn w7 d') os).cell? ⟨g2, (es.length + 1) * 3 + 2, none⟩ = some (.slice none 0 0) := fun d' os => cell_regrown n2 d' os
      have k_b0 : ∀ d' os, (grow (redrawn w7 d') os).cell? ⟨w6.heap.size, 0, none⟩ = some (.int .i64 rc) := fun d' os => cell_regrown b0 d' os
      have k_b1 : ∀ d' os, (grow (redrawn w7 d') os).cell? ⟨w6.heap.size, 1, none⟩ = some (.int .i64 rv) := fun d' os => cell_regrown b1 d' os
      have k_b2 : ∀ d' os, (grow (redrawn w7 d') os).cell? ⟨w6.heap.size, 2, none⟩ = some (.slice none 0 0) := fun d' os => cell_regrown b2 d' os
      have q1 : ∀ d' os, Calls Tryd.prog 19 #[.agg #[.int .i64 rc, .int .i64 rv, .slice none 0 0], .agg #[.int .i64 rc, .int .i64 rv, .slice none 0 0]] (grow (redrawn w7 d') os) fun e w'' => e = .returned (.bool true) ∧ ∃ p : Regrown, w'' = grow (redrawn w7 p.d) p.os := fun d' os => Calls.regrown_of (HS.out _ (below_regrown w7 d' os))
      have q2 : ∀ d' os, Calls Tryd.prog 15 #[] (grow (redrawn w7 d') os) fun e w'' => e = .returned (.bool true) ∧ ∃ p : Regrown, w'' = grow (redrawn w7 p.d) p.os := fun d' os => Calls.regrown_of (HW.out _ (keepB hBn (below_regrown w7 d' os)))
      clear m0 m1 m2 n0 n1 n2 b0 b1 b2
      refine wp_region_quiet_below (by kernel_rfl) (by kernel_rfl) ?_
      repeat (go_big_quiet_step (first | (with_reducible exact q1 _ _) | (with_reducible exact q2 _ _)))
      refine wpQuiet_nil ?_
      intro _ hw'
      obtain ⟨⟨dq, osq⟩, hw''⟩ := hw'
      subst hw''
      have hbq := below_regrown w7 dq osq
      generalize grow (redrawn w7 dq) osq = wz at *
      clear k_m0 k_m1 k_m2 k_n0 k_n1 k_n2 k_b0 k_b1 k_b2 q1 q2
      go_wp2_with fail
      go_ret
      exact ⟨rfl, keepB hBn hbq⟩
theorem walk (A : Option Addr) (c : Nat) (es : List En) (x : En) (at_ : Int) (w : World) (hA : Asked w) (ha : EsB w.heap.size w (.slice A es.length c) es) (hi : ∀ e ∈ es, IntsOk e.l) (hxi : IntsOk x.l) (_ : (Lit.int .i64 at_).wf) : Calls Tryd.prog 7 #[.slice A es.length c, .agg #[.int .i64 x.ep, .int .i64 x.o.id, .int .i64 x.o.st, .int .i64 x.o.ex, .int .i64 x.o.ki, .int .i64 x.o.ar], .int .i64 at_] w (fun e w' => e = .returned (.bool true) ∧ Below w.heap.size w w') := by
  by_cases hn : 300 < es.length ∨ es.length = 0
  · exact walk_off A es.length c x at_ w (Lib.hid (fun X hX => foWorks_any X (hA.keep hX))) hn
  · exact walk_on A c es x at_ w hA ha hi hxi (by omega) (by omega)
end Go.Proofs.YtafhjlfnhgkcoaaDoor.foldsOnceW
