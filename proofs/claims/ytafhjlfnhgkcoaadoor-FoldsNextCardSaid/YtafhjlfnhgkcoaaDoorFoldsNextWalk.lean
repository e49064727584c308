/-
  The walk of the law FoldsNext: it returns true and writes nothing that was there.
-/
import Derived.Test.YtafhjlfnhgkcoaaDoorFoFree
namespace Go.Proofs.YtafhjlfnhgkcoaaDoor.foldsNextW
open Go.RowKit Go.Sort Go.Maps
theorem snoc_ints {es : List En} {x : En} (h : ∀ e ∈ es, IntsOk e.l) (hx : IntsOk x.l) : ∀ e ∈ es ++ [x], IntsOk e.l := fun e he => by
  rcases List.mem_append.1 he with h1 | h1
  · exact h e h1
  · obtain rfl : e = x := by simpa using h1
    exact hx
set_option maxRecDepth 100000 in
set_option maxHeartbeats 1000000 in
theorem walk_long (A : Option Addr) (c : Nat) (es : List En) (x : En) (w : World) (hn : 300 < es.length) : Calls Tryd.prog 9 #[.slice A es.length c, ev6 x] w (fun e w' => e = .returned (.bool true) ∧ Below w.heap.size w w') := by
  have h1 : decide (300 < (es.length : Int)) = true := decide_eq_true (by omega)
  have h2 : (300 : Int) < (es.length : Int) := by omega
  simp only [ev6]
  go_enter Tryd.func9, Tryd.ntmps9
  go_wp2_with fail
  go_ret
  exact ⟨rfl, (Below.refl _ _).alloc (Nat.le_refl _) _⟩
set_option maxRecDepth 100000 in
set_option maxHeartbeats 1000000 in
theorem walk_old (A : Option Addr) (c : Nat) (es : List En) (x : En) (w : World) (hA : Asked w) (ha : EsB w.heap.size w (.slice A es.length c) es) (hn3 : es.length ≤ 300) {k : Nat} (hf : firstAt es x.o.id = some k) : Calls Tryd.prog 9 #[.slice A es.length c, ev6 x] w (fun e w' => e = .returned (.bool true) ∧ Below w.heap.size w w') := by
  have t1 : decide (300 < (es.length : Int)) = false := decide_eq_false (by omega)
  have t2 : ¬ (300 : Int) < (es.length : Int) := by omega
  have HW := Lib.hid (fun X (hX : Below w.heap.size w X) => foWorks_any X (hA.keep hX))
  have HF := Lib.hid (fun X (hX : Below w.heap.size w X) => (findR_some hf) ▸ find_any (w := X) x.o.id (RdB.below ha hX (Nat.le_refl _) : EsB _ X _ es) hX.size)
  obtain ⟨_, _, hv, hel, hem, -⟩ := ha.len
  injection hv with e1 _ e3
  subst e1 e3
  unfold maxLen at hem
  clear ha hA hf
  obtain ⟨z0, z1, z2, z3, z4, z5⟩ := x
  obtain ⟨w1, HX1⟩ : ∃ W : World, Hid (W = w.alloc (.cells #[.int .i64 z0, .int .i64 z1, .int .i64 z2, .int .i64 z3, .int .i64 z4, .int .i64 z5] 45)) := ⟨_, Lib.hid rfl⟩
  have h_x1 : w1.heap[w.heap.size]? = some (.cells #[.int .i64 z0, .int .i64 z1, .int .i64 z2, .int .i64 z3, .int .i64 z4, .int .i64 z5] 45 (0, 0)) := by rw [HX1.out]; exact heap_alloc_new _ _
  have hb1 : Below w.heap.size w w1 := by rw [HX1.out]; exact (Below.refl _ _).alloc (Nat.le_refl _) _
  have c1 : w1.cell? ⟨w.heap.size, 1, none⟩ = some (.int .i64 z1) := by rw [Lib.cell_of_heap h_x1]; rfl
  simp only [ev6] at *
  go_enter Tryd.func9, Tryd.ntmps9
  go_wp2_with (rw [← HX1.out])
  refine (HF.out _ hb1).mono ?_
  rintro e w2 ⟨rfl, hb⟩
  have hB2 := keepB hb1 hb
  go_wp2_with fail
  refine (HW.out _ hB2).mono ?_
  rintro e w3 ⟨rfl, hb3⟩
  go_wp2_with fail
  go_ret
  exact ⟨rfl, keepB hB2 hb3⟩
set_option maxRecDepth 100000 in
set_option maxHeartbeats 16000000 in
theorem walk_new (A : Option Addr) (c : Nat) (es : List En) (x : En) (w : World) (hA : Asked w) (ha : EsB w.heap.size w (.slice A es.length c) es) (hi : ∀ e ∈ es, IntsOk e.l) (hxi : IntsOk x.l) (hn3 : es.length ≤ 300) (hf : firstAt es x.o.id = none) : Calls Tryd.prog 9 #[.slice A es.length c, ev6 x] w (fun e w' => e = .returned (.bool true) ∧ Below w.heap.size w w') := by
  have t1 : decide (300 < (es.length : Int)) = false := decide_eq_false (by omega)
  have t2 : ¬ (300 : Int) < (es.length : Int) := by omega
  have HA := Lib.hid hA
  have HW := Lib.hid (fun X hX => foWorks_any X (HA.out.keep hX))
  have HL := Lib.hid (fun X (hX : Below w.heap.size w X) => (RdB.below ha hX (Nat.le_refl _) : EsB _ X _ es))
  have HF := Lib.hid (fun X (hX : Below w.heap.size w X) => (findR_none hf) ▸ find_any (w := X) x.o.id (HL.out X hX) hX.size)
  have H1 := fun X (hX : Below w.heap.size w X) => ofp_any (w := X) (HL.out X hX) hi hX.size (HA.out.keep hX) (by omega)
  unfold OfP at H1
  simp only [St.v] at H1
  replace H1 := Lib.hid H1
  have hsn := foldL_snoc es x
  unfold stepF at hsn
  rw [hf] at hsn
  simp only at hsn
  have H2 := fun X (hX : Below w.heap.size w X) v (hv : EsB X.heap.size X v (es ++ [x])) => ofp_any (w := X) hv (snoc_ints hi hxi) (Nat.le_refl _) (HA.out.keep hX) (by simp; omega)
  unfold OfP at H2
  generalize foldL (es ++ [x]) = FX at hsn H2
  obtain ⟨T2, lx⟩ := FX
  simp only [St.v, List.length_append, List.length_singleton] at H2
  replace H2 := Lib.hid H2
  have HD := Lib.hid (fun X hX => decide_any (foldL es).1 x.o X hX)
  have HAP := Lib.hid (fun X e => apply_any (foldL es).1 e X)
  have hap := Lib.hid (decide_apps (foldL es).1 x.o)
  have hol := foldL_len es
  injection hsn with q1 q2
  replace q1 := Lib.hid q1
  replace q2 := Lib.hid q2
  obtain ⟨_, _, hv, hel, hem, -⟩ := ha.len
  injection hv with e1 _ e3
  subst e1 e3
  unfold maxLen at hem
  clear ha hA hf hi hxi
  obtain ⟨z0, z1, z2, z3, z4, z5⟩ := x
  obtain ⟨w1, HX1⟩ : ∃ W : World, Hid (W = w.alloc (.cells #[.int .i64 z0, .int .i64 z1, .int .i64 z2, .int .i64 z3, .int .i64 z4, .int .i64 z5] 45)) := ⟨_, Lib.hid rfl⟩
  have h_x1 : w1.heap[w.heap.size]? = some (.cells #[.int .i64 z0, .int .i64 z1, .int .i64 z2, .int .i64 z3, .int .i64 z4, .int .i64 z5] 45 (0, 0)) := by rw [HX1.out]; exact heap_alloc_new _ _
  have hb1 : Below w.heap.size w w1 := by rw [HX1.out]; exact (Below.refl _ _).alloc (Nat.le_refl _) _
  have hz1 : w.heap.size < w1.heap.size := lt_of_block h_x1
  have c1 : w1.cell? ⟨w.heap.size, 1, none⟩ = some (.int .i64 z1) := by rw [Lib.cell_of_heap h_x1]; rfl
  simp only [ev6, Od.v] at *
  go_enter Tryd.func9, Tryd.ntmps9
  go_wp2_with (rw [← HX1.out])
  refine (HF.out _ hb1).mono ?_
  rintro e w2 ⟨rfl, hb⟩
  have hB2 := keepB hb1 hb
  have h_x2 := keepH hb h_x1
  clear hb c1 h_x1 hb1 HX1 HF
  go_wp2_with fail
  refine (H1.out _ hB2).mono ?_
  rintro e w3 ⟨g, rfl, hoc, hg1, hg2, hb⟩
  have hB3 := keepB hB2 hb
  have hw3s : w.heap.size ≤ w3.heap.size := hB3.size
  have h_x3 := keepH hb h_x2
  obtain ⟨w4, HX4⟩ : ∃ W : World, Hid (W = w3.alloc (.cells #[.int .i64 (foldL es).1.tag, .bool (foldL es).1.cl, .int .i64 (foldL es).1.sum, .int .i64 (foldL es).1.ver] 25)) := ⟨_, Lib.hid rfl⟩
  have h_s4 : w4.heap[w3.heap.size]? = some (.cells #[.int .i64 (foldL es).1.tag, .bool (foldL es).1.cl, .int .i64 (foldL es).1.sum, .int .i64 (foldL es).1.ver] 25 (0, 0)) := by rw [HX4.out]; exact heap_alloc_new _ _
  have hb4 : Below w3.heap.size w3 w4 := by rw [HX4.out]; exact (Below.refl _ _).alloc (Nat.le_refl _) _
  have hB4 := keepB hB3 hb4
  have h_x4 := keepH hb4 h_x3
  have hz4 : w3.heap.size < w4.heap.size := lt_of_block h_s4
  have hz0 : w.heap.size < w4.heap.size := lt_of_block h_x4
  clear hoc hb hb4 h_x2 h_x3 hB2 hB3 H1
  go_wp2_with (rw [← HX4.out])
  clear HX4
  go_cut [9, 10] (fun u v wx => ∃ (gF g2 : Nat), u = .pointer (some ⟨gF, 0, none⟩) ∧ v = .slice (some ⟨g2, 0, none⟩) (es.length + 1) (es.length + 1) ∧ Hid (wx.heap[gF]? = some (.cells #[.int .i64 T2.tag, .bool T2.cl, .int .i64 T2.sum, .int .i64 T2.ver] 25 (0, 0))) ∧ Hid (OcsB w4.heap.size wx.heap.size wx (.slice (some ⟨g2, 0, none⟩) (es.length + 1) (es.length + 1)) lx) ∧ Hid (Below w4.heap.size w4 wx) ∧ w4.heap.size ≤ gF ∧ w4.heap.size ≤ g2)
  case first =>
    have hW : Below w4.heap.size w4 w4.drew := (Below.refl _ _).drew
    have hX : w4.drew.heap[w.heap.size]? = some (.cells #[.int .i64 z0, .int .i64 z1, .int .i64 z2, .int .i64 z3, .int .i64 z4, .int .i64 z5] 45 (0, 0)) := h_x4
    have hL := RdB.mono (HL.out w4.drew (keepB hB4 hW)) (keepB hB4 hW).size
    have hS : ∀ X : World, X.heap[w.heap.size]? = some (.cells #[.int .i64 z0, .int .i64 z1, .int .i64 z2, .int .i64 z3, .int .i64 z4, .int .i64 z5] 45 (0, 0)) → X.cell? ⟨w.heap.size, 0, none⟩ = some (.int .i64 z0) ∧ X.cell? ⟨w.heap.size, 1, none⟩ = some (.int .i64 z1) ∧ X.cell? ⟨w.heap.size, 2, none⟩ = some (.int .i64 z2) ∧ X.cell? ⟨w.heap.size, 3, none⟩ = some (.int .i64 z3) ∧ X.cell? ⟨w.heap.size, 4, none⟩ = some (.int .i64 z4) ∧ X.cell? ⟨w.heap.size, 5, none⟩ = some (.int .i64 z5) := fun X h => ⟨(by rw [Lib.cell_of_heap h]; rfl), (by rw [Lib.cell_of_heap h]; rfl), (by rw [Lib.cell_of_heap h]; rfl), (by rw [Lib.cell_of_heap h]; rfl), (by rw [Lib.cell_of_heap h]; rfl), (by rw [Lib.cell_of_heap h]; rfl)⟩
    have hS' := Lib.hid hS
    have hH := hS _ hX
    obtain ⟨c0, c1, c2, c3, c4, c5⟩ := hS w4 h_x4
    clear hS
    refine wp_region_held_drew (S := fun X => X.cell? ⟨w.heap.size, 0, none⟩ = some (.int .i64 z0) ∧ X.cell? ⟨w.heap.size, 1, none⟩ = some (.int .i64 z1) ∧ X.cell? ⟨w.heap.size, 2, none⟩ = some (.int .i64 z2) ∧ X.cell? ⟨w.heap.size, 3, none⟩ = some (.int .i64 z3) ∧ X.cell? ⟨w.heap.size, 4, none⟩ = some (.int .i64 z4) ∧ X.cell? ⟨w.heap.size, 5, none⟩ = some (.int .i64 z5)) (by kernel_rfl) hH (fun hHeld => ?_)
    clear hH c0 c1 c2 c3 c4 c5
    refine wpAnyH_take (i := 1) (v := ?_) rfl (by kernel_rfl) (by kernel_rfl) (by kernel_rfl) (fun _ _ _ h => h) (Or.inl ⟨by rfl, ?_⟩) (by assumption) ?_
    rotate_left
    · intro X hX
      go_simp
      try with_reducible rfl
    try simp only [List.getElem_toArray, List.getElem_cons_succ, List.getElem_cons_zero]
    try simp only [Act.put, List.setIfInBounds_toArray, List.set_cons_zero, List.set_cons_succ]
    refine wpAnyH_take (i := 3) (v := .agg #[.int .i64 z0, .int .i64 z1, .int .i64 z2, .int .i64 z3, .int .i64 z4, .int .i64 z5]) rfl (by kernel_rfl) (by kernel_rfl) (by kernel_rfl) (fun _ _ _ h => h) (Or.inl ⟨by rfl, ?_⟩) (by assumption) ?_
    · intro X hX
      obtain ⟨c0, c1, c2, c3, c4, c5⟩ := hX
      go_simp
    try simp only [List.getElem_toArray, List.getElem_cons_succ, List.getElem_cons_zero]
    try simp only [Act.put, List.setIfInBounds_toArray, List.set_cons_zero, List.set_cons_succ]
    refine wpAnyH_ready (rs := [0,4,10]) (by kernel_rfl) (by simp) (AllReadyH.cons rfl (fun K hK => ?_) (AllReadyH.cons rfl (fun K hK => ?_) (AllReadyH.cons rfl (fun K hK => ?_) AllReadyH.nil)))
    · refine step_build_new rfl 22 0 #[] #[] rfl (by simp) #[] 45 build0_run ?_
      intro gA wn hA hgA hb
      replace hgA : w4.heap.size ≤ gA := Nat.le_trans hW.size hgA
      replace hX := keepH hb hX
      replace hW := keepB hW hb
      have hH := hS'.out _ hX
      clear hb
      refine hK.out _ _ ?_ (fun hHeld => ?_)
      · with_reducible exact hH
      clear hK K hH
      try simp only [List.getElem_toArray, List.getElem_cons_zero]
      try simp only [Act.put, List.setIfInBounds_toArray, List.set_cons_zero, List.set_cons_succ]
      refine wpAnyH_ready (rs := [2,4,10]) (by kernel_rfl) (by simp) (AllReadyH.cons rfl (fun K hK => ?_) (AllReadyH.cons rfl (fun K hK => ?_) (AllReadyH.cons rfl (fun K hK => ?_) AllReadyH.nil)))
      · obtain ⟨A1, ca1, wm, hr, hB, hg⟩ := put_log (base := w4.heap.size) hA hgA (HL.out _ (keepB hB4 hW)) (by omega)
        refine step_append_known rfl _ _ 22 22 rfl (.slice (some ⟨gA, 0, none⟩) 0 0) (.slice A es.length c) (by simp [Act.eval]) (by simp [Act.eval]) hr ?_
        replace hX := keepG hg hX (fun e => by injection e; omega)
        replace hW := hW.trans (below_grow (B := w4.heap.size) hg (fun q h1 e => by injection e; omega) hW.size)
        have hH := hS'.out _ hX
        clear hr hg hA hgA
        refine hK.out _ _ ?_ (fun hHeld => ?_)
        · with_reducible exact hH
        clear hK K hH
        try simp only [List.getElem_toArray, List.getElem_cons_succ, List.getElem_cons_zero]
        try simp only [Act.put, List.setIfInBounds_toArray, List.set_cons_zero, List.set_cons_succ]
        refine wpAnyH_ready (rs := [4,10]) (by kernel_rfl) (by simp) (AllReadyH.cons rfl (fun K hK => ?_) (AllReadyH.cons rfl (fun K hK => ?_) AllReadyH.nil))
        · refine step_build_new rfl 22 1 _ #[(0, .agg #[.int .i64 z0, .int .i64 z1, .int .i64 z2, .int .i64 z3, .int .i64 z4, .int .i64 z5])] rfl (by simp [Act.eval]) #[.int .i64 z0, .int .i64 z1, .int .i64 z2, .int .i64 z3, .int .i64 z4, .int .i64 z5] 45 (build1_run ⟨z0, z1, z2, z3, z4, z5⟩) ?_
          intro gC wn hC hgC hb
          clear hgC
          replace hX := keepH hb hX
          replace hW := keepB hW hb
          replace hB := keepR hb hB
          have hH := hS'.out _ hX
          clear hb
          refine hK.out _ _ ?_ (fun hHeld => ?_)
          · with_reducible exact hH
          clear hK K hH
          try simp only [List.getElem_toArray, List.getElem_cons_succ, List.getElem_cons_zero]
          try simp only [Act.put, List.setIfInBounds_toArray, List.set_cons_zero, List.set_cons_succ]
          refine wpAnyH_ready (rs := [5,10]) (by kernel_rfl) (by simp) (AllReadyH.cons rfl (fun K hK => ?_) (AllReadyH.cons rfl (fun K hK => ?_) AllReadyH.nil))
          · obtain ⟨A2, ca2, wm, hr, hD', hg, -⟩ := run_append_es hB (es_heap (es := [⟨z0, z1, z2, z3, z4, z5⟩]) hC (by simp [ecs, En.l, Od.l]) (by simp)) hW.size (by simp; omega)
            simp only [List.length_cons, List.length_nil] at hr hD'
            refine step_append_known rfl _ _ 22 22 rfl (.slice A1 es.length ca1) (.slice (some ⟨gC, 0, none⟩) 1 1) (by simp [Act.eval]) (by simp [Act.eval]) hr ?_
            replace hX := keepG hg hX (fun e => by have := (World.ownsRow.lt hB _ e).1; omega)
            replace hW := hW.trans (below_grow (B := w4.heap.size) hg (fun q h1 e => by have := (World.ownsRow.lt hB _ e).1; omega) hW.size)
            have hD := own_es (es := es ++ [⟨z0, z1, z2, z3, z4, z5⟩]) (by rw [ecs_append]; simpa using hD') (by simp; omega)
            have hH := hS'.out _ hX
            clear hr hg hB hC hD'
            refine hK.out _ _ ?_ (fun hHeld => ?_)
            · with_reducible exact hH
            clear hK K hH
            try simp only [List.getElem_toArray, List.getElem_cons_succ, List.getElem_cons_zero]
            try simp only [Act.put, List.setIfInBounds_toArray, List.set_cons_zero, List.set_cons_succ]
            refine wpAnyH_ready (rs := [6,10]) (by kernel_rfl) (by simp) (AllReadyH.cons rfl (fun K hK => ?_) (AllReadyH.cons rfl (fun K hK => ?_) AllReadyH.nil))
            · go_simp
              refine (H2.out _ (keepB hB4 hW) _ hD).mono ?_
              rintro e wm ⟨g2, rfl, hE, hg2a, hg2b, hb⟩
              have hg4 : w4.heap.size ≤ g2 := Nat.le_trans hW.size hg2a
              obtain ⟨lo, hi, hE, hlo, hhi, hge⟩ := ocs_bounds hE
              replace hlo : w4.heap.size ≤ lo := by rw [hlo]; exact hW.size
              replace hX := keepH hb hX
              replace hW := keepB hW hb
              have hH := hS'.out _ hX
              clear hb hD hge hg2a hg2b
              go_wp2_with fail
              refine hK.out _ _ ?_ (fun hHeld => ?_)
              · with_reducible exact hH
              clear hK K hH
              try simp only [List.getElem_toArray, List.getElem_cons_succ, List.getElem_cons_zero]
              try simp only [Act.put, List.setIfInBounds_toArray, List.set_cons_zero, List.set_cons_succ]
              refine wpAnyH_take (i := 7) (v := ?_) rfl (by kernel_rfl) (by kernel_rfl) (by kernel_rfl) (fun _ _ _ h => h) (Or.inl ⟨by rfl, ?_⟩) (by assumption) ?_
              rotate_left
              · intro X hX
                go_simp
                try with_reducible rfl
              try simp only [List.getElem_toArray, List.getElem_cons_succ, List.getElem_cons_zero]
              try simp only [Act.put, List.setIfInBounds_toArray, List.set_cons_zero, List.set_cons_succ]
              refine wpAnyH_take (i := 8) (v := ?_) rfl (by kernel_rfl) (by kernel_rfl) (by kernel_rfl) (fun _ _ _ h => h) (Or.inl ⟨by rfl, ?_⟩) (by assumption) ?_
              rotate_left
              · intro X hX
                go_simp
                try with_reducible rfl
              try simp only [List.getElem_toArray, List.getElem_cons_succ, List.getElem_cons_zero]
              try simp only [Act.put, List.setIfInBounds_toArray, List.set_cons_zero, List.set_cons_succ]
              refine wpAnyH_take (i := 9) (v := ?_) rfl (by kernel_rfl) (by kernel_rfl) (by kernel_rfl) (fun _ _ _ h => h) (Or.inl ⟨by rfl, ?_⟩) (by assumption) ?_
              rotate_left
              · intro X hX
                go_simp
                try with_reducible rfl
              try simp only [List.getElem_toArray, List.getElem_cons_succ, List.getElem_cons_zero]
              try simp only [Act.put, List.setIfInBounds_toArray, List.set_cons_zero, List.set_cons_succ]
              refine wpAnyH_ready (rs := [10]) (by kernel_rfl) (by simp) (AllReadyH.cons rfl (fun K hK => ?_) AllReadyH.nil)
              · refine step_alloc_new rfl 25 rfl _ alloc_st ?_
                intro gF wn hF hgF hb
                have hsep : gF < lo ∨ hi ≤ gF := .inr (Nat.le_trans hhi hgF)
                replace hgF : w4.heap.size ≤ gF := Nat.le_trans hW.size hgF
                replace hX := keepH hb hX
                replace hW := keepB hW hb
                replace hE := hE.below hb hhi
                replace hhi := Nat.le_trans hhi hb.size
                have hH := hS'.out _ hX
                clear hb
                refine hK.out _ _ ?_ (fun hHeld => ?_)
                · with_reducible exact hH
                clear hK K hH
                try simp only [List.getElem_toArray, List.getElem_cons_succ, List.getElem_cons_zero]
                try simp only [Act.put, List.setIfInBounds_toArray, List.set_cons_zero, List.set_cons_succ]
                refine wpAnyH_ready (rs := [11]) (by kernel_rfl) (by simp) (AllReadyH.cons rfl (fun K hK => ?_) AllReadyH.nil)
                · obtain ⟨wm, HST, hG, hbl, hzz, hoth⟩ := st_store (n := w4.heap.size) T2.tag T2.cl T2.sum T2.ver hF rfl hgF
                  refine step_store_known rfl 25 _ _ rfl ⟨gF, 0, none⟩ (.agg #[.int .i64 T2.tag, .bool T2.cl, .int .i64 T2.sum, .int .i64 T2.ver]) (by simp [Act.eval]) (by simp [Act.eval]) HST ?_
                  replace hX := (hoth _ (by omega)).trans hX
                  replace hW := hW.trans hbl
                  replace hE := hE.keep (fun q h1 h2 => hoth q (by rcases hsep with h | h <;> omega)) (Nat.le_refl _) (Nat.le_refl _)
                  replace hhi : hi ≤ wm.heap.size := by omega
                  have hH := hS'.out _ hX
                  clear HST hbl hzz hoth hF hsep
                  refine hK.out _ _ ?_ (fun hHeld => ?_)
                  · with_reducible exact hH
                  clear hK K hH
                  try simp only [List.getElem_toArray, List.getElem_cons_succ, List.getElem_cons_zero]
                  try simp only [Act.put]
                  refine wpAnyH_take (i := 12) (v := ?_) rfl (by kernel_rfl) (by kernel_rfl) (by kernel_rfl) (fun _ _ _ h => h) (Or.inl ⟨by rfl, ?_⟩) (by assumption) ?_
                  rotate_left
                  · intro X hX
                    go_simp
                    try with_reducible rfl
                  try simp only [List.getElem_toArray, List.getElem_cons_succ, List.getElem_cons_zero]
                  try simp only [Act.put, List.setIfInBounds_toArray, List.set_cons_zero, List.set_cons_succ]
                  refine wpAnyH_done (by kernel_rfl) ?_ _
                  go_wp2_with fail
                  go_meet
                  case rel => exact ⟨gF, g2, rfl, rfl, Lib.hid hG, Lib.hid (hE.keep (fun _ _ _ => rfl) hlo hhi), Lib.hid hW, hgF, hg4⟩
            · refine step_alloc_new rfl 25 rfl _ alloc_st ?_
              intro gF wn hF hgF hb
              replace hgF : w4.heap.size ≤ gF := Nat.le_trans hW.size hgF
              replace hX := keepH hb hX
              replace hW := keepB hW hb
              replace hD := keepE hb hD
              have hH := hS'.out _ hX
              clear hb
              refine hK.out _ _ ?_ (fun hHeld => ?_)
              · with_reducible exact hH
              clear hK K hH
              try simp only [List.getElem_toArray, List.getElem_cons_succ, List.getElem_cons_zero]
              try simp only [Act.put, List.setIfInBounds_toArray, List.set_cons_zero, List.set_cons_succ]
              refine wpAnyH_ready (rs := [6]) (by kernel_rfl) (by simp) (AllReadyH.cons rfl (fun K hK => ?_) AllReadyH.nil)
              · go_simp
                refine (H2.out _ (keepB hB4 hW) _ hD).mono ?_
                rintro e wm ⟨g2, rfl, hE, hg2a, hg2b, hb⟩
                have hg4 : w4.heap.size ≤ g2 := Nat.le_trans hW.size hg2a
                obtain ⟨lo, hi, hE, hlo, hhi, hge⟩ := ocs_bounds hE
                have hsep : gF < lo ∨ hi ≤ gF := .inl (by rw [hlo]; exact lt_of_block hF)
                replace hlo : w4.heap.size ≤ lo := by rw [hlo]; exact hW.size
                replace hX := keepH hb hX
                replace hW := keepB hW hb
                replace hF := keepH hb hF
                have hH := hS'.out _ hX
                clear hb hD hge hg2a hg2b
                go_wp2_with fail
                refine hK.out _ _ ?_ (fun hHeld => ?_)
                · with_reducible exact hH
                clear hK K hH
                try simp only [List.getElem_toArray, List.getElem_cons_succ, List.getElem_cons_zero]
                try simp only [Act.put, List.setIfInBounds_toArray, List.set_cons_zero, List.set_cons_succ]
                refine wpAnyH_take (i := 7) (v := ?_) rfl (by kernel_rfl) (by kernel_rfl) (by kernel_rfl) (fun _ _ _ h => h) (Or.inl ⟨by rfl, ?_⟩) (by assumption) ?_
                rotate_left
                · intro X hX
                  go_simp
                  try with_reducible rfl
                try simp only [List.getElem_toArray, List.getElem_cons_succ, List.getElem_cons_zero]
                try simp only [Act.put, List.setIfInBounds_toArray, List.set_cons_zero, List.set_cons_succ]
                refine wpAnyH_take (i := 8) (v := ?_) rfl (by kernel_rfl) (by kernel_rfl) (by kernel_rfl) (fun _ _ _ h => h) (Or.inl ⟨by rfl, ?_⟩) (by assumption) ?_
                rotate_left
                · intro X hX
                  go_simp
                  try with_reducible rfl
                try simp only [List.getElem_toArray, List.getElem_cons_succ, List.getElem_cons_zero]
                try simp only [Act.put, List.setIfInBounds_toArray, List.set_cons_zero, List.set_cons_succ]
                refine wpAnyH_take (i := 9) (v := ?_) rfl (by kernel_rfl) (by kernel_rfl) (by kernel_rfl) (fun _ _ _ h => h) (Or.inl ⟨by rfl, ?_⟩) (by assumption) ?_
                rotate_left
                · intro X hX
                  go_simp
                  try with_reducible rfl
                try simp only [List.getElem_toArray, List.getElem_cons_succ, List.getElem_cons_zero]
                try simp only [Act.put, List.setIfInBounds_toArray, List.set_cons_zero, List.set_cons_succ]
                refine wpAnyH_ready (rs := [11]) (by kernel_rfl) (by simp) (AllReadyH.cons rfl (fun K hK => ?_) AllReadyH.nil)
                · obtain ⟨wm, HST, hG, hbl, hzz, hoth⟩ := st_store (n := w4.heap.size) T2.tag T2.cl T2.sum T2.ver hF rfl hgF
                  refine step_store_known rfl 25 _ _ rfl ⟨gF, 0, none⟩ (.agg #[.int .i64 T2.tag, .bool T2.cl, .int .i64 T2.sum, .int .i64 T2.ver]) (by simp [Act.eval]) (by simp [Act.eval]) HST ?_
                  replace hX := (hoth _ (by omega)).trans hX
                  replace hW := hW.trans hbl
                  replace hE := hE.keep (fun q h1 h2 => hoth q (by rcases hsep with h | h <;> omega)) (Nat.le_refl _) (Nat.le_refl _)
                  replace hhi : hi ≤ wm.heap.size := by omega
                  have hH := hS'.out _ hX
                  clear HST hbl hzz hoth hF hsep
                  refine hK.out _ _ ?_ (fun hHeld => ?_)
                  · with_reducible exact hH
                  clear hK K hH
                  try simp only [List.getElem_toArray, List.getElem_cons_succ, List.getElem_cons_zero]
                  try simp only [Act.put]
                  refine wpAnyH_take (i := 12) (v := ?_) rfl (by kernel_rfl) (by kernel_rfl) (by kernel_rfl) (fun _ _ _ h => h) (Or.inl ⟨by rfl, ?_⟩) (by assumption) ?_
                  rotate_left
                  · intro X hX
                    go_simp
                    try with_reducible rfl
                  try simp only [List.getElem_toArray, List.getElem_cons_succ, List.getElem_cons_zero]
                  try simp only [Act.put, List.setIfInBounds_toArray, List.set_cons_zero, List.set_cons_succ]
                  refine wpAnyH_done (by kernel_rfl) ?_ _
                  go_wp2_with fail
                  go_meet
                  case rel => exact ⟨gF, g2, rfl, rfl, Lib.hid hG, Lib.hid (hE.keep (fun _ _ _ => rfl) hlo hhi), Lib.hid hW, hgF, hg4⟩
          · refine step_alloc_new rfl 25 rfl _ alloc_st ?_
            intro gF wn hF hgF hb
            replace hgF : w4.heap.size ≤ gF := Nat.le_trans hW.size hgF
            replace hX := keepH hb hX
            replace hW := keepB hW hb
            replace hB := keepR hb hB
            replace hC := keepH hb hC
            have hH := hS'.out _ hX
            clear hb
            refine hK.out _ _ ?_ (fun hHeld => ?_)
            · with_reducible exact hH
            clear hK K hH
            try simp only [List.getElem_toArray, List.getElem_cons_succ, List.getElem_cons_zero]
            try simp only [Act.put, List.setIfInBounds_toArray, List.set_cons_zero, List.set_cons_succ]
            refine wpAnyH_ready (rs := [5]) (by kernel_rfl) (by simp) (AllReadyH.cons rfl (fun K hK => ?_) AllReadyH.nil)
            · obtain ⟨A2, ca2, wm, hr, hD', hg, -⟩ := run_append_es hB (es_heap (es := [⟨z0, z1, z2, z3, z4, z5⟩]) hC (by simp [ecs, En.l, Od.l]) (by simp)) hW.size (by simp; omega)
              simp only [List.length_cons, List.length_nil] at hr hD'
              refine step_append_known rfl _ _ 22 22 rfl (.slice A1 es.length ca1) (.slice (some ⟨gC, 0, none⟩) 1 1) (by simp [Act.eval]) (by simp [Act.eval]) hr ?_
              replace hX := keepG hg hX (fun e => by have := (World.ownsRow.lt hB _ e).1; omega)
              replace hF := keepG hg hF (own_ne_state hB hF)
              replace hW := hW.trans (below_grow (B := w4.heap.size) hg (fun q h1 e => by have := (World.ownsRow.lt hB _ e).1; omega) hW.size)
              have hD := own_es (es := es ++ [⟨z0, z1, z2, z3, z4, z5⟩]) (by rw [ecs_append]; simpa using hD') (by simp; omega)
              have hH := hS'.out _ hX
              clear hr hg hB hC hD'
              refine hK.out _ _ ?_ (fun hHeld => ?_)
              · with_reducible exact hH
              clear hK K hH
              try simp only [List.getElem_toArray, List.getElem_cons_succ, List.getElem_cons_zero]
              try simp only [Act.put, List.setIfInBounds_toArray, List.set_cons_zero, List.set_cons_succ]
              refine wpAnyH_ready (rs := [6]) (by kernel_rfl) (by simp) (AllReadyH.cons rfl (fun K hK => ?_) AllReadyH.nil)
              · go_simp
                refine (H2.out _ (keepB hB4 hW) _ hD).mono ?_
                rintro e wm ⟨g2, rfl, hE, hg2a, hg2b, hb⟩
                have hg4 : w4.heap.size ≤ g2 := Nat.le_trans hW.size hg2a
                obtain ⟨lo, hi, hE, hlo, hhi, hge⟩ := ocs_bounds hE
                have hsep : gF < lo ∨ hi ≤ gF := .inl (by rw [hlo]; exact lt_of_block hF)
                replace hlo : w4.heap.size ≤ lo := by rw [hlo]; exact hW.size
                replace hX := keepH hb hX
                replace hW := keepB hW hb
                replace hF := keepH hb hF
                have hH := hS'.out _ hX
                clear hb hD hge hg2a hg2b
                go_wp2_with fail
                refine hK.out _ _ ?_ (fun hHeld => ?_)
                · with_reducible exact hH
                clear hK K hH
                try simp only [List.getElem_toArray, List.getElem_cons_succ, List.getElem_cons_zero]
                try simp only [Act.put, List.setIfInBounds_toArray, List.set_cons_zero, List.set_cons_succ]
                refine wpAnyH_take (i := 7) (v := ?_) rfl (by kernel_rfl) (by kernel_rfl) (by kernel_rfl) (fun _ _ _ h => h) (Or.inl ⟨by rfl, ?_⟩) (by assumption) ?_
                rotate_left
                · intro X hX
                  go_simp
                  try with_reducible rfl
                try simp only [List.getElem_toArray, List.getElem_cons_succ, List.getElem_cons_zero]
                try simp only [Act.put, List.setIfInBounds_toArray, List.set_cons_zero, List.set_cons_succ]
                refine wpAnyH_take (i := 8) (v := ?_) rfl (by kernel_rfl) (by kernel_rfl) (by kernel_rfl) (fun _ _ _ h => h) (Or.inl ⟨by rfl, ?_⟩) (by assumption) ?_
                rotate_left
                · intro X hX
                  go_simp
                  try with_reducible rfl
                try simp only [List.getElem_toArray, List.getElem_cons_succ, List.getElem_cons_zero]
                try simp only [Act.put, List.setIfInBounds_toArray, List.set_cons_zero, List.set_cons_succ]
                refine wpAnyH_take (i := 9) (v := ?_) rfl (by kernel_rfl) (by kernel_rfl) (by kernel_rfl) (fun _ _ _ h => h) (Or.inl ⟨by rfl, ?_⟩) (by assumption) ?_
                rotate_left
                · intro X hX
                  go_simp
                  try with_reducible rfl
                try simp only [List.getElem_toArray, List.getElem_cons_succ, List.getElem_cons_zero]
                try simp only [Act.put, List.setIfInBounds_toArray, List.set_cons_zero, List.set_cons_succ]
                refine wpAnyH_ready (rs := [11]) (by kernel_rfl) (by simp) (AllReadyH.cons rfl (fun K hK => ?_) AllReadyH.nil)
                · obtain ⟨wm, HST, hG, hbl, hzz, hoth⟩ := st_store (n := w4.heap.size) T2.tag T2.cl T2.sum T2.ver hF rfl hgF
                  refine step_store_known rfl 25 _ _ rfl ⟨gF, 0, none⟩ (.agg #[.int .i64 T2.tag, .bool T2.cl, .int .i64 T2.sum, .int .i64 T2.ver]) (by simp [Act.eval]) (by simp [Act.eval]) HST ?_
                  replace hX := (hoth _ (by omega)).trans hX
                  replace hW := hW.trans hbl
                  replace hE := hE.keep (fun q h1 h2 => hoth q (by rcases hsep with h | h <;> omega)) (Nat.le_refl _) (Nat.le_refl _)
                  replace hhi : hi ≤ wm.heap.size := by omega
                  have hH := hS'.out _ hX
                  clear HST hbl hzz hoth hF hsep
                  refine hK.out _ _ ?_ (fun hHeld => ?_)
                  · with_reducible exact hH
                  clear hK K hH
                  try simp only [List.getElem_toArray, List.getElem_cons_succ, List.getElem_cons_zero]
                  try simp only [Act.put]
                  refine wpAnyH_take (i := 12) (v := ?_) rfl (by kernel_rfl) (by kernel_rfl) (by kernel_rfl) (fun _ _ _ h => h) (Or.inl ⟨by rfl, ?_⟩) (by assumption) ?_
                  rotate_left
                  · intro X hX
                    go_simp
                    try with_reducible rfl
                  try simp only [List.getElem_toArray, List.getElem_cons_succ, List.getElem_cons_zero]
                  try simp only [Act.put, List.setIfInBounds_toArray, List.set_cons_zero, List.set_cons_succ]
                  refine wpAnyH_done (by kernel_rfl) ?_ _
                  go_wp2_with fail
                  go_meet
                  case rel => exact ⟨gF, g2, rfl, rfl, Lib.hid hG, Lib.hid (hE.keep (fun _ _ _ => rfl) hlo hhi), Lib.hid hW, hgF, hg4⟩
        · refine step_alloc_new rfl 25 rfl _ alloc_st ?_
          intro gF wn hF hgF hb
          replace hgF : w4.heap.size ≤ gF := Nat.le_trans hW.size hgF
          replace hX := keepH hb hX
          replace hW := keepB hW hb
          replace hB := keepR hb hB
          have hH := hS'.out _ hX
          clear hb
          refine hK.out _ _ ?_ (fun hHeld => ?_)
          · with_reducible exact hH
          clear hK K hH
          try simp only [List.getElem_toArray, List.getElem_cons_succ, List.getElem_cons_zero]
          try simp only [Act.put, List.setIfInBounds_toArray, List.set_cons_zero, List.set_cons_succ]
          refine wpAnyH_ready (rs := [4]) (by kernel_rfl) (by simp) (AllReadyH.cons rfl (fun K hK => ?_) AllReadyH.nil)
          · refine step_build_new rfl 22 1 _ #[(0, .agg #[.int .i64 z0, .int .i64 z1, .int .i64 z2, .int .i64 z3, .int .i64 z4, .int .i64 z5])] rfl (by simp [Act.eval]) #[.int .i64 z0, .int .i64 z1, .int .i64 z2, .int .i64 z3, .int .i64 z4, .int .i64 z5] 45 (build1_run ⟨z0, z1, z2, z3, z4, z5⟩) ?_
            intro gC wn hC hgC hb
            clear hgC
            replace hX := keepH hb hX
            replace hW := keepB hW hb
            replace hB := keepR hb hB
            replace hF := keepH hb hF
            have hH := hS'.out _ hX
            clear hb
            refine hK.out _ _ ?_ (fun hHeld => ?_)
            · with_reducible exact hH
            clear hK K hH
            try simp only [List.getElem_toArray, List.getElem_cons_succ, List.getElem_cons_zero]
            try simp only [Act.put, List.setIfInBounds_toArray, List.set_cons_zero, List.set_cons_succ]
            refine wpAnyH_ready (rs := [5]) (by kernel_rfl) (by simp) (AllReadyH.cons rfl (fun K hK => ?_) AllReadyH.nil)
            · obtain ⟨A2, ca2, wm, hr, hD', hg, -⟩ := run_append_es hB (es_heap (es := [⟨z0, z1, z2, z3, z4, z5⟩]) hC (by simp [ecs, En.l, Od.l]) (by simp)) hW.size (by simp; omega)
              simp only [List.length_cons, List.length_nil] at hr hD'
              refine step_append_known rfl _ _ 22 22 rfl (.slice A1 es.length ca1) (.slice (some ⟨gC, 0, none⟩) 1 1) (by simp [Act.eval]) (by simp [Act.eval]) hr ?_
              replace hX := keepG hg hX (fun e => by have := (World.ownsRow.lt hB _ e).1; omega)
              replace hF := keepG hg hF (own_ne_state hB hF)
              replace hW := hW.trans (below_grow (B := w4.heap.size) hg (fun q h1 e => by have := (World.ownsRow.lt hB _ e).1; omega) hW.size)
              have hD := own_es (es := es ++ [⟨z0, z1, z2, z3, z4, z5⟩]) (by rw [ecs_append]; simpa using hD') (by simp; omega)
              have hH := hS'.out _ hX
              clear hr hg hB hC hD'
              refine hK.out _ _ ?_ (fun hHeld => ?_)
              · with_reducible exact hH
              clear hK K hH
              try simp only [List.getElem_toArray, List.getElem_cons_succ, List.getElem_cons_zero]
              try simp only [Act.put, List.setIfInBounds_toArray, List.set_cons_zero, List.set_cons_succ]
              refine wpAnyH_ready (rs := [6]) (by kernel_rfl) (by simp) (AllReadyH.cons rfl (fun K hK => ?_) AllReadyH.nil)
              · go_simp
                refine (H2.out _ (keepB hB4 hW) _ hD).mono ?_
                rintro e wm ⟨g2, rfl, hE, hg2a, hg2b, hb⟩
                have hg4 : w4.heap.size ≤ g2 := Nat.le_trans hW.size hg2a
                obtain ⟨lo, hi, hE, hlo, hhi, hge⟩ := ocs_bounds hE
                have hsep : gF < lo ∨ hi ≤ gF := .inl (by rw [hlo]; exact lt_of_block hF)
                replace hlo : w4.heap.size ≤ lo := by rw [hlo]; exact hW.size
                replace hX := keepH hb hX
                replace hW := keepB hW hb
                replace hF := keepH hb hF
                have hH := hS'.out _ hX
                clear hb hD hge hg2a hg2b
                go_wp2_with fail
                refine hK.out _ _ ?_ (fun hHeld => ?_)
                · with_reducible exact hH
                clear hK K hH
                try simp only [List.getElem_toArray, List.getElem_cons_succ, List.getElem_cons_zero]
                try simp only [Act.put, List.setIfInBounds_toArray, List.set_cons_zero, List.set_cons_succ]
                refine wpAnyH_take (i := 7) (v := ?_) rfl (by kernel_rfl) (by kernel_rfl) (by kernel_rfl) (fun _ _ _ h => h) (Or.inl ⟨by rfl, ?_⟩) (by assumption) ?_
                rotate_left
                · intro X hX
                  go_simp
                  try with_reducible rfl
                try simp only [List.getElem_toArray, List.getElem_cons_succ, List.getElem_cons_zero]
                try simp only [Act.put, List.setIfInBounds_toArray, List.set_cons_zero, List.set_cons_succ]
                refine wpAnyH_take (i := 8) (v := ?_) rfl (by kernel_rfl) (by kernel_rfl) (by kernel_rfl) (fun _ _ _ h => h) (Or.inl ⟨by rfl, ?_⟩) (by assumption) ?_
                rotate_left
                · intro X hX
                  go_simp
                  try with_reducible rfl
                try simp only [List.getElem_toArray, List.getElem_cons_succ, List.getElem_cons_zero]
                try simp only [Act.put, List.setIfInBounds_toArray, List.set_cons_zero, List.set_cons_succ]
                refine wpAnyH_take (i := 9) (v := ?_) rfl (by kernel_rfl) (by kernel_rfl) (by kernel_rfl) (fun _ _ _ h => h) (Or.inl ⟨by rfl, ?_⟩) (by assumption) ?_
                rotate_left
                · intro X hX
                  go_simp
                  try with_reducible rfl
                try simp only [List.getElem_toArray, List.getElem_cons_succ, List.getElem_cons_zero]
                try simp only [Act.put, List.setIfInBounds_toArray, List.set_cons_zero, List.set_cons_succ]
                refine wpAnyH_ready (rs := [11]) (by kernel_rfl) (by simp) (AllReadyH.cons rfl (fun K hK => ?_) AllReadyH.nil)
                · obtain ⟨wm, HST, hG, hbl, hzz, hoth⟩ := st_store (n := w4.heap.size) T2.tag T2.cl T2.sum T2.ver hF rfl hgF
                  refine step_store_known rfl 25 _ _ rfl ⟨gF, 0, none⟩ (.agg #[.int .i64 T2.tag, .bool T2.cl, .int .i64 T2.sum, .int .i64 T2.ver]) (by simp [Act.eval]) (by simp [Act.eval]) HST ?_
                  replace hX := (hoth _ (by omega)).trans hX
                  replace hW := hW.trans hbl
                  replace hE := hE.keep (fun q h1 h2 => hoth q (by rcases hsep with h | h <;> omega)) (Nat.le_refl _) (Nat.le_refl _)
                  replace hhi : hi ≤ wm.heap.size := by omega
                  have hH := hS'.out _ hX
                  clear HST hbl hzz hoth hF hsep
                  refine hK.out _ _ ?_ (fun hHeld => ?_)
                  · with_reducible exact hH
                  clear hK K hH
                  try simp only [List.getElem_toArray, List.getElem_cons_succ, List.getElem_cons_zero]
                  try simp only [Act.put]
                  refine wpAnyH_take (i := 12) (v := ?_) rfl (by kernel_rfl) (by kernel_rfl) (by kernel_rfl) (fun _ _ _ h => h) (Or.inl ⟨by rfl, ?_⟩) (by assumption) ?_
                  rotate_left
                  · intro X hX
                    go_simp
                    try with_reducible rfl
                  try simp only [List.getElem_toArray, List.getElem_cons_succ, List.getElem_cons_zero]
                  try simp only [Act.put, List.setIfInBounds_toArray, List.set_cons_zero, List.set_cons_succ]
                  refine wpAnyH_done (by kernel_rfl) ?_ _
                  go_wp2_with fail
                  go_meet
                  case rel => exact ⟨gF, g2, rfl, rfl, Lib.hid hG, Lib.hid (hE.keep (fun _ _ _ => rfl) hlo hhi), Lib.hid hW, hgF, hg4⟩
      · refine step_build_new rfl 22 1 _ #[(0, .agg #[.int .i64 z0, .int .i64 z1, .int .i64 z2, .int .i64 z3, .int .i64 z4, .int .i64 z5])] rfl (by simp [Act.eval]) #[.int .i64 z0, .int .i64 z1, .int .i64 z2, .int .i64 z3, .int .i64 z4, .int .i64 z5] 45 (build1_run ⟨z0, z1, z2, z3, z4, z5⟩) ?_
        intro gC wn hC hgC hb
        clear hgC
        replace hX := keepH hb hX
        replace hW := keepB hW hb
        replace hA := keepH hb hA
        have hH := hS'.out _ hX
        clear hb
        refine hK.out _ _ ?_ (fun hHeld => ?_)
        · with_reducible exact hH
        clear hK K hH
        try simp only [List.getElem_toArray, List.getElem_cons_succ, List.getElem_cons_zero]
        try simp only [Act.put, List.setIfInBounds_toArray, List.set_cons_zero, List.set_cons_succ]
        refine wpAnyH_ready (rs := [2,10]) (by kernel_rfl) (by simp) (AllReadyH.cons rfl (fun K hK => ?_) (AllReadyH.cons rfl (fun K hK => ?_) AllReadyH.nil))
        · obtain ⟨A1, ca1, wm, hr, hB, hg⟩ := put_log (base := w4.heap.size) hA hgA (HL.out _ (keepB hB4 hW)) (by omega)
          refine step_append_known rfl _ _ 22 22 rfl (.slice (some ⟨gA, 0, none⟩) 0 0) (.slice A es.length c) (by simp [Act.eval]) (by simp [Act.eval]) hr ?_
          replace hX := keepG hg hX (fun e => by injection e; omega)
          replace hC := keepG hg hC (fun e => ne_heap hA hC (by simp) (Option.some.inj e))
          replace hW := hW.trans (below_grow (B := w4.heap.size) hg (fun q h1 e => by injection e; omega) hW.size)
          have hH := hS'.out _ hX
          clear hr hg hA hgA
          refine hK.out _ _ ?_ (fun hHeld => ?_)
          · with_reducible exact hH
          clear hK K hH
          try simp only [List.getElem_toArray, List.getElem_cons_succ, List.getElem_cons_zero]
          try simp only [Act.put, List.setIfInBounds_toArray, List.set_cons_zero, List.set_cons_succ]
          refine wpAnyH_ready (rs := [5,10]) (by kernel_rfl) (by simp) (AllReadyH.cons rfl (fun K hK => ?_) (AllReadyH.cons rfl (fun K hK => ?_) AllReadyH.nil))
          · obtain ⟨A2, ca2, wm, hr, hD', hg, -⟩ := run_append_es hB (es_heap (es := [⟨z0, z1, z2, z3, z4, z5⟩]) hC (by simp [ecs, En.l, Od.l]) (by simp)) hW.size (by simp; omega)
            simp only [List.length_cons, List.length_nil] at hr hD'
            refine step_append_known rfl _ _ 22 22 rfl (.slice A1 es.length ca1) (.slice (some ⟨gC, 0, none⟩) 1 1) (by simp [Act.eval]) (by simp [Act.eval]) hr ?_
            replace hX := keepG hg hX (fun e => by have := (World.ownsRow.lt hB _ e).1; omega)
            replace hW := hW.trans (below_grow (B := w4.heap.size) hg (fun q h1 e => by have := (World.ownsRow.lt hB _ e).1; omega) hW.size)
            have hD := own_es (es := es ++ [⟨z0, z1, z2, z3, z4, z5⟩]) (by rw [ecs_append]; simpa using hD') (by simp; omega)
            have hH := hS'.out _ hX
            clear hr hg hB hC hD'
            refine hK.out _ _ ?_ (fun hHeld => ?_)
            · with_reducible exact hH
            clear hK K hH
            try simp only [List.getElem_toArray, List.getElem_cons_succ, List.getElem_cons_zero]
            try simp only [Act.put, List.setIfInBounds_toArray, List.set_cons_zero, List.set_cons_succ]
            refine wpAnyH_ready (rs := [6,10]) (by kernel_rfl) (by simp) (AllReadyH.cons rfl (fun K hK => ?_) (AllReadyH.cons rfl (fun K hK => ?_) AllReadyH.nil))
            · go_simp
              refine (H2.out _ (keepB hB4 hW) _ hD).mono ?_
              rintro e wm ⟨g2, rfl, hE, hg2a, hg2b, hb⟩
              have hg4 : w4.heap.size ≤ g2 := Nat.le_trans hW.size hg2a
              obtain ⟨lo, hi, hE, hlo, hhi, hge⟩ := ocs_bounds hE
              replace hlo : w4.heap.size ≤ lo := by rw [hlo]; exact hW.size
              replace hX := keepH hb hX
              replace hW := keepB hW hb
              have hH := hS'.out _ hX
              clear hb hD hge hg2a hg2b
              go_wp2_with fail
              refine hK.out _ _ ?_ (fun hHeld => ?_)
              · with_reducible exact hH
              clear hK K hH
              try simp only [List.getElem_toArray, List.getElem_cons_succ, List.getElem_cons_zero]
              try simp only [Act.put, List.setIfInBounds_toArray, List.set_cons_zero, List.set_cons_succ]
              refine wpAnyH_take (i := 7) (v := ?_) rfl (by kernel_rfl) (by kernel_rfl) (by kernel_rfl) (fun _ _ _ h => h) (Or.inl ⟨by rfl, ?_⟩) (by assumption) ?_
              rotate_left
              · intro X hX
                go_simp
                try with_reducible rfl
              try simp only [List.getElem_toArray, List.getElem_cons_succ, List.getElem_cons_zero]
              try simp only [Act.put, List.setIfInBounds_toArray, List.set_cons_zero, List.set_cons_succ]
              refine wpAnyH_take (i := 8) (v := ?_) rfl (by kernel_rfl) (by kernel_rfl) (by kernel_rfl) (fun _ _ _ h => h) (Or.inl ⟨by rfl, ?_⟩) (by assumption) ?_
              rotate_left
              · intro X hX
                go_simp
                try with_reducible rfl
              try simp only [List.getElem_toArray, List.getElem_cons_succ, List.getElem_cons_zero]
              try simp only [Act.put, List.setIfInBounds_toArray, List.set_cons_zero, List.set_cons_succ]
              refine wpAnyH_take (i := 9) (v := ?_) rfl (by kernel_rfl) (by kernel_rfl) (by kernel_rfl) (fun _ _ _ h => h) (Or.inl ⟨by rfl, ?_⟩) (by assumption) ?_
              rotate_left
              · intro X hX
                go_simp
                try with_reducible rfl
              try simp only [List.getElem_toArray, List.getElem_cons_succ, List.getElem_cons_zero]
              try simp only [Act.put, List.setIfInBounds_toArray, List.set_cons_zero, List.set_cons_succ]
              refine wpAnyH_ready (rs := [10]) (by kernel_rfl) (by simp) (AllReadyH.cons rfl (fun K hK => ?_) AllReadyH.nil)
              · refine step_alloc_new rfl 25 rfl _ alloc_st ?_
                intro gF wn hF hgF hb
                have hsep : gF < lo ∨ hi ≤ gF := .inr (Nat.le_trans hhi hgF)
                replace hgF : w4.heap.size ≤ gF := Nat.le_trans hW.size hgF
                replace hX := keepH hb hX
                replace hW := keepB hW hb
                replace hE := hE.below hb hhi
                replace hhi := Nat.le_trans hhi hb.size
                have hH := hS'.out _ hX
                clear hb
                refine hK.out _ _ ?_ (fun hHeld => ?_)
                · with_reducible exact hH
                clear hK K hH
                try simp only [List.getElem_toArray, List.getElem_cons_succ, List.getElem_cons_zero]
                try simp only [Act.put, List.setIfInBounds_toArray, List.set_cons_zero, List.set_cons_succ]
                refine wpAnyH_ready (rs := [11]) (by kernel_rfl) (by simp) (AllReadyH.cons rfl (fun K hK => ?_) AllReadyH.nil)
                · obtain ⟨wm, HST, hG, hbl, hzz, hoth⟩ := st_store (n := w4.heap.size) T2.tag T2.cl T2.sum T2.ver hF rfl hgF
                  refine step_store_known rfl 25 _ _ rfl ⟨gF, 0, none⟩ (.agg #[.int .i64 T2.tag, .bool T2.cl, .int .i64 T2.sum, .int .i64 T2.ver]) (by simp [Act.eval]) (by simp [Act.eval]) HST ?_
                  replace hX := (hoth _ (by omega)).trans hX
                  replace hW := hW.trans hbl
                  replace hE := hE.keep (fun q h1 h2 => hoth q (by rcases hsep with h | h <;> omega)) (Nat.le_refl _) (Nat.le_refl _)
                  replace hhi : hi ≤ wm.heap.size := by omega
                  have hH := hS'.out _ hX
                  clear HST hbl hzz hoth hF hsep
                  refine hK.out _ _ ?_ (fun hHeld => ?_)
                  · with_reducible exact hH
                  clear hK K hH
                  try simp only [List.getElem_toArray, List.getElem_cons_succ, List.getElem_cons_zero]
                  try simp only [Act.put]
                  refine wpAnyH_take (i := 12) (v := ?_) rfl (by kernel_rfl) (by kernel_rfl) (by kernel_rfl) (fun _ _ _ h => h) (Or.inl ⟨by rfl, ?_⟩) (by assumption) ?_
                  rotate_left
                  · intro X hX
                    go_simp
                    try with_reducible rfl
                  try simp only [List.getElem_toArray, List.getElem_cons_succ, List.getElem_cons_zero]
                  try simp only [Act.put, List.setIfInBounds_toArray, List.set_cons_zero, List.set_cons_succ]
                  refine wpAnyH_done (by kernel_rfl) ?_ _
                  go_wp2_with fail
                  go_meet
                  case rel => exact ⟨gF, g2, rfl, rfl, Lib.hid hG, Lib.hid (hE.keep (fun _ _ _ => rfl) hlo hhi), Lib.hid hW, hgF, hg4⟩
            · refine step_alloc_new rfl 25 rfl _ alloc_st ?_
              intro gF wn hF hgF hb
              replace hgF : w4.heap.size ≤ gF := Nat.le_trans hW.size hgF
              replace hX := keepH hb hX
              replace hW := keepB hW hb
              replace hD := keepE hb hD
              have hH := hS'.out _ hX
              clear hb
              refine hK.out _ _ ?_ (fun hHeld => ?_)
              · with_reducible exact hH
              clear hK K hH
              try simp only [List.getElem_toArray, List.getElem_cons_succ, List.getElem_cons_zero]
              try simp only [Act.put, List.setIfInBounds_toArray, List.set_cons_zero, List.set_cons_succ]
              refine wpAnyH_ready (rs := [6]) (by kernel_rfl) (by simp) (AllReadyH.cons rfl (fun K hK => ?_) AllReadyH.nil)
              · go_simp
                refine (H2.out _ (keepB hB4 hW) _ hD).mono ?_
                rintro e wm ⟨g2, rfl, hE, hg2a, hg2b, hb⟩
                have hg4 : w4.heap.size ≤ g2 := Nat.le_trans hW.size hg2a
                obtain ⟨lo, hi, hE, hlo, hhi, hge⟩ := ocs_bounds hE
                have hsep : gF < lo ∨ hi ≤ gF := .inl (by rw [hlo]; exact lt_of_block hF)
                replace hlo : w4.heap.size ≤ lo := by rw [hlo]; exact hW.size
                replace hX := keepH hb hX
                replace hW := keepB hW hb
                replace hF := keepH hb hF
                have hH := hS'.out _ hX
                clear hb hD hge hg2a hg2b
                go_wp2_with fail
                refine hK.out _ _ ?_ (fun hHeld => ?_)
                · with_reducible exact hH
                clear hK K hH
                try simp only [List.getElem_toArray, List.getElem_cons_succ, List.getElem_cons_zero]
                try simp only [Act.put, List.setIfInBounds_toArray, List.set_cons_zero, List.set_cons_succ]
                refine wpAnyH_take (i := 7) (v := ?_) rfl (by kernel_rfl) (by kernel_rfl) (by kernel_rfl) (fun _ _ _ h => h) (Or.inl ⟨by rfl, ?_⟩) (by assumption) ?_
                rotate_left
                · intro X hX
                  go_simp
                  try with_reducible rfl
                try simp only [List.getElem_toArray, List.getElem_cons_succ, List.getElem_cons_zero]
                try simp only [Act.put, List.setIfInBounds_toArray, List.set_cons_zero, List.set_cons_succ]
                refine wpAnyH_take (i := 8) (v := ?_) rfl (by kernel_rfl) (by kernel_rfl) (by kernel_rfl) (fun _ _ _ h => h) (Or.inl ⟨by rfl, ?_⟩) (by assumption) ?_
                rotate_left
                · intro X hX
                  go_simp
                  try with_reducible rfl
                try simp only [List.getElem_toArray, List.getElem_cons_succ, List.getElem_cons_zero]
                try simp only [Act.put, List.setIfInBounds_toArray, List.set_cons_zero, List.set_cons_succ]
                refine wpAnyH_take (i := 9) (v := ?_) rfl (by kernel_rfl) (by kernel_rfl) (by kernel_rfl) (fun _ _ _ h => h) (Or.inl ⟨by rfl, ?_⟩) (by assumption) ?_
                rotate_left
                · intro X hX
                  go_simp
                  try with_reducible rfl
                try simp only [List.getElem_toArray, List.getElem_cons_succ, List.getElem_cons_zero]
                try simp only [Act.put, List.setIfInBounds_toArray, List.set_cons_zero, List.set_cons_succ]
                refine wpAnyH_ready (rs := [11]) (by kernel_rfl) (by simp) (AllReadyH.cons rfl (fun K hK => ?_) AllReadyH.nil)
                · obtain ⟨wm, HST, hG, hbl, hzz, hoth⟩ := st_store (n := w4.heap.size) T2.tag T2.cl T2.sum T2.ver hF rfl hgF
                  refine step_store_known rfl 25 _ _ rfl ⟨gF, 0, none⟩ (.agg #[.int .i64 T2.tag, .bool T2.cl, .int .i64 T2.sum, .int .i64 T2.ver]) (by simp [Act.eval]) (by simp [Act.eval]) HST ?_
                  replace hX := (hoth _ (by omega)).trans hX
                  replace hW := hW.trans hbl
                  replace hE := hE.keep (fun q h1 h2 => hoth q (by rcases hsep with h | h <;> omega)) (Nat.le_refl _) (Nat.le_refl _)
                  replace hhi : hi ≤ wm.heap.size := by omega
                  have hH := hS'.out _ hX
                  clear HST hbl hzz hoth hF hsep
                  refine hK.out _ _ ?_ (fun hHeld => ?_)
                  · with_reducible exact hH
                  clear hK K hH
                  try simp only [List.getElem_toArray, List.getElem_cons_succ, List.getElem_cons_zero]
                  try simp only [Act.put]
                  refine wpAnyH_take (i := 12) (v := ?_) rfl (by kernel_rfl) (by kernel_rfl) (by kernel_rfl) (fun _ _ _ h => h) (Or.inl ⟨by rfl, ?_⟩) (by assumption) ?_
                  rotate_left
                  · intro X hX
                    go_simp
                    try with_reducible rfl
                  try simp only [List.getElem_toArray, List.getElem_cons_succ, List.getElem_cons_zero]
                  try simp only [Act.put, List.setIfInBounds_toArray, List.set_cons_zero, List.set_cons_succ]
                  refine wpAnyH_done (by kernel_rfl) ?_ _
                  go_wp2_with fail
                  go_meet
                  case rel => exact ⟨gF, g2, rfl, rfl, Lib.hid hG, Lib.hid (hE.keep (fun _ _ _ => rfl) hlo hhi), Lib.hid hW, hgF, hg4⟩
          · refine step_alloc_new rfl 25 rfl _ alloc_st ?_
            intro gF wn hF hgF hb
            replace hgF : w4.heap.size ≤ gF := Nat.le_trans hW.size hgF
            replace hX := keepH hb hX
            replace hW := keepB hW hb
            replace hB := keepR hb hB
            replace hC := keepH hb hC
            have hH := hS'.out _ hX
            clear hb
            refine hK.out _ _ ?_ (fun hHeld => ?_)
            · with_reducible exact hH
            clear hK K hH
            try simp only [List.getElem_toArray, List.getElem_cons_succ, List.getElem_cons_zero]
            try simp only [Act.put, List.setIfInBounds_toArray, List.set_cons_zero, List.set_cons_succ]
            refine wpAnyH_ready (rs := [5]) (by kernel_rfl) (by simp) (AllReadyH.cons rfl (fun K hK => ?_) AllReadyH.nil)
            · obtain ⟨A2, ca2, wm, hr, hD', hg, -⟩ := run_append_es hB (es_heap (es := [⟨z0, z1, z2, z3, z4, z5⟩]) hC (by simp [ecs, En.l, Od.l]) (by simp)) hW.size (by simp; omega)
              simp only [List.length_cons, List.length_nil] at hr hD'
              refine step_append_known rfl _ _ 22 22 rfl (.slice A1 es.length ca1) (.slice (some ⟨gC, 0, none⟩) 1 1) (by simp [Act.eval]) (by simp [Act.eval]) hr ?_
              replace hX := keepG hg hX (fun e => by have := (World.ownsRow.lt hB _ e).1; omega)
              replace hF := keepG hg hF (own_ne_state hB hF)
              replace hW := hW.trans (below_grow (B := w4.heap.size) hg (fun q h1 e => by have := (World.ownsRow.lt hB _ e).1; omega) hW.size)
              have hD := own_es (es := es ++ [⟨z0, z1, z2, z3, z4, z5⟩]) (by rw [ecs_append]; simpa using hD') (by simp; omega)
              have hH := hS'.out _ hX
              clear hr hg hB hC hD'
              refine hK.out _ _ ?_ (fun hHeld => ?_)
              · with_reducible exact hH
              clear hK K hH
              try simp only [List.getElem_toArray, List.getElem_cons_succ, List.getElem_cons_zero]
              try simp only [Act.put, List.setIfInBounds_toArray, List.set_cons_zero, List.set_cons_succ]
              refine wpAnyH_ready (rs := [6]) (by kernel_rfl) (by simp) (AllReadyH.cons rfl (fun K hK => ?_) AllReadyH.nil)
              · go_simp
                refine (H2.out _ (keepB hB4 hW) _ hD).mono ?_
                rintro e wm ⟨g2, rfl, hE, hg2a, hg2b, hb⟩
                have hg4 : w4.heap.size ≤ g2 := Nat.le_trans hW.size hg2a
                obtain ⟨lo, hi, hE, hlo, hhi, hge⟩ := ocs_bounds hE
                have hsep : gF < lo ∨ hi ≤ gF := .inl (by rw [hlo]; exact lt_of_block hF)
                replace hlo : w4.heap.size ≤ lo := by rw [hlo]; exact hW.size
                replace hX := keepH hb hX
                replace hW := keepB hW hb
                replace hF := keepH hb hF
                have hH := hS'.out _ hX
                clear hb hD hge hg2a hg2b
                go_wp2_with fail
                refine hK.out _ _ ?_ (fun hHeld => ?_)
                · with_reducible exact hH
                clear hK K hH
                try simp only [List.getElem_toArray, List.getElem_cons_succ, List.getElem_cons_zero]
                try simp only [Act.put, List.setIfInBounds_toArray, List.set_cons_zero, List.set_cons_succ]
                refine wpAnyH_take (i := 7) (v := ?_) rfl (by kernel_rfl) (by kernel_rfl) (by kernel_rfl) (fun _ _ _ h => h) (Or.inl ⟨by rfl, ?_⟩) (by assumption) ?_
                rotate_left
                · intro X hX
                  go_simp
                  try with_reducible rfl
                try simp only [List.getElem_toArray, List.getElem_cons_succ, List.getElem_cons_zero]
                try simp only [Act.put, List.setIfInBounds_toArray, List.set_cons_zero, List.set_cons_succ]
                refine wpAnyH_take (i := 8) (v := ?_) rfl (by kernel_rfl) (by kernel_rfl) (by kernel_rfl) (fun _ _ _ h => h) (Or.inl ⟨by rfl, ?_⟩) (by assumption) ?_
                rotate_left
                · intro X hX
                  go_simp
                  try with_reducible rfl
                try simp only [List.getElem_toArray, List.getElem_cons_succ, List.getElem_cons_zero]
                try simp only [Act.put, List.setIfInBounds_toArray, List.set_cons_zero, List.set_cons_succ]
                refine wpAnyH_take (i := 9) (v := ?_) rfl (by kernel_rfl) (by kernel_rfl) (by kernel_rfl) (fun _ _ _ h => h) (Or.inl ⟨by rfl, ?_⟩) (by assumption) ?_
                rotate_left
                · intro X hX
                  go_simp
                  try with_reducible rfl
                try simp only [List.getElem_toArray, List.getElem_cons_succ, List.getElem_cons_zero]
                try simp only [Act.put, List.setIfInBounds_toArray, List.set_cons_zero, List.set_cons_succ]
                refine wpAnyH_ready (rs := [11]) (by kernel_rfl) (by simp) (AllReadyH.cons rfl (fun K hK => ?_) AllReadyH.nil)
                · obtain ⟨wm, HST, hG, hbl, hzz, hoth⟩ := st_store (n := w4.heap.size) T2.tag T2.cl T2.sum T2.ver hF rfl hgF
                  refine step_store_known rfl 25 _ _ rfl ⟨gF, 0, none⟩ (.agg #[.int .i64 T2.tag, .bool T2.cl, .int .i64 T2.sum, .int .i64 T2.ver]) (by simp [Act.eval]) (by simp [Act.eval]) HST ?_
                  replace hX := (hoth _ (by omega)).trans hX
                  replace hW := hW.trans hbl
                  replace hE := hE.keep (fun q h1 h2 => hoth q (by rcases hsep with h | h <;> omega)) (Nat.le_refl _) (Nat.le_refl _)
                  replace hhi : hi ≤ wm.heap.size := by omega
                  have hH := hS'.out _ hX
                  clear HST hbl hzz hoth hF hsep
                  refine hK.out _ _ ?_ (fun hHeld => ?_)
                  · with_reducible exact hH
                  clear hK K hH
                  try simp only [List.getElem_toArray, List.getElem_cons_succ, List.getElem_cons_zero]
                  try simp only [Act.put]
                  refine wpAnyH_take (i := 12) (v := ?_) rfl (by kernel_rfl) (by kernel_rfl) (by kernel_rfl) (fun _ _ _ h => h) (Or.inl ⟨by rfl, ?_⟩) (by assumption) ?_
                  rotate_left
                  · intro X hX
                    go_simp
                    try with_reducible rfl
                  try simp only [List.getElem_toArray, List.getElem_cons_succ, List.getElem_cons_zero]
                  try simp only [Act.put, List.setIfInBounds_toArray, List.set_cons_zero, List.set_cons_succ]
                  refine wpAnyH_done (by kernel_rfl) ?_ _
                  go_wp2_with fail
                  go_meet
                  case rel => exact ⟨gF, g2, rfl, rfl, Lib.hid hG, Lib.hid (hE.keep (fun _ _ _ => rfl) hlo hhi), Lib.hid hW, hgF, hg4⟩
        · refine step_alloc_new rfl 25 rfl _ alloc_st ?_
          intro gF wn hF hgF hb
          replace hgF : w4.heap.size ≤ gF := Nat.le_trans hW.size hgF
          replace hX := keepH hb hX
          replace hW := keepB hW hb
          replace hA := keepH hb hA
          replace hC := keepH hb hC
          have hH := hS'.out _ hX
          clear hb
          refine hK.out _ _ ?_ (fun hHeld => ?_)
          · with_reducible exact hH
          clear hK K hH
          try simp only [List.getElem_toArray, List.getElem_cons_succ, List.getElem_cons_zero]
          try simp only [Act.put, List.setIfInBounds_toArray, List.set_cons_zero, List.set_cons_succ]
          refine wpAnyH_ready (rs := [2]) (by kernel_rfl) (by simp) (AllReadyH.cons rfl (fun K hK => ?_) AllReadyH.nil)
          · obtain ⟨A1, ca1, wm, hr, hB, hg⟩ := put_log (base := w4.heap.size) hA hgA (HL.out _ (keepB hB4 hW)) (by omega)
            refine step_append_known rfl _ _ 22 22 rfl (.slice (some ⟨gA, 0, none⟩) 0 0) (.slice A es.length c) (by simp [Act.eval]) (by simp [Act.eval]) hr ?_
            replace hX := keepG hg hX (fun e => by injection e; omega)
            replace hC := keepG hg hC (fun e => ne_heap hA hC (by simp) (Option.some.inj e))
            replace hF := keepG hg hF (fun e => ne_heap hA hF (by simp) (Option.some.inj e))
            replace hW := hW.trans (below_grow (B := w4.heap.size) hg (fun q h1 e => by injection e; omega) hW.size)
            have hH := hS'.out _ hX
            clear hr hg hA hgA
            refine hK.out _ _ ?_ (fun hHeld => ?_)
            · with_reducible exact hH
            clear hK K hH
            try simp only [List.getElem_toArray, List.getElem_cons_succ, List.getElem_cons_zero]
            try simp only [Act.put, List.setIfInBounds_toArray, List.set_cons_zero, List.set_cons_succ]
            refine wpAnyH_ready (rs := [5]) (by kernel_rfl) (by simp) (AllReadyH.cons rfl (fun K hK => ?_) AllReadyH.nil)
            · obtain ⟨A2, ca2, wm, hr, hD', hg, -⟩ := run_append_es hB (es_heap (es := [⟨z0, z1, z2, z3, z4, z5⟩]) hC (by simp [ecs, En.l, Od.l]) (by simp)) hW.size (by simp; omega)
              simp only [List.length_cons, List.length_nil] at hr hD'
              refine step_append_known rfl _ _ 22 22 rfl (.slice A1 es.length ca1) (.slice (some ⟨gC, 0, none⟩) 1 1) (by simp [Act.eval]) (by simp [Act.eval]) hr ?_
              replace hX := keepG hg hX (fun e => by have := (World.ownsRow.lt hB _ e).1; omega)
              replace hF := keepG hg hF (own_ne_state hB hF)
              replace hW := hW.trans (below_grow (B := w4.heap.size) hg (fun q h1 e => by have := (World.ownsRow.lt hB _ e).1; omega) hW.size)
              have hD := own_es (es := es ++ [⟨z0, z1, z2, z3, z4, z5⟩]) (by rw [ecs_append]; simpa using hD') (by simp; omega)
              have hH := hS'.out _ hX
              clear hr hg hB hC hD'
              refine hK.out _ _ ?_ (fun hHeld => ?_)
              · with_reducible exact hH
              clear hK K hH
              try simp only [List.getElem_toArray, List.getElem_cons_succ, List.getElem_cons_zero]
              try simp only [Act.put, List.setIfInBounds_toArray, List.set_cons_zero, List.set_cons_succ]
              refine wpAnyH_ready (rs := [6]) (by kernel_rfl) (by simp) (AllReadyH.cons rfl (fun K hK => ?_) AllReadyH.nil)
              · go_simp
                refine (H2.out _ (keepB hB4 hW) _ hD).mono ?_
                rintro e wm ⟨g2, rfl, hE, hg2a, hg2b, hb⟩
                have hg4 : w4.heap.size ≤ g2 := Nat.le_trans hW.size hg2a
                obtain ⟨lo, hi, hE, hlo, hhi, hge⟩ := ocs_bounds hE
                have hsep : gF < lo ∨ hi ≤ gF := .inl (by rw [hlo]; exact lt_of_block hF)
                replace hlo : w4.heap.size ≤ lo := by rw [hlo]; exact hW.size
                replace hX := keepH hb hX
                replace hW := keepB hW hb
                replace hF := keepH hb hF
                have hH := hS'.out _ hX
                clear hb hD hge hg2a hg2b
                go_wp2_with fail
                refine hK.out _ _ ?_ (fun hHeld => ?_)
                · with_reducible exact hH
                clear hK K hH
                try simp only [List.getElem_toArray, List.getElem_cons_succ, List.getElem_cons_zero]
                try simp only [Act.put, List.setIfInBounds_toArray, List.set_cons_zero, List.set_cons_succ]
                refine wpAnyH_take (i := 7) (v := ?_) rfl (by kernel_rfl) (by kernel_rfl) (by kernel_rfl) (fun _ _ _ h => h) (Or.inl ⟨by rfl, ?_⟩) (by assumption) ?_
                rotate_left
                · intro X hX
                  go_simp
                  try with_reducible rfl
                try simp only [List.getElem_toArray, List.getElem_cons_succ, List.getElem_cons_zero]
                try simp only [Act.put, List.setIfInBounds_toArray, List.set_cons_zero, List.set_cons_succ]
                refine wpAnyH_take (i := 8) (v := ?_) rfl (by kernel_rfl) (by kernel_rfl) (by kernel_rfl) (fun _ _ _ h => h) (Or.inl ⟨by rfl, ?_⟩) (by assumption) ?_
                rotate_left
                · intro X hX
                  go_simp
                  try with_reducible rfl
                try simp only [List.getElem_toArray, List.getElem_cons_succ, List.getElem_cons_zero]
                try simp only [Act.put, List.setIfInBounds_toArray, List.set_cons_zero, List.set_cons_succ]
                refine wpAnyH_take (i := 9) (v := ?_) rfl (by kernel_rfl) (by kernel_rfl) (by kernel_rfl) (fun _ _ _ h => h) (Or.inl ⟨by rfl, ?_⟩) (by assumption) ?_
                rotate_left
                · intro X hX
                  go_simp
                  try with_reducible rfl
                try simp only [List.getElem_toArray, List.getElem_cons_succ, List.getElem_cons_zero]
                try simp only [Act.put, List.setIfInBounds_toArray, List.set_cons_zero, List.set_cons_succ]
                refine wpAnyH_ready (rs := [11]) (by kernel_rfl) (by simp) (AllReadyH.cons rfl (fun K hK => ?_) AllReadyH.nil)
                · obtain ⟨wm, HST, hG, hbl, hzz, hoth⟩ := st_store (n := w4.heap.size) T2.tag T2.cl T2.sum T2.ver hF rfl hgF
                  refine step_store_known rfl 25 _ _ rfl ⟨gF, 0, none⟩ (.agg #[.int .i64 T2.tag, .bool T2.cl, .int .i64 T2.sum, .int .i64 T2.ver]) (by simp [Act.eval]) (by simp [Act.eval]) HST ?_
                  replace hX := (hoth _ (by omega)).trans hX
                  replace hW := hW.trans hbl
                  replace hE := hE.keep (fun q h1 h2 => hoth q (by rcases hsep with h | h <;> omega)) (Nat.le_refl _) (Nat.le_refl _)
                  replace hhi : hi ≤ wm.heap.size := by omega
                  have hH := hS'.out _ hX
                  clear HST hbl hzz hoth hF hsep
                  refine hK.out _ _ ?_ (fun hHeld => ?_)
                  · with_reducible exact hH
                  clear hK K hH
                  try simp only [List.getElem_toArray, List.getElem_cons_succ, List.getElem_cons_zero]
                  try simp only [Act.put]
                  refine wpAnyH_take (i := 12) (v := ?_) rfl (by kernel_rfl) (by kernel_rfl) (by kernel_rfl) (fun _ _ _ h => h) (Or.inl ⟨by rfl, ?_⟩) (by assumption) ?_
                  rotate_left
                  · intro X hX
                    go_simp
                    try with_reducible rfl
                  try simp only [List.getElem_toArray, List.getElem_cons_succ, List.getElem_cons_zero]
                  try simp only [Act.put, List.setIfInBounds_toArray, List.set_cons_zero, List.set_cons_succ]
                  refine wpAnyH_done (by kernel_rfl) ?_ _
                  go_wp2_with fail
                  go_meet
                  case rel => exact ⟨gF, g2, rfl, rfl, Lib.hid hG, Lib.hid (hE.keep (fun _ _ _ => rfl) hlo hhi), Lib.hid hW, hgF, hg4⟩
      · refine step_alloc_new rfl 25 rfl _ alloc_st ?_
        intro gF wn hF hgF hb
        replace hgF : w4.heap.size ≤ gF := Nat.le_trans hW.size hgF
        replace hX := keepH hb hX
        replace hW := keepB hW hb
        replace hA := keepH hb hA
        have hH := hS'.out _ hX
        clear hb
        refine hK.out _ _ ?_ (fun hHeld => ?_)
        · with_reducible exact hH
        clear hK K hH
        try simp only [List.getElem_toArray, List.getElem_cons_succ, List.getElem_cons_zero]
        try simp only [Act.put, List.setIfInBounds_toArray, List.set_cons_zero, List.set_cons_succ]
        refine wpAnyH_ready (rs := [2,4]) (by kernel_rfl) (by simp) (AllReadyH.cons rfl (fun K hK => ?_) (AllReadyH.cons rfl (fun K hK => ?_) AllReadyH.nil))
        · obtain ⟨A1, ca1, wm, hr, hB, hg⟩ := put_log (base := w4.heap.size) hA hgA (HL.out _ (keepB hB4 hW)) (by omega)
          refine step_append_known rfl _ _ 22 22 rfl (.slice (some ⟨gA, 0, none⟩) 0 0) (.slice A es.length c) (by simp [Act.eval]) (by simp [Act.eval]) hr ?_
          replace hX := keepG hg hX (fun e => by injection e; omega)
          replace hF := keepG hg hF (fun e => ne_heap hA hF (by simp) (Option.some.inj e))
          replace hW := hW.trans (below_grow (B := w4.heap.size) hg (fun q h1 e => by injection e; omega) hW.size)
          have hH := hS'.out _ hX
          clear hr hg hA hgA
          refine hK.out _ _ ?_ (fun hHeld => ?_)
          · with_reducible exact hH
          clear hK K hH
          try simp only [List.getElem_toArray, List.getElem_cons_succ, List.getElem_cons_zero]
          try simp only [Act.put, List.setIfInBounds_toArray, List.set_cons_zero, List.set_cons_succ]
          refine wpAnyH_ready (rs := [4]) (by kernel_rfl) (by simp) (AllReadyH.cons rfl (fun K hK => ?_) AllReadyH.nil)
          · refine step_build_new rfl 22 1 _ #[(0, .agg #[.int .i64 z0, .int .i64 z1, .int .i64 z2, .int .i64 z3, .int .i64 z4, .int .i64 z5])] rfl (by simp [Act.eval]) #[.int .i64 z0, .int .i64 z1, .int .i64 z2, .int .i64 z3, .int .i64 z4, .int .i64 z5] 45 (build1_run ⟨z0, z1, z2, z3, z4, z5⟩) ?_
            intro gC wn hC hgC hb
            clear hgC
            replace hX := keepH hb hX
            replace hW := keepB hW hb
            replace hB := keepR hb hB
            replace hF := keepH hb hF
            have hH := hS'.out _ hX
            clear hb
            refine hK.out _ _ ?_ (fun hHeld => ?_)
            · with_reducible exact hH
            clear hK K hH
            try simp only [List.getElem_toArray, List.getElem_cons_succ, List.getElem_cons_zero]
            try simp only [Act.put, List.setIfInBounds_toArray, List.set_cons_zero, List.set_cons_succ]
            refine wpAnyH_ready (rs := [5]) (by kernel_rfl) (by simp) (AllReadyH.cons rfl (fun K hK => ?_) AllReadyH.nil)
            · obtain ⟨A2, ca2, wm, hr, hD', hg, -⟩ := run_append_es hB (es_heap (es := [⟨z0, z1, z2, z3, z4, z5⟩]) hC (by simp [ecs, En.l, Od.l]) (by simp)) hW.size (by simp; omega)
              simp only [List.length_cons, List.length_nil] at hr hD'
              refine step_append_known rfl _ _ 22 22 rfl (.slice A1 es.length ca1) (.slice (some ⟨gC, 0, none⟩) 1 1) (by simp [Act.eval]) (by simp [Act.eval]) hr ?_
              replace hX := keepG hg hX (fun e => by have := (World.ownsRow.lt hB _ e).1; omega)
              replace hF := keepG hg hF (own_ne_state hB hF)
              replace hW := hW.trans (below_grow (B := w4.heap.size) hg (fun q h1 e => by have := (World.ownsRow.lt hB _ e).1; omega) hW.size)
              have hD := own_es (es := es ++ [⟨z0, z1, z2, z3, z4, z5⟩]) (by rw [ecs_append]; simpa using hD') (by simp; omega)
              have hH := hS'.out _ hX
              clear hr hg hB hC hD'
              refine hK.out _ _ ?_ (fun hHeld => ?_)
              · with_reducible exact hH
              clear hK K hH
              try simp only [List.getElem_toArray, List.getElem_cons_succ, List.getElem_cons_zero]
              try simp only [Act.put, List.setIfInBounds_toArray, List.set_cons_zero, List.set_cons_succ]
              refine wpAnyH_ready (rs := [6]) (by kernel_rfl) (by simp) (AllReadyH.cons rfl (fun K hK => ?_) AllReadyH.nil)
              · go_simp
                refine (H2.out _ (keepB hB4 hW) _ hD).mono ?_
                rintro e wm ⟨g2, rfl, hE, hg2a, hg2b, hb⟩
                have hg4 : w4.heap.size ≤ g2 := Nat.le_trans hW.size hg2a
                obtain ⟨lo, hi, hE, hlo, hhi, hge⟩ := ocs_bounds hE
                have hsep : gF < lo ∨ hi ≤ gF := .inl (by rw [hlo]; exact lt_of_block hF)
                replace hlo : w4.heap.size ≤ lo := by rw [hlo]; exact hW.size
                replace hX := keepH hb hX
                replace hW := keepB hW hb
                replace hF := keepH hb hF
                have hH := hS'.out _ hX
                clear hb hD hge hg2a hg2b
                go_wp2_with fail
                refine hK.out _ _ ?_ (fun hHeld => ?_)
                · with_reducible exact hH
                clear hK K hH
                try simp only [List.getElem_toArray, List.getElem_cons_succ, List.getElem_cons_zero]
                try simp only [Act.put, List.setIfInBounds_toArray, List.set_cons_zero, List.set_cons_succ]
                refine wpAnyH_take (i := 7) (v := ?_) rfl (by kernel_rfl) (by kernel_rfl) (by kernel_rfl) (fun _ _ _ h => h) (Or.inl ⟨by rfl, ?_⟩) (by assumption) ?_
                rotate_left
                · intro X hX
                  go_simp
                  try with_reducible rfl
                try simp only [List.getElem_toArray, List.getElem_cons_succ, List.getElem_cons_zero]
                try simp only [Act.put, List.setIfInBounds_toArray, List.set_cons_zero, List.set_cons_succ]
                refine wpAnyH_take (i := 8) (v := ?_) rfl (by kernel_rfl) (by kernel_rfl) (by kernel_rfl) (fun _ _ _ h => h) (Or.inl ⟨by rfl, ?_⟩) (by assumption) ?_
                rotate_left
                · intro X hX
                  go_simp
                  try with_reducible rfl
                try simp only [List.getElem_toArray, List.getElem_cons_succ, List.getElem_cons_zero]
                try simp only [Act.put, List.setIfInBounds_toArray, List.set_cons_zero, List.set_cons_succ]
                refine wpAnyH_take (i := 9) (v := ?_) rfl (by kernel_rfl) (by kernel_rfl) (by kernel_rfl) (fun _ _ _ h => h) (Or.inl ⟨by rfl, ?_⟩) (by assumption) ?_
                rotate_left
                · intro X hX
                  go_simp
                  try with_reducible rfl
                try simp only [List.getElem_toArray, List.getElem_cons_succ, List.getElem_cons_zero]
                try simp only [Act.put, List.setIfInBounds_toArray, List.set_cons_zero, List.set_cons_succ]
                refine wpAnyH_ready (rs := [11]) (by kernel_rfl) (by simp) (AllReadyH.cons rfl (fun K hK => ?_) AllReadyH.nil)
                · obtain ⟨wm, HST, hG, hbl, hzz, hoth⟩ := st_store (n := w4.heap.size) T2.tag T2.cl T2.sum T2.ver hF rfl hgF
                  refine step_store_known rfl 25 _ _ rfl ⟨gF, 0, none⟩ (.agg #[.int .i64 T2.tag, .bool T2.cl, .int .i64 T2.sum, .int .i64 T2.ver]) (by simp [Act.eval]) (by simp [Act.eval]) HST ?_
                  replace hX := (hoth _ (by omega)).trans hX
                  replace hW := hW.trans hbl
                  replace hE := hE.keep (fun q h1 h2 => hoth q (by rcases hsep with h | h <;> omega)) (Nat.le_refl _) (Nat.le_refl _)
                  replace hhi : hi ≤ wm.heap.size := by omega
                  have hH := hS'.out _ hX
                  clear HST hbl hzz hoth hF hsep
                  refine hK.out _ _ ?_ (fun hHeld => ?_)
                  · with_reducible exact hH
                  clear hK K hH
                  try simp only [List.getElem_toArray, List.getElem_cons_succ, List.getElem_cons_zero]
                  try simp only [Act.put]
                  refine wpAnyH_take (i := 12) (v := ?_) rfl (by kernel_rfl) (by kernel_rfl) (by kernel_rfl) (fun _ _ _ h => h) (Or.inl ⟨by rfl, ?_⟩) (by assumption) ?_
                  rotate_left
                  · intro X hX
                    go_simp
                    try with_reducible rfl
                  try simp only [List.getElem_toArray, List.getElem_cons_succ, List.getElem_cons_zero]
                  try simp only [Act.put, List.setIfInBounds_toArray, List.set_cons_zero, List.set_cons_succ]
                  refine wpAnyH_done (by kernel_rfl) ?_ _
                  go_wp2_with fail
                  go_meet
                  case rel => exact ⟨gF, g2, rfl, rfl, Lib.hid hG, Lib.hid (hE.keep (fun _ _ _ => rfl) hlo hhi), Lib.hid hW, hgF, hg4⟩
        · refine step_build_new rfl 22 1 _ #[(0, .agg #[.int .i64 z0, .int .i64 z1, .int .i64 z2, .int .i64 z3, .int .i64 z4, .int .i64 z5])] rfl (by simp [Act.eval]) #[.int .i64 z0, .int .i64 z1, .int .i64 z2, .int .i64 z3, .int .i64 z4, .int .i64 z5] 45 (build1_run ⟨z0, z1, z2, z3, z4, z5⟩) ?_
          intro gC wn hC hgC hb
          clear hgC
          replace hX := keepH hb hX
          replace hW := keepB hW hb
          replace hA := keepH hb hA
          replace hF := keepH hb hF
          have hH := hS'.out _ hX
          clear hb
          refine hK.out _ _ ?_ (fun hHeld => ?_)
          · with_reducible exact hH
          clear hK K hH
          try simp only [List.getElem_toArray, List.getElem_cons_succ, List.getElem_cons_zero]
          try simp only [Act.put, List.setIfInBounds_toArray, List.set_cons_zero, List.set_cons_succ]
          refine wpAnyH_ready (rs := [2]) (by kernel_rfl) (by simp) (AllReadyH.cons rfl (fun K hK => ?_) AllReadyH.nil)
          · obtain ⟨A1, ca1, wm, hr, hB, hg⟩ := put_log (base := w4.heap.size) hA hgA (HL.out _ (keepB hB4 hW)) (by omega)
            refine step_append_known rfl _ _ 22 22 rfl (.slice (some ⟨gA, 0, none⟩) 0 0) (.slice A es.length c) (by simp [Act.eval]) (by simp [Act.eval]) hr ?_
            replace hX := keepG hg hX (fun e => by injection e; omega)
            replace hC := keepG hg hC (fun e => ne_heap hA hC (by simp) (Option.some.inj e))
            replace hF := keepG hg hF (fun e => ne_heap hA hF (by simp) (Option.some.inj e))
            replace hW := hW.trans (below_grow (B := w4.heap.size) hg (fun q h1 e => by injection e; omega) hW.size)
            have hH := hS'.out _ hX
            clear hr hg hA hgA
            refine hK.out _ _ ?_ (fun hHeld => ?_)
            · with_reducible exact hH
            clear hK K hH
            try simp only [List.getElem_toArray, List.getElem_cons_succ, List.getElem_cons_zero]
            try simp only [Act.put, List.setIfInBounds_toArray, List.set_cons_zero, List.set_cons_succ]
            refine wpAnyH_ready (rs := [5]) (by kernel_rfl) (by simp) (AllReadyH.cons rfl (fun K hK => ?_) AllReadyH.nil)
            · obtain ⟨A2, ca2, wm, hr, hD', hg, -⟩ := run_append_es hB (es_heap (es := [⟨z0, z1, z2, z3, z4, z5⟩]) hC (by simp [ecs, En.l, Od.l]) (by simp)) hW.size (by simp; omega)
              simp only [List.length_cons, List.length_nil] at hr hD'
              refine step_append_known rfl _ _ 22 22 rfl (.slice A1 es.length ca1) (.slice (some ⟨gC, 0, none⟩) 1 1) (by simp [Act.eval]) (by simp [Act.eval]) hr ?_
              replace hX := keepG hg hX (fun e => by have := (World.ownsRow.lt hB _ e).1; omega)
              replace hF := keepG hg hF (own_ne_state hB hF)
              replace hW := hW.trans (below_grow (B := w4.heap.size) hg (fun q h1 e => by have := (World.ownsRow.lt hB _ e).1; omega) hW.size)
              have hD := own_es (es := es ++ [⟨z0, z1, z2, z3, z4, z5⟩]) (by rw [ecs_append]; simpa using hD') (by simp; omega)
              have hH := hS'.out _ hX
              clear hr hg hB hC hD'
              refine hK.out _ _ ?_ (fun hHeld => ?_)
              · with_reducible exact hH
              clear hK K hH
              try simp only [List.getElem_toArray, List.getElem_cons_succ, List.getElem_cons_zero]
              try simp only [Act.put, List.setIfInBounds_toArray, List.set_cons_zero, List.set_cons_succ]
              refine wpAnyH_ready (rs := [6]) (by kernel_rfl) (by simp) (AllReadyH.cons rfl (fun K hK => ?_) AllReadyH.nil)
              · go_simp
                refine (H2.out _ (keepB hB4 hW) _ hD).mono ?_
                rintro e wm ⟨g2, rfl, hE, hg2a, hg2b, hb⟩
                have hg4 : w4.heap.size ≤ g2 := Nat.le_trans hW.size hg2a
                obtain ⟨lo, hi, hE, hlo, hhi, hge⟩ := ocs_bounds hE
                have hsep : gF < lo ∨ hi ≤ gF := .inl (by rw [hlo]; exact lt_of_block hF)
                replace hlo : w4.heap.size ≤ lo := by rw [hlo]; exact hW.size
                replace hX := keepH hb hX
                replace hW := keepB hW hb
                replace hF := keepH hb hF
                have hH := hS'.out _ hX
                clear hb hD hge hg2a hg2b
                go_wp2_with fail
                refine hK.out _ _ ?_ (fun hHeld => ?_)
                · with_reducible exact hH
                clear hK K hH
                try simp only [List.getElem_toArray, List.getElem_cons_succ, List.getElem_cons_zero]
                try simp only [Act.put, List.setIfInBounds_toArray, List.set_cons_zero, List.set_cons_succ]
                refine wpAnyH_take (i := 7) (v := ?_) rfl (by kernel_rfl) (by kernel_rfl) (by kernel_rfl) (fun _ _ _ h => h) (Or.inl ⟨by rfl, ?_⟩) (by assumption) ?_
                rotate_left
                · intro X hX
                  go_simp
                  try with_reducible rfl
                try simp only [List.getElem_toArray, List.getElem_cons_succ, List.getElem_cons_zero]
                try simp only [Act.put, List.setIfInBounds_toArray, List.set_cons_zero, List.set_cons_succ]
                refine wpAnyH_take (i := 8) (v := ?_) rfl (by kernel_rfl) (by kernel_rfl) (by kernel_rfl) (fun _ _ _ h => h) (Or.inl ⟨by rfl, ?_⟩) (by assumption) ?_
                rotate_left
                · intro X hX
                  go_simp
                  try with_reducible rfl
                try simp only [List.getElem_toArray, List.getElem_cons_succ, List.getElem_cons_zero]
                try simp only [Act.put, List.setIfInBounds_toArray, List.set_cons_zero, List.set_cons_succ]
                refine wpAnyH_take (i := 9) (v := ?_) rfl (by kernel_rfl) (by kernel_rfl) (by kernel_rfl) (fun _ _ _ h => h) (Or.inl ⟨by rfl, ?_⟩) (by assumption) ?_
                rotate_left
                · intro X hX
                  go_simp
                  try with_reducible rfl
                try simp only [List.getElem_toArray, List.getElem_cons_succ, List.getElem_cons_zero]
                try simp only [Act.put, List.setIfInBounds_toArray, List.set_cons_zero, List.set_cons_succ]
                refine wpAnyH_ready (rs := [11]) (by kernel_rfl) (by simp) (AllReadyH.cons rfl (fun K hK => ?_) AllReadyH.nil)
                · obtain ⟨wm, HST, hG, hbl, hzz, hoth⟩ := st_store (n := w4.heap.size) T2.tag T2.cl T2.sum T2.ver hF rfl hgF
                  refine step_store_known rfl 25 _ _ rfl ⟨gF, 0, none⟩ (.agg #[.int .i64 T2.tag, .bool T2.cl, .int .i64 T2.sum, .int .i64 T2.ver]) (by simp [Act.eval]) (by simp [Act.eval]) HST ?_
                  replace hX := (hoth _ (by omega)).trans hX
                  replace hW := hW.trans hbl
                  replace hE := hE.keep (fun q h1 h2 => hoth q (by rcases hsep with h | h <;> omega)) (Nat.le_refl _) (Nat.le_refl _)
                  replace hhi : hi ≤ wm.heap.size := by omega
                  have hH := hS'.out _ hX
                  clear HST hbl hzz hoth hF hsep
                  refine hK.out _ _ ?_ (fun hHeld => ?_)
                  · with_reducible exact hH
                  clear hK K hH
                  try simp only [List.getElem_toArray, List.getElem_cons_succ, List.getElem_cons_zero]
                  try simp only [Act.put]
                  refine wpAnyH_take (i := 12) (v := ?_) rfl (by kernel_rfl) (by kernel_rfl) (by kernel_rfl) (fun _ _ _ h => h) (Or.inl ⟨by rfl, ?_⟩) (by assumption) ?_
                  rotate_left
                  · intro X hX
                    go_simp
                    try with_reducible rfl
                  try simp only [List.getElem_toArray, List.getElem_cons_succ, List.getElem_cons_zero]
                  try simp only [Act.put, List.setIfInBounds_toArray, List.set_cons_zero, List.set_cons_succ]
                  refine wpAnyH_done (by kernel_rfl) ?_ _
                  go_wp2_with fail
                  go_meet
                  case rel => exact ⟨gF, g2, rfl, rfl, Lib.hid hG, Lib.hid (hE.keep (fun _ _ _ => rfl) hlo hhi), Lib.hid hW, hgF, hg4⟩
    · refine step_build_new rfl 22 1 _ #[(0, .agg #[.int .i64 z0, .int .i64 z1, .int .i64 z2, .int .i64 z3, .int .i64 z4, .int .i64 z5])] rfl (by simp [Act.eval]) #[.int .i64 z0, .int .i64 z1, .int .i64 z2, .int .i64 z3, .int .i64 z4, .int .i64 z5] 45 (build1_run ⟨z0, z1, z2, z3, z4, z5⟩) ?_
      intro gC wn hC hgC hb
      clear hgC
      replace hX := keepH hb hX
      replace hW := keepB hW hb
      have hH := hS'.out _ hX
      clear hb
      refine hK.out _ _ ?_ (fun hHeld => ?_)
      · with_reducible exact hH
      clear hK K hH
      try simp only [List.getElem_toArray, List.getElem_cons_succ, List.getElem_cons_zero]
      try simp only [Act.put, List.setIfInBounds_toArray, List.set_cons_zero, List.set_cons_succ]
      refine wpAnyH_ready (rs := [0,10]) (by kernel_rfl) (by simp) (AllReadyH.cons rfl (fun K hK => ?_) (AllReadyH.cons rfl (fun K hK => ?_) AllReadyH.nil))
      · refine step_build_new rfl 22 0 #[] #[] rfl (by simp) #[] 45 build0_run ?_
        intro gA wn hA hgA hb
        replace hgA : w4.heap.size ≤ gA := Nat.le_trans hW.size hgA
        replace hX := keepH hb hX
        replace hW := keepB hW hb
        replace hC := keepH hb hC
        have hH := hS'.out _ hX
        clear hb
        refine hK.out _ _ ?_ (fun hHeld => ?_)
        · with_reducible exact hH
        clear hK K hH
        try simp only [List.getElem_toArray, List.getElem_cons_zero]
        try simp only [Act.put, List.setIfInBounds_toArray, List.set_cons_zero, List.set_cons_succ]
        refine wpAnyH_ready (rs := [2,10]) (by kernel_rfl) (by simp) (AllReadyH.cons rfl (fun K hK => ?_) (AllReadyH.cons rfl (fun K hK => ?_) AllReadyH.nil))
        · obtain ⟨A1, ca1, wm, hr, hB, hg⟩ := put_log (base := w4.heap.size) hA hgA (HL.out _ (keepB hB4 hW)) (by omega)
          refine step_append_known rfl _ _ 22 22 rfl (.slice (some ⟨gA, 0, none⟩) 0 0) (.slice A es.length c) (by simp [Act.eval]) (by simp [Act.eval]) hr ?_
          replace hX := keepG hg hX (fun e => by injection e; omega)
          replace hC := keepG hg hC (fun e => ne_heap hA hC (by simp) (Option.some.inj e))
          replace hW := hW.trans (below_grow (B := w4.heap.size) hg (fun q h1 e => by injection e; omega) hW.size)
          have hH := hS'.out _ hX
          clear hr hg hA hgA
          refine hK.out _ _ ?_ (fun hHeld => ?_)
          · with_reducible exact hH
          clear hK K hH
          try simp only [List.getElem_toArray, List.getElem_cons_succ, List.getElem_cons_zero]
          try simp only [Act.put, List.setIfInBounds_toArray, List.set_cons_zero, List.set_cons_succ]
          refine wpAnyH_ready (rs := [5,10]) (by kernel_rfl) (by simp) (AllReadyH.cons rfl (fun K hK => ?_) (AllReadyH.cons rfl (fun K hK => ?_) AllReadyH.nil))
          · obtain ⟨A2, ca2, wm, hr, hD', hg, -⟩ := run_append_es hB (es_heap (es := [⟨z0, z1, z2, z3, z4, z5⟩]) hC (by simp [ecs, En.l, Od.l]) (by simp)) hW.size (by simp; omega)
            simp only [List.length_cons, List.length_nil] at hr hD'
            refine step_append_known rfl _ _ 22 22 rfl (.slice A1 es.length ca1) (.slice (some ⟨gC, 0, none⟩) 1 1) (by simp [Act.eval]) (by simp [Act.eval]) hr ?_
            replace hX := keepG hg hX (fun e => by have := (World.ownsRow.lt hB _ e).1; omega)
            replace hW := hW.trans (below_grow (B := w4.heap.size) hg (fun q h1 e => by have := (World.ownsRow.lt hB _ e).1; omega) hW.size)
            have hD := own_es (es := es ++ [⟨z0, z1, z2, z3, z4, z5⟩]) (by rw [ecs_append]; simpa using hD') (by simp; omega)
            have hH := hS'.out _ hX
            clear hr hg hB hC hD'
            refine hK.out _ _ ?_ (fun hHeld => ?_)
            · with_reducible exact hH
            clear hK K hH
            try simp only [List.getElem_toArray, List.getElem_cons_succ, List.getElem_cons_zero]
            try simp only [Act.put, List.setIfInBounds_toArray, List.set_cons_zero, List.set_cons_succ]
            refine wpAnyH_ready (rs := [6,10]) (by kernel_rfl) (by simp) (AllReadyH.cons rfl (fun K hK => ?_) (AllReadyH.cons rfl (fun K hK => ?_) AllReadyH.nil))
            · go_simp
              refine (H2.out _ (keepB hB4 hW) _ hD).mono ?_
              rintro e wm ⟨g2, rfl, hE, hg2a, hg2b, hb⟩
              have hg4 : w4.heap.size ≤ g2 := Nat.le_trans hW.size hg2a
              obtain ⟨lo, hi, hE, hlo, hhi, hge⟩ := ocs_bounds hE
              replace hlo : w4.heap.size ≤ lo := by rw [hlo]; exact hW.size
              replace hX := keepH hb hX
              replace hW := keepB hW hb
              have hH := hS'.out _ hX
              clear hb hD hge hg2a hg2b
              go_wp2_with fail
              refine hK.out _ _ ?_ (fun hHeld => ?_)
              · with_reducible exact hH
              clear hK K hH
              try simp only [List.getElem_toArray, List.getElem_cons_succ, List.getElem_cons_zero]
              try simp only [Act.put, List.setIfInBounds_toArray, List.set_cons_zero, List.set_cons_succ]
              refine wpAnyH_take (i := 7) (v := ?_) rfl (by kernel_rfl) (by kernel_rfl) (by kernel_rfl) (fun _ _ _ h => h) (Or.inl ⟨by rfl, ?_⟩) (by assumption) ?_
              rotate_left
              · intro X hX
                go_simp
                try with_reducible rfl
              try simp only [List.getElem_toArray, List.getElem_cons_succ, List.getElem_cons_zero]
              try simp only [Act.put, List.setIfInBounds_toArray, List.set_cons_zero, List.set_cons_succ]
              refine wpAnyH_take (i := 8) (v := ?_) rfl (by kernel_rfl) (by kernel_rfl) (by kernel_rfl) (fun _ _ _ h => h) (Or.inl ⟨by rfl, ?_⟩) (by assumption) ?_
              rotate_left
              · intro X hX
                go_simp
                try with_reducible rfl
              try simp only [List.getElem_toArray, List.getElem_cons_succ, List.getElem_cons_zero]
              try simp only [Act.put, List.setIfInBounds_toArray, List.set_cons_zero, List.set_cons_succ]
              refine wpAnyH_take (i := 9) (v := ?_) rfl (by kernel_rfl) (by kernel_rfl) (by kernel_rfl) (fun _ _ _ h => h) (Or.inl ⟨by rfl, ?_⟩) (by assumption) ?_
              rotate_left
              · intro X hX
                go_simp
                try with_reducible rfl
              try simp only [List.getElem_toArray, List.getElem_cons_succ, List.getElem_cons_zero]
              try simp only [Act.put, List.setIfInBounds_toArray, List.set_cons_zero, List.set_cons_succ]
              refine wpAnyH_ready (rs := [10]) (by kernel_rfl) (by simp) (AllReadyH.cons rfl (fun K hK => ?_) AllReadyH.nil)
              · refine step_alloc_new rfl 25 rfl _ alloc_st ?_
                intro gF wn hF hgF hb
                have hsep : gF < lo ∨ hi ≤ gF := .inr (Nat.le_trans hhi hgF)
                replace hgF : w4.heap.size ≤ gF := Nat.le_trans hW.size hgF
                replace hX := keepH hb hX
                replace hW := keepB hW hb
                replace hE := hE.below hb hhi
                replace hhi := Nat.le_trans hhi hb.size
                have hH := hS'.out _ hX
                clear hb
                refine hK.out _ _ ?_ (fun hHeld => ?_)
                · with_reducible exact hH
                clear hK K hH
                try simp only [List.getElem_toArray, List.getElem_cons_succ, List.getElem_cons_zero]
                try simp only [Act.put, List.setIfInBounds_toArray, List.set_cons_zero, List.set_cons_succ]
                refine wpAnyH_ready (rs := [11]) (by kernel_rfl) (by simp) (AllReadyH.cons rfl (fun K hK => ?_) AllReadyH.nil)
                · obtain ⟨wm, HST, hG, hbl, hzz, hoth⟩ := st_store (n := w4.heap.size) T2.tag T2.cl T2.sum T2.ver hF rfl hgF
                  refine step_store_known rfl 25 _ _ rfl ⟨gF, 0, none⟩ (.agg #[.int .i64 T2.tag, .bool T2.cl, .int .i64 T2.sum, .int .i64 T2.ver]) (by simp [Act.eval]) (by simp [Act.eval]) HST ?_
                  replace hX := (hoth _ (by omega)).trans hX
                  replace hW := hW.trans hbl
                  replace hE := hE.keep (fun q h1 h2 => hoth q (by rcases hsep with h | h <;> omega)) (Nat.le_refl _) (Nat.le_refl _)
                  replace hhi : hi ≤ wm.heap.size := by omega
                  have hH := hS'.out _ hX
                  clear HST hbl hzz hoth hF hsep
                  refine hK.out _ _ ?_ (fun hHeld => ?_)
                  · with_reducible exact hH
                  clear hK K hH
                  try simp only [List.getElem_toArray, List.getElem_cons_succ, List.getElem_cons_zero]
                  try simp only [Act.put]
                  refine wpAnyH_take (i := 12) (v := ?_) rfl (by kernel_rfl) (by kernel_rfl) (by kernel_rfl) (fun _ _ _ h => h) (Or.inl ⟨by rfl, ?_⟩) (by assumption) ?_
                  rotate_left
                  · intro X hX
                    go_simp
                    try with_reducible rfl
                  try simp only [List.getElem_toArray, List.getElem_cons_succ, List.getElem_cons_zero]
                  try simp only [Act.put, List.setIfInBounds_toArray, List.set_cons_zero, List.set_cons_succ]
                  refine wpAnyH_done (by kernel_rfl) ?_ _
                  go_wp2_with fail
                  go_meet
                  case rel => exact ⟨gF, g2, rfl, rfl, Lib.hid hG, Lib.hid (hE.keep (fun _ _ _ => rfl) hlo hhi), Lib.hid hW, hgF, hg4⟩
            · refine step_alloc_new rfl 25 rfl _ alloc_st ?_
              intro gF wn hF hgF hb
              replace hgF : w4.heap.size ≤ gF := Nat.le_trans hW.size hgF
              replace hX := keepH hb hX
              replace hW := keepB hW hb
              replace hD := keepE hb hD
              have hH := hS'.out _ hX
              clear hb
              refine hK.out _ _ ?_ (fun hHeld => ?_)
              · with_reducible exact hH
              clear hK K hH
              try simp only [List.getElem_toArray, List.getElem_cons_succ, List.getElem_cons_zero]
              try simp only [Act.put, List.setIfInBounds_toArray, List.set_cons_zero, List.set_cons_succ]
              refine wpAnyH_ready (rs := [6]) (by kernel_rfl) (by simp) (AllReadyH.cons rfl (fun K hK => ?_) AllReadyH.nil)
              · go_simp
                refine (H2.out _ (keepB hB4 hW) _ hD).mono ?_
                rintro e wm ⟨g2, rfl, hE, hg2a, hg2b, hb⟩
                have hg4 : w4.heap.size ≤ g2 := Nat.le_trans hW.size hg2a
                obtain ⟨lo, hi, hE, hlo, hhi, hge⟩ := ocs_bounds hE
                have hsep : gF < lo ∨ hi ≤ gF := .inl (by rw [hlo]; exact lt_of_block hF)
                replace hlo : w4.heap.size ≤ lo := by rw [hlo]; exact hW.size
                replace hX := keepH hb hX
                replace hW := keepB hW hb
                replace hF := keepH hb hF
                have hH := hS'.out _ hX
                clear hb hD hge hg2a hg2b
                go_wp2_with fail
                refine hK.out _ _ ?_ (fun hHeld => ?_)
                · with_reducible exact hH
                clear hK K hH
                try simp only [List.getElem_toArray, List.getElem_cons_succ, List.getElem_cons_zero]
                try simp only [Act.put, List.setIfInBounds_toArray, List.set_cons_zero, List.set_cons_succ]
                refine wpAnyH_take (i := 7) (v := ?_) rfl (by kernel_rfl) (by kernel_rfl) (by kernel_rfl) (fun _ _ _ h => h) (Or.inl ⟨by rfl, ?_⟩) (by assumption) ?_
                rotate_left
                · intro X hX
                  go_simp
                  try with_reducible rfl
                try simp only [List.getElem_toArray, List.getElem_cons_succ, List.getElem_cons_zero]
                try simp only [Act.put, List.setIfInBounds_toArray, List.set_cons_zero, List.set_cons_succ]
                refine wpAnyH_take (i := 8) (v := ?_) rfl (by kernel_rfl) (by kernel_rfl) (by kernel_rfl) (fun _ _ _ h => h) (Or.inl ⟨by rfl, ?_⟩) (by assumption) ?_
                rotate_left
                · intro X hX
                  go_simp
                  try with_reducible rfl
                try simp only [List.getElem_toArray, List.getElem_cons_succ, List.getElem_cons_zero]
                try simp only [Act.put, List.setIfInBounds_toArray, List.set_cons_zero, List.set_cons_succ]
                refine wpAnyH_take (i := 9) (v := ?_) rfl (by kernel_rfl) (by kernel_rfl) (by kernel_rfl) (fun _ _ _ h => h) (Or.inl ⟨by rfl, ?_⟩) (by assumption) ?_
                rotate_left
                · intro X hX
                  go_simp
                  try with_reducible rfl
                try simp only [List.getElem_toArray, List.getElem_cons_succ, List.getElem_cons_zero]
                try simp only [Act.put, List.setIfInBounds_toArray, List.set_cons_zero, List.set_cons_succ]
                refine wpAnyH_ready (rs := [11]) (by kernel_rfl) (by simp) (AllReadyH.cons rfl (fun K hK => ?_) AllReadyH.nil)
                · obtain ⟨wm, HST, hG, hbl, hzz, hoth⟩ := st_store (n := w4.heap.size) T2.tag T2.cl T2.sum T2.ver hF rfl hgF
                  refine step_store_known rfl 25 _ _ rfl ⟨gF, 0, none⟩ (.agg #[.int .i64 T2.tag, .bool T2.cl, .int .i64 T2.sum, .int .i64 T2.ver]) (by simp [Act.eval]) (by simp [Act.eval]) HST ?_
                  replace hX := (hoth _ (by omega)).trans hX
                  replace hW := hW.trans hbl
                  replace hE := hE.keep (fun q h1 h2 => hoth q (by rcases hsep with h | h <;> omega)) (Nat.le_refl _) (Nat.le_refl _)
                  replace hhi : hi ≤ wm.heap.size := by omega
                  have hH := hS'.out _ hX
                  clear HST hbl hzz hoth hF hsep
                  refine hK.out _ _ ?_ (fun hHeld => ?_)
                  · with_reducible exact hH
                  clear hK K hH
                  try simp only [List.getElem_toArray, List.getElem_cons_succ, List.getElem_cons_zero]
                  try simp only [Act.put]
                  refine wpAnyH_take (i := 12) (v := ?_) rfl (by kernel_rfl) (by kernel_rfl) (by kernel_rfl) (fun _ _ _ h => h) (Or.inl ⟨by rfl, ?_⟩) (by assumption) ?_
                  rotate_left
                  · intro X hX
                    go_simp
                    try with_reducible rfl
                  try simp only [List.getElem_toArray, List.getElem_cons_succ, List.getElem_cons_zero]
                  try simp only [Act.put, List.setIfInBounds_toArray, List.set_cons_zero, List.set_cons_succ]
                  refine wpAnyH_done (by kernel_rfl) ?_ _
                  go_wp2_with fail
                  go_meet
                  case rel => exact ⟨gF, g2, rfl, rfl, Lib.hid hG, Lib.hid (hE.keep (fun _ _ _ => rfl) hlo hhi), Lib.hid hW, hgF, hg4⟩
          · refine step_alloc_new rfl 25 rfl _ alloc_st ?_
            intro gF wn hF hgF hb
            replace hgF : w4.heap.size ≤ gF := Nat.le_trans hW.size hgF
            replace hX := keepH hb hX
            replace hW := keepB hW hb
            replace hB := keepR hb hB
            replace hC := keepH hb hC
            have hH := hS'.out _ hX
            clear hb
            refine hK.out _ _ ?_ (fun hHeld => ?_)
            · with_reducible exact hH
            clear hK K hH
            try simp only [List.getElem_toArray, List.getElem_cons_succ, List.getElem_cons_zero]
            try simp only [Act.put, List.setIfInBounds_toArray, List.set_cons_zero, List.set_cons_succ]
            refine wpAnyH_ready (rs := [5]) (by kernel_rfl) (by simp) (AllReadyH.cons rfl (fun K hK => ?_) AllReadyH.nil)
            · obtain ⟨A2, ca2, wm, hr, hD', hg, -⟩ := run_append_es hB (es_heap (es := [⟨z0, z1, z2, z3, z4, z5⟩]) hC (by simp [ecs, En.l, Od.l]) (by simp)) hW.size (by simp; omega)
              simp only [List.length_cons, List.length_nil] at hr hD'
              refine step_append_known rfl _ _ 22 22 rfl (.slice A1 es.length ca1) (.slice (some ⟨gC, 0, none⟩) 1 1) (by simp [Act.eval]) (by simp [Act.eval]) hr ?_
              replace hX := keepG hg hX (fun e => by have := (World.ownsRow.lt hB _ e).1; omega)
              replace hF := keepG hg hF (own_ne_state hB hF)
              replace hW := hW.trans (below_grow (B := w4.heap.size) hg (fun q h1 e => by have := (World.ownsRow.lt hB _ e).1; omega) hW.size)
              have hD := own_es (es := es ++ [⟨z0, z1, z2, z3, z4, z5⟩]) (by rw [ecs_append]; simpa using hD') (by simp; omega)
              have hH := hS'.out _ hX
              clear hr hg hB hC hD'
              refine hK.out _ _ ?_ (fun hHeld => ?_)
              · with_reducible exact hH
              clear hK K hH
              try simp only [List.getElem_toArray, List.getElem_cons_succ, List.getElem_cons_zero]
              try simp only [Act.put, List.setIfInBounds_toArray, List.set_cons_zero, List.set_cons_succ]
              refine wpAnyH_ready (rs := [6]) (by kernel_rfl) (by simp) (AllReadyH.cons rfl (fun K hK => ?_) AllReadyH.nil)
              · go_simp
                refine (H2.out _ (keepB hB4 hW) _ hD).mono ?_
                rintro e wm ⟨g2, rfl, hE, hg2a, hg2b, hb⟩
                have hg4 : w4.heap.size ≤ g2 := Nat.le_trans hW.size hg2a
                obtain ⟨lo, hi, hE, hlo, hhi, hge⟩ := ocs_bounds hE
                have hsep : gF < lo ∨ hi ≤ gF := .inl (by rw [hlo]; exact lt_of_block hF)
                replace hlo : w4.heap.size ≤ lo := by rw [hlo]; exact hW.size
                replace hX := keepH hb hX
                replace hW := keepB hW hb
                replace hF := keepH hb hF
                have hH := hS'.out _ hX
                clear hb hD hge hg2a hg2b
                go_wp2_with fail
                refine hK.out _ _ ?_ (fun hHeld => ?_)
                · with_reducible exact hH
                clear hK K hH
                try simp only [List.getElem_toArray, List.getElem_cons_succ, List.getElem_cons_zero]
                try simp only [Act.put, List.setIfInBounds_toArray, List.set_cons_zero, List.set_cons_succ]
                refine wpAnyH_take (i := 7) (v := ?_) rfl (by kernel_rfl) (by kernel_rfl) (by kernel_rfl) (fun _ _ _ h => h) (Or.inl ⟨by rfl, ?_⟩) (by assumption) ?_
                rotate_left
                · intro X hX
                  go_simp
                  try with_reducible rfl
                try simp only [List.getElem_toArray, List.getElem_cons_succ, List.getElem_cons_zero]
                try simp only [Act.put, List.setIfInBounds_toArray, List.set_cons_zero, List.set_cons_succ]
                refine wpAnyH_take (i := 8) (v := ?_) rfl (by kernel_rfl) (by kernel_rfl) (by kernel_rfl) (fun _ _ _ h => h) (Or.inl ⟨by rfl, ?_⟩) (by assumption) ?_
                rotate_left
                · intro X hX
                  go_simp
                  try with_reducible rfl
                try simp only [List.getElem_toArray, List.getElem_cons_succ, List.getElem_cons_zero]
                try simp only [Act.put, List.setIfInBounds_toArray, List.set_cons_zero, List.set_cons_succ]
                refine wpAnyH_take (i := 9) (v := ?_) rfl (by kernel_rfl) (by kernel_rfl) (by kernel_rfl) (fun _ _ _ h => h) (Or.inl ⟨by rfl, ?_⟩) (by assumption) ?_
                rotate_left
                · intro X hX
                  go_simp
                  try with_reducible rfl
                try simp only [List.getElem_toArray, List.getElem_cons_succ, List.getElem_cons_zero]
                try simp only [Act.put, List.setIfInBounds_toArray, List.set_cons_zero, List.set_cons_succ]
                refine wpAnyH_ready (rs := [11]) (by kernel_rfl) (by simp) (AllReadyH.cons rfl (fun K hK => ?_) AllReadyH.nil)
                · obtain ⟨wm, HST, hG, hbl, hzz, hoth⟩ := st_store (n := w4.heap.size) T2.tag T2.cl T2.sum T2.ver hF rfl hgF
                  refine step_store_known rfl 25 _ _ rfl ⟨gF, 0, none⟩ (.agg #[.int .i64 T2.tag, .bool T2.cl, .int .i64 T2.sum, .int .i64 T2.ver]) (by simp [Act.eval]) (by simp [Act.eval]) HST ?_
                  replace hX := (hoth _ (by omega)).trans hX
                  replace hW := hW.trans hbl
                  replace hE := hE.keep (fun q h1 h2 => hoth q (by rcases hsep with h | h <;> omega)) (Nat.le_refl _) (Nat.le_refl _)
                  replace hhi : hi ≤ wm.heap.size := by omega
                  have hH := hS'.out _ hX
                  clear HST hbl hzz hoth hF hsep
                  refine hK.out _ _ ?_ (fun hHeld => ?_)
                  · with_reducible exact hH
                  clear hK K hH
                  try simp only [List.getElem_toArray, List.getElem_cons_succ, List.getElem_cons_zero]
                  try simp only [Act.put]
                  refine wpAnyH_take (i := 12) (v := ?_) rfl (by kernel_rfl) (by kernel_rfl) (by kernel_rfl) (fun _ _ _ h => h) (Or.inl ⟨by rfl, ?_⟩) (by assumption) ?_
                  rotate_left
                  · intro X hX
                    go_simp
                    try with_reducible rfl
                  try simp only [List.getElem_toArray, List.getElem_cons_succ, List.getElem_cons_zero]
                  try simp only [Act.put, List.setIfInBounds_toArray, List.set_cons_zero, List.set_cons_succ]
                  refine wpAnyH_done (by kernel_rfl) ?_ _
                  go_wp2_with fail
                  go_meet
                  case rel => exact ⟨gF, g2, rfl, rfl, Lib.hid hG, Lib.hid (hE.keep (fun _ _ _ => rfl) hlo hhi), Lib.hid hW, hgF, hg4⟩
        · refine step_alloc_new rfl 25 rfl _ alloc_st ?_
          intro gF wn hF hgF hb
          replace hgF : w4.heap.size ≤ gF := Nat.le_trans hW.size hgF
          replace hX := keepH hb hX
          replace hW := keepB hW hb
          replace hA := keepH hb hA
          replace hC := keepH hb hC
          have hH := hS'.out _ hX
          clear hb
          refine hK.out _ _ ?_ (fun hHeld => ?_)
          · with_reducible exact hH
          clear hK K hH
          try simp only [List.getElem_toArray, List.getElem_cons_succ, List.getElem_cons_zero]
          try simp only [Act.put, List.setIfInBounds_toArray, List.set_cons_zero, List.set_cons_succ]
          refine wpAnyH_ready (rs := [2]) (by kernel_rfl) (by simp) (AllReadyH.cons rfl (fun K hK => ?_) AllReadyH.nil)
          · obtain ⟨A1, ca1, wm, hr, hB, hg⟩ := put_log (base := w4.heap.size) hA hgA (HL.out _ (keepB hB4 hW)) (by omega)
            refine step_append_known rfl _ _ 22 22 rfl (.slice (some ⟨gA, 0, none⟩) 0 0) (.slice A es.length c) (by simp [Act.eval]) (by simp [Act.eval]) hr ?_
            replace hX := keepG hg hX (fun e => by injection e; omega)
            replace hC := keepG hg hC (fun e => ne_heap hA hC (by simp) (Option.some.inj e))
            replace hF := keepG hg hF (fun e => ne_heap hA hF (by simp) (Option.some.inj e))
            replace hW := hW.trans (below_grow (B := w4.heap.size) hg (fun q h1 e => by injection e; omega) hW.size)
            have hH := hS'.out _ hX
            clear hr hg hA hgA
            refine hK.out _ _ ?_ (fun hHeld => ?_)
            · with_reducible exact hH
            clear hK K hH
            try simp only [List.getElem_toArray, List.getElem_cons_succ, List.getElem_cons_zero]
            try simp only [Act.put, List.setIfInBounds_toArray, List.set_cons_zero, List.set_cons_succ]
            refine wpAnyH_ready (rs := [5]) (by kernel_rfl) (by simp) (AllReadyH.cons rfl (fun K hK => ?_) AllReadyH.nil)
            · obtain ⟨A2, ca2, wm, hr, hD', hg, -⟩ := run_append_es hB (es_heap (es := [⟨z0, z1, z2, z3, z4, z5⟩]) hC (by simp [ecs, En.l, Od.l]) (by simp)) hW.size (by simp; omega)
              simp only [List.length_cons, List.length_nil] at hr hD'
              refine step_append_known rfl _ _ 22 22 rfl (.slice A1 es.length ca1) (.slice (some ⟨gC, 0, none⟩) 1 1) (by simp [Act.eval]) (by simp [Act.eval]) hr ?_
              replace hX := keepG hg hX (fun e => by have := (World.ownsRow.lt hB _ e).1; omega)
              replace hF := keepG hg hF (own_ne_state hB hF)
              replace hW := hW.trans (below_grow (B := w4.heap.size) hg (fun q h1 e => by have := (World.ownsRow.lt hB _ e).1; omega) hW.size)
              have hD := own_es (es := es ++ [⟨z0, z1, z2, z3, z4, z5⟩]) (by rw [ecs_append]; simpa using hD') (by simp; omega)
              have hH := hS'.out _ hX
              clear hr hg hB hC hD'
              refine hK.out _ _ ?_ (fun hHeld => ?_)
              · with_reducible exact hH
              clear hK K hH
              try simp only [List.getElem_toArray, List.getElem_cons_succ, List.getElem_cons_zero]
              try simp only [Act.put, List.setIfInBounds_toArray, List.set_cons_zero, List.set_cons_succ]
              refine wpAnyH_ready (rs := [6]) (by kernel_rfl) (by simp) (AllReadyH.cons rfl (fun K hK => ?_) AllReadyH.nil)
              · go_simp
                refine (H2.out _ (keepB hB4 hW) _ hD).mono ?_
                rintro e wm ⟨g2, rfl, hE, hg2a, hg2b, hb⟩
                have hg4 : w4.heap.size ≤ g2 := Nat.le_trans hW.size hg2a
                obtain ⟨lo, hi, hE, hlo, hhi, hge⟩ := ocs_bounds hE
                have hsep : gF < lo ∨ hi ≤ gF := .inl (by rw [hlo]; exact lt_of_block hF)
                replace hlo : w4.heap.size ≤ lo := by rw [hlo]; exact hW.size
                replace hX := keepH hb hX
                replace hW := keepB hW hb
                replace hF := keepH hb hF
                have hH := hS'.out _ hX
                clear hb hD hge hg2a hg2b
                go_wp2_with fail
                refine hK.out _ _ ?_ (fun hHeld => ?_)
                · with_reducible exact hH
                clear hK K hH
                try simp only [List.getElem_toArray, List.getElem_cons_succ, List.getElem_cons_zero]
                try simp only [Act.put, List.setIfInBounds_toArray, List.set_cons_zero, List.set_cons_succ]
                refine wpAnyH_take (i := 7) (v := ?_) rfl (by kernel_rfl) (by kernel_rfl) (by kernel_rfl) (fun _ _ _ h => h) (Or.inl ⟨by rfl, ?_⟩) (by assumption) ?_
                rotate_left
                · intro X hX
                  go_simp
                  try with_reducible rfl
                try simp only [List.getElem_toArray, List.getElem_cons_succ, List.getElem_cons_zero]
                try simp only [Act.put, List.setIfInBounds_toArray, List.set_cons_zero, List.set_cons_succ]
                refine wpAnyH_take (i := 8) (v := ?_) rfl (by kernel_rfl) (by kernel_rfl) (by kernel_rfl) (fun _ _ _ h => h) (Or.inl ⟨by rfl, ?_⟩) (by assumption) ?_
                rotate_left
                · intro X hX
                  go_simp
                  try with_reducible rfl
                try simp only [List.getElem_toArray, List.getElem_cons_succ, List.getElem_cons_zero]
                try simp only [Act.put, List.setIfInBounds_toArray, List.set_cons_zero, List.set_cons_succ]
                refine wpAnyH_take (i := 9) (v := ?_) rfl (by kernel_rfl) (by kernel_rfl) (by kernel_rfl) (fun _ _ _ h => h) (Or.inl ⟨by rfl, ?_⟩) (by assumption) ?_
                rotate_left
                · intro X hX
                  go_simp
                  try with_reducible rfl
                try simp only [List.getElem_toArray, List.getElem_cons_succ, List.getElem_cons_zero]
                try simp only [Act.put, List.setIfInBounds_toArray, List.set_cons_zero, List.set_cons_succ]
                refine wpAnyH_ready (rs := [11]) (by kernel_rfl) (by simp) (AllReadyH.cons rfl (fun K hK => ?_) AllReadyH.nil)
                · obtain ⟨wm, HST, hG, hbl, hzz, hoth⟩ := st_store (n := w4.heap.size) T2.tag T2.cl T2.sum T2.ver hF rfl hgF
                  refine step_store_known rfl 25 _ _ rfl ⟨gF, 0, none⟩ (.agg #[.int .i64 T2.tag, .bool T2.cl, .int .i64 T2.sum, .int .i64 T2.ver]) (by simp [Act.eval]) (by simp [Act.eval]) HST ?_
                  replace hX := (hoth _ (by omega)).trans hX
                  replace hW := hW.trans hbl
                  replace hE := hE.keep (fun q h1 h2 => hoth q (by rcases hsep with h | h <;> omega)) (Nat.le_refl _) (Nat.le_refl _)
                  replace hhi : hi ≤ wm.heap.size := by omega
                  have hH := hS'.out _ hX
                  clear HST hbl hzz hoth hF hsep
                  refine hK.out _ _ ?_ (fun hHeld => ?_)
                  · with_reducible exact hH
                  clear hK K hH
                  try simp only [List.getElem_toArray, List.getElem_cons_succ, List.getElem_cons_zero]
                  try simp only [Act.put]
                  refine wpAnyH_take (i := 12) (v := ?_) rfl (by kernel_rfl) (by kernel_rfl) (by kernel_rfl) (fun _ _ _ h => h) (Or.inl ⟨by rfl, ?_⟩) (by assumption) ?_
                  rotate_left
                  · intro X hX
                    go_simp
                    try with_reducible rfl
                  try simp only [List.getElem_toArray, List.getElem_cons_succ, List.getElem_cons_zero]
                  try simp only [Act.put, List.setIfInBounds_toArray, List.set_cons_zero, List.set_cons_succ]
                  refine wpAnyH_done (by kernel_rfl) ?_ _
                  go_wp2_with fail
                  go_meet
                  case rel => exact ⟨gF, g2, rfl, rfl, Lib.hid hG, Lib.hid (hE.keep (fun _ _ _ => rfl) hlo hhi), Lib.hid hW, hgF, hg4⟩
      · refine step_alloc_new rfl 25 rfl _ alloc_st ?_
        intro gF wn hF hgF hb
        replace hgF : w4.heap.size ≤ gF := Nat.le_trans hW.size hgF
        replace hX := keepH hb hX
        replace hW := keepB hW hb
        replace hC := keepH hb hC
        have hH := hS'.out _ hX
        clear hb
        refine hK.out _ _ ?_ (fun hHeld => ?_)
        · with_reducible exact hH
        clear hK K hH
        try simp only [List.getElem_toArray, List.getElem_cons_succ, List.getElem_cons_zero]
        try simp only [Act.put, List.setIfInBounds_toArray, List.set_cons_zero, List.set_cons_succ]
        refine wpAnyH_ready (rs := [0]) (by kernel_rfl) (by simp) (AllReadyH.cons rfl (fun K hK => ?_) AllReadyH.nil)
        · refine step_build_new rfl 22 0 #[] #[] rfl (by simp) #[] 45 build0_run ?_
          intro gA wn hA hgA hb
          replace hgA : w4.heap.size ≤ gA := Nat.le_trans hW.size hgA
          replace hX := keepH hb hX
          replace hW := keepB hW hb
          replace hC := keepH hb hC
          replace hF := keepH hb hF
          have hH := hS'.out _ hX
          clear hb
          refine hK.out _ _ ?_ (fun hHeld => ?_)
          · with_reducible exact hH
          clear hK K hH
          try simp only [List.getElem_toArray, List.getElem_cons_zero]
          try simp only [Act.put, List.setIfInBounds_toArray, List.set_cons_zero, List.set_cons_succ]
          refine wpAnyH_ready (rs := [2]) (by kernel_rfl) (by simp) (AllReadyH.cons rfl (fun K hK => ?_) AllReadyH.nil)
          · obtain ⟨A1, ca1, wm, hr, hB, hg⟩ := put_log (base := w4.heap.size) hA hgA (HL.out _ (keepB hB4 hW)) (by omega)
            refine step_append_known rfl _ _ 22 22 rfl (.slice (some ⟨gA, 0, none⟩) 0 0) (.slice A es.length c) (by simp [Act.eval]) (by simp [Act.eval]) hr ?_
            replace hX := keepG hg hX (fun e => by injection e; omega)
            replace hC := keepG hg hC (fun e => ne_heap hA hC (by simp) (Option.some.inj e))
            replace hF := keepG hg hF (fun e => ne_heap hA hF (by simp) (Option.some.inj e))
            replace hW := hW.trans (below_grow (B := w4.heap.size) hg (fun q h1 e => by injection e; omega) hW.size)
            have hH := hS'.out _ hX
            clear hr hg hA hgA
            refine hK.out _ _ ?_ (fun hHeld => ?_)
            · with_reducible exact hH
            clear hK K hH
            try simp only [List.getElem_toArray, List.getElem_cons_succ, List.getElem_cons_zero]
            try simp only [Act.put, List.setIfInBounds_toArray, List.set_cons_zero, List.set_cons_succ]
            refine wpAnyH_ready (rs := [5]) (by kernel_rfl) (by simp) (AllReadyH.cons rfl (fun K hK => ?_) AllReadyH.nil)
            · obtain ⟨A2, ca2, wm, hr, hD', hg, -⟩ := run_append_es hB (es_heap (es := [⟨z0, z1, z2, z3, z4, z5⟩]) hC (by simp [ecs, En.l, Od.l]) (by simp)) hW.size (by simp; omega)
              simp only [List.length_cons, List.length_nil] at hr hD'
              refine step_append_known rfl _ _ 22 22 rfl (.slice A1 es.length ca1) (.slice (some ⟨gC, 0, none⟩) 1 1) (by simp [Act.eval]) (by simp [Act.eval]) hr ?_
              replace hX := keepG hg hX (fun e => by have := (World.ownsRow.lt hB _ e).1; omega)
              replace hF := keepG hg hF (own_ne_state hB hF)
              replace hW := hW.trans (below_grow (B := w4.heap.size) hg (fun q h1 e => by have := (World.ownsRow.lt hB _ e).1; omega) hW.size)
              have hD := own_es (es := es ++ [⟨z0, z1, z2, z3, z4, z5⟩]) (by rw [ecs_append]; simpa using hD') (by simp; omega)
              have hH := hS'.out _ hX
              clear hr hg hB hC hD'
              refine hK.out _ _ ?_ (fun hHeld => ?_)
              · with_reducible exact hH
              clear hK K hH
              try simp only [List.getElem_toArray, List.getElem_cons_succ, List.getElem_cons_zero]
              try simp only [Act.put, List.setIfInBounds_toArray, List.set_cons_zero, List.set_cons_succ]
              refine wpAnyH_ready (rs := [6]) (by kernel_rfl) (by simp) (AllReadyH.cons rfl (fun K hK => ?_) AllReadyH.nil)
              · go_simp
                refine (H2.out _ (keepB hB4 hW) _ hD).mono ?_
                rintro e wm ⟨g2, rfl, hE, hg2a, hg2b, hb⟩
                have hg4 : w4.heap.size ≤ g2 := Nat.le_trans hW.size hg2a
                obtain ⟨lo, hi, hE, hlo, hhi, hge⟩ := ocs_bounds hE
                have hsep : gF < lo ∨ hi ≤ gF := .inl (by rw [hlo]; exact lt_of_block hF)
                replace hlo : w4.heap.size ≤ lo := by rw [hlo]; exact hW.size
                replace hX := keepH hb hX
                replace hW := keepB hW hb
                replace hF := keepH hb hF
                have hH := hS'.out _ hX
                clear hb hD hge hg2a hg2b
                go_wp2_with fail
                refine hK.out _ _ ?_ (fun hHeld => ?_)
                · with_reducible exact hH
                clear hK K hH
                try simp only [List.getElem_toArray, List.getElem_cons_succ, List.getElem_cons_zero]
                try simp only [Act.put, List.setIfInBounds_toArray, List.set_cons_zero, List.set_cons_succ]
                refine wpAnyH_take (i := 7) (v := ?_) rfl (by kernel_rfl) (by kernel_rfl) (by kernel_rfl) (fun _ _ _ h => h) (Or.inl ⟨by rfl, ?_⟩) (by assumption) ?_
                rotate_left
                · intro X hX
                  go_simp
                  try with_reducible rfl
                try simp only [List.getElem_toArray, List.getElem_cons_succ, List.getElem_cons_zero]
                try simp only [Act.put, List.setIfInBounds_toArray, List.set_cons_zero, List.set_cons_succ]
                refine wpAnyH_take (i := 8) (v := ?_) rfl (by kernel_rfl) (by kernel_rfl) (by kernel_rfl) (fun _ _ _ h => h) (Or.inl ⟨by rfl, ?_⟩) (by assumption) ?_
                rotate_left
                · intro X hX
                  go_simp
                  try with_reducible rfl
                try simp only [List.getElem_toArray, List.getElem_cons_succ, List.getElem_cons_zero]
                try simp only [Act.put, List.setIfInBounds_toArray, List.set_cons_zero, List.set_cons_succ]
                refine wpAnyH_take (i := 9) (v := ?_) rfl (by kernel_rfl) (by kernel_rfl) (by kernel_rfl) (fun _ _ _ h => h) (Or.inl ⟨by rfl, ?_⟩) (by assumption) ?_
                rotate_left
                · intro X hX
                  go_simp
                  try with_reducible rfl
                try simp only [List.getElem_toArray, List.getElem_cons_succ, List.getElem_cons_zero]
                try simp only [Act.put, List.setIfInBounds_toArray, List.set_cons_zero, List.set_cons_succ]
                refine wpAnyH_ready (rs := [11]) (by kernel_rfl) (by simp) (AllReadyH.cons rfl (fun K hK => ?_) AllReadyH.nil)
                · obtain ⟨wm, HST, hG, hbl, hzz, hoth⟩ := st_store (n := w4.heap.size) T2.tag T2.cl T2.sum T2.ver hF rfl hgF
                  refine step_store_known rfl 25 _ _ rfl ⟨gF, 0, none⟩ (.agg #[.int .i64 T2.tag, .bool T2.cl, .int .i64 T2.sum, .int .i64 T2.ver]) (by simp [Act.eval]) (by simp [Act.eval]) HST ?_
                  replace hX := (hoth _ (by omega)).trans hX
                  replace hW := hW.trans hbl
                  replace hE := hE.keep (fun q h1 h2 => hoth q (by rcases hsep with h | h <;> omega)) (Nat.le_refl _) (Nat.le_refl _)
                  replace hhi : hi ≤ wm.heap.size := by omega
                  have hH := hS'.out _ hX
                  clear HST hbl hzz hoth hF hsep
                  refine hK.out _ _ ?_ (fun hHeld => ?_)
                  · with_reducible exact hH
                  clear hK K hH
                  try simp only [List.getElem_toArray, List.getElem_cons_succ, List.getElem_cons_zero]
                  try simp only [Act.put]
                  refine wpAnyH_take (i := 12) (v := ?_) rfl (by kernel_rfl) (by kernel_rfl) (by kernel_rfl) (fun _ _ _ h => h) (Or.inl ⟨by rfl, ?_⟩) (by assumption) ?_
                  rotate_left
                  · intro X hX
                    go_simp
                    try with_reducible rfl
                  try simp only [List.getElem_toArray, List.getElem_cons_succ, List.getElem_cons_zero]
                  try simp only [Act.put, List.setIfInBounds_toArray, List.set_cons_zero, List.set_cons_succ]
                  refine wpAnyH_done (by kernel_rfl) ?_ _
                  go_wp2_with fail
                  go_meet
                  case rel => exact ⟨gF, g2, rfl, rfl, Lib.hid hG, Lib.hid (hE.keep (fun _ _ _ => rfl) hlo hhi), Lib.hid hW, hgF, hg4⟩
    · refine step_alloc_new rfl 25 rfl _ alloc_st ?_
      intro gF wn hF hgF hb
      replace hgF : w4.heap.size ≤ gF := Nat.le_trans hW.size hgF
      replace hX := keepH hb hX
      replace hW := keepB hW hb
      have hH := hS'.out _ hX
      clear hb
      refine hK.out _ _ ?_ (fun hHeld => ?_)
      · with_reducible exact hH
      clear hK K hH
      try simp only [List.getElem_toArray, List.getElem_cons_succ, List.getElem_cons_zero]
      try simp only [Act.put, List.setIfInBounds_toArray, List.set_cons_zero, List.set_cons_succ]
      refine wpAnyH_ready (rs := [0,4]) (by kernel_rfl) (by simp) (AllReadyH.cons rfl (fun K hK => ?_) (AllReadyH.cons rfl (fun K hK => ?_) AllReadyH.nil))
      · refine step_build_new rfl 22 0 #[] #[] rfl (by simp) #[] 45 build0_run ?_
        intro gA wn hA hgA hb
        replace hgA : w4.heap.size ≤ gA := Nat.le_trans hW.size hgA
        replace hX := keepH hb hX
        replace hW := keepB hW hb
        replace hF := keepH hb hF
        have hH := hS'.out _ hX
        clear hb
        refine hK.out _ _ ?_ (fun hHeld => ?_)
        · with_reducible exact hH
        clear hK K hH
        try simp only [List.getElem_toArray, List.getElem_cons_zero]
        try simp only [Act.put, List.setIfInBounds_toArray, List.set_cons_zero, List.set_cons_succ]
        refine wpAnyH_ready (rs := [2,4]) (by kernel_rfl) (by simp) (AllReadyH.cons rfl (fun K hK => ?_) (AllReadyH.cons rfl (fun K hK => ?_) AllReadyH.nil))
        · obtain ⟨A1, ca1, wm, hr, hB, hg⟩ := put_log (base := w4.heap.size) hA hgA (HL.out _ (keepB hB4 hW)) (by omega)
          refine step_append_known rfl _ _ 22 22 rfl (.slice (some ⟨gA, 0, none⟩) 0 0) (.slice A es.length c) (by simp [Act.eval]) (by simp [Act.eval]) hr ?_
          replace hX := keepG hg hX (fun e => by injection e; omega)
          replace hF := keepG hg hF (fun e => ne_heap hA hF (by simp) (Option.some.inj e))
          replace hW := hW.trans (below_grow (B := w4.heap.size) hg (fun q h1 e => by injection e; omega) hW.size)
          have hH := hS'.out _ hX
          clear hr hg hA hgA
          refine hK.out _ _ ?_ (fun hHeld => ?_)
          · with_reducible exact hH
          clear hK K hH
          try simp only [List.getElem_toArray, List.getElem_cons_succ, List.getElem_cons_zero]
          try simp only [Act.put, List.setIfInBounds_toArray, List.set_cons_zero, List.set_cons_succ]
          refine wpAnyH_ready (rs := [4]) (by kernel_rfl) (by simp) (AllReadyH.cons rfl (fun K hK => ?_) AllReadyH.nil)
          · refine step_build_new rfl 22 1 _ #[(0, .agg #[.int .i64 z0, .int .i64 z1, .int .i64 z2, .int .i64 z3, .int .i64 z4, .int .i64 z5])] rfl (by simp [Act.eval]) #[.int .i64 z0, .int .i64 z1, .int .i64 z2, .int .i64 z3, .int .i64 z4, .int .i64 z5] 45 (build1_run ⟨z0, z1, z2, z3, z4, z5⟩) ?_
            intro gC wn hC hgC hb
            clear hgC
            replace hX := keepH hb hX
            replace hW := keepB hW hb
            replace hB := keepR hb hB
            replace hF := keepH hb hF
            have hH := hS'.out _ hX
            clear hb
            refine hK.out _ _ ?_ (fun hHeld => ?_)
            · with_reducible exact hH
            clear hK K hH
            try simp only [List.getElem_toArray, List.getElem_cons_succ, List.getElem_cons_zero]
            try simp only [Act.put, List.setIfInBounds_toArray, List.set_cons_zero, List.set_cons_succ]
            refine wpAnyH_ready (rs := [5]) (by kernel_rfl) (by simp) (AllReadyH.cons rfl (fun K hK => ?_) AllReadyH.nil)
            · obtain ⟨A2, ca2, wm, hr, hD', hg, -⟩ := run_append_es hB (es_heap (es := [⟨z0, z1, z2, z3, z4, z5⟩]) hC (by simp [ecs, En.l, Od.l]) (by simp)) hW.size (by simp; omega)
              simp only [List.length_cons, List.length_nil] at hr hD'
              refine step_append_known rfl _ _ 22 22 rfl (.slice A1 es.length ca1) (.slice (some ⟨gC, 0, none⟩) 1 1) (by simp [Act.eval]) (by simp [Act.eval]) hr ?_
              replace hX := keepG hg hX (fun e => by have := (World.ownsRow.lt hB _ e).1; omega)
              replace hF := keepG hg hF (own_ne_state hB hF)
              replace hW := hW.trans (below_grow (B := w4.heap.size) hg (fun q h1 e => by have := (World.ownsRow.lt hB _ e).1; omega) hW.size)
              have hD := own_es (es := es ++ [⟨z0, z1, z2, z3, z4, z5⟩]) (by rw [ecs_append]; simpa using hD') (by simp; omega)
              have hH := hS'.out _ hX
              clear hr hg hB hC hD'
              refine hK.out _ _ ?_ (fun hHeld => ?_)
              · with_reducible exact hH
              clear hK K hH
              try simp only [List.getElem_toArray, List.getElem_cons_succ, List.getElem_cons_zero]
              try simp only [Act.put, List.setIfInBounds_toArray, List.set_cons_zero, List.set_cons_succ]
              refine wpAnyH_ready (rs := [6]) (by kernel_rfl) (by simp) (AllReadyH.cons rfl (fun K hK => ?_) AllReadyH.nil)
              · go_simp
                refine (H2.out _ (keepB hB4 hW) _ hD).mono ?_
                rintro e wm ⟨g2, rfl, hE, hg2a, hg2b, hb⟩
                have hg4 : w4.heap.size ≤ g2 := Nat.le_trans hW.size hg2a
                obtain ⟨lo, hi, hE, hlo, hhi, hge⟩ := ocs_bounds hE
                have hsep : gF < lo ∨ hi ≤ gF := .inl (by rw [hlo]; exact lt_of_block hF)
                replace hlo : w4.heap.size ≤ lo := by rw [hlo]; exact hW.size
                replace hX := keepH hb hX
                replace hW := keepB hW hb
                replace hF := keepH hb hF
                have hH := hS'.out _ hX
                clear hb hD hge hg2a hg2b
                go_wp2_with fail
                refine hK.out _ _ ?_ (fun hHeld => ?_)
                · with_reducible exact hH
                clear hK K hH
                try simp only [List.getElem_toArray, List.getElem_cons_succ, List.getElem_cons_zero]
                try simp only [Act.put, List.setIfInBounds_toArray, List.set_cons_zero, List.set_cons_succ]
                refine wpAnyH_take (i := 7) (v := ?_) rfl (by kernel_rfl) (by kernel_rfl) (by kernel_rfl) (fun _ _ _ h => h) (Or.inl ⟨by rfl, ?_⟩) (by assumption) ?_
                rotate_left
                · intro X hX
                  go_simp
                  try with_reducible rfl
                try simp only [List.getElem_toArray, List.getElem_cons_succ, List.getElem_cons_zero]
                try simp only [Act.put, List.setIfInBounds_toArray, List.set_cons_zero, List.set_cons_succ]
                refine wpAnyH_take (i := 8) (v := ?_) rfl (by kernel_rfl) (by kernel_rfl) (by kernel_rfl) (fun _ _ _ h => h) (Or.inl ⟨by rfl, ?_⟩) (by assumption) ?_
                rotate_left
                · intro X hX
                  go_simp
                  try with_reducible rfl
                try simp only [List.getElem_toArray, List.getElem_cons_succ, List.getElem_cons_zero]
                try simp only [Act.put, List.setIfInBounds_toArray, List.set_cons_zero, List.set_cons_succ]
                refine wpAnyH_take (i := 9) (v := ?_) rfl (by kernel_rfl) (by kernel_rfl) (by kernel_rfl) (fun _ _ _ h => h) (Or.inl ⟨by rfl, ?_⟩) (by assumption) ?_
                rotate_left
                · intro X hX
                  go_simp
                  try with_reducible rfl
                try simp only [List.getElem_toArray, List.getElem_cons_succ, List.getElem_cons_zero]
                try simp only [Act.put, List.setIfInBounds_toArray, List.set_cons_zero, List.set_cons_succ]
                refine wpAnyH_ready (rs := [11]) (by kernel_rfl) (by simp) (AllReadyH.cons rfl (fun K hK => ?_) AllReadyH.nil)
                · obtain ⟨wm, HST, hG, hbl, hzz, hoth⟩ := st_store (n := w4.heap.size) T2.tag T2.cl T2.sum T2.ver hF rfl hgF
                  refine step_store_known rfl 25 _ _ rfl ⟨gF, 0, none⟩ (.agg #[.int .i64 T2.tag, .bool T2.cl, .int .i64 T2.sum, .int .i64 T2.ver]) (by simp [Act.eval]) (by simp [Act.eval]) HST ?_
                  replace hX := (hoth _ (by omega)).trans hX
                  replace hW := hW.trans hbl
                  replace hE := hE.keep (fun q h1 h2 => hoth q (by rcases hsep with h | h <;> omega)) (Nat.le_refl _) (Nat.le_refl _)
                  replace hhi : hi ≤ wm.heap.size := by omega
                  have hH := hS'.out _ hX
                  clear HST hbl hzz hoth hF hsep
                  refine hK.out _ _ ?_ (fun hHeld => ?_)
                  · with_reducible exact hH
                  clear hK K hH
                  try simp only [List.getElem_toArray, List.getElem_cons_succ, List.getElem_cons_zero]
                  try simp only [Act.put]
                  refine wpAnyH_take (i := 12) (v := ?_) rfl (by kernel_rfl) (by kernel_rfl) (by kernel_rfl) (fun _ _ _ h => h) (Or.inl ⟨by rfl, ?_⟩) (by assumption) ?_
                  rotate_left
                  · intro X hX
                    go_simp
                    try with_reducible rfl
                  try simp only [List.getElem_toArray, List.getElem_cons_succ, List.getElem_cons_zero]
                  try simp only [Act.put, List.setIfInBounds_toArray, List.set_cons_zero, List.set_cons_succ]
                  refine wpAnyH_done (by kernel_rfl) ?_ _
                  go_wp2_with fail
                  go_meet
                  case rel => exact ⟨gF, g2, rfl, rfl, Lib.hid hG, Lib.hid (hE.keep (fun _ _ _ => rfl) hlo hhi), Lib.hid hW, hgF, hg4⟩
        · refine step_build_new rfl 22 1 _ #[(0, .agg #[.int .i64 z0, .int .i64 z1, .int .i64 z2, .int .i64 z3, .int .i64 z4, .int .i64 z5])] rfl (by simp [Act.eval]) #[.int .i64 z0, .int .i64 z1, .int .i64 z2, .int .i64 z3, .int .i64 z4, .int .i64 z5] 45 (build1_run ⟨z0, z1, z2, z3, z4, z5⟩) ?_
          intro gC wn hC hgC hb
          clear hgC
          replace hX := keepH hb hX
          replace hW := keepB hW hb
          replace hA := keepH hb hA
          replace hF := keepH hb hF
          have hH := hS'.out _ hX
          clear hb
          refine hK.out _ _ ?_ (fun hHeld => ?_)
          · with_reducible exact hH
          clear hK K hH
          try simp only [List.getElem_toArray, List.getElem_cons_succ, List.getElem_cons_zero]
          try simp only [Act.put, List.setIfInBounds_toArray, List.set_cons_zero, List.set_cons_succ]
          refine wpAnyH_ready (rs := [2]) (by kernel_rfl) (by simp) (AllReadyH.cons rfl (fun K hK => ?_) AllReadyH.nil)
          · obtain ⟨A1, ca1, wm, hr, hB, hg⟩ := put_log (base := w4.heap.size) hA hgA (HL.out _ (keepB hB4 hW)) (by omega)
            refine step_append_known rfl _ _ 22 22 rfl (.slice (some ⟨gA, 0, none⟩) 0 0) (.slice A es.length c) (by simp [Act.eval]) (by simp [Act.eval]) hr ?_
            replace hX := keepG hg hX (fun e => by injection e; omega)
            replace hC := keepG hg hC (fun e => ne_heap hA hC (by simp) (Option.some.inj e))
            replace hF := keepG hg hF (fun e => ne_heap hA hF (by simp) (Option.some.inj e))
            replace hW := hW.trans (below_grow (B := w4.heap.size) hg (fun q h1 e => by injection e; omega) hW.size)
            have hH := hS'.out _ hX
            clear hr hg hA hgA
            refine hK.out _ _ ?_ (fun hHeld => ?_)
            · with_reducible exact hH
            clear hK K hH
            try simp only [List.getElem_toArray, List.getElem_cons_succ, List.getElem_cons_zero]
            try simp only [Act.put, List.setIfInBounds_toArray, List.set_cons_zero, List.set_cons_succ]
            refine wpAnyH_ready (rs := [5]) (by kernel_rfl) (by simp) (AllReadyH.cons rfl (fun K hK => ?_) AllReadyH.nil)
            · obtain ⟨A2, ca2, wm, hr, hD', hg, -⟩ := run_append_es hB (es_heap (es := [⟨z0, z1, z2, z3, z4, z5⟩]) hC (by simp [ecs, En.l, Od.l]) (by simp)) hW.size (by simp; omega)
              simp only [List.length_cons, List.length_nil] at hr hD'
              refine step_append_known rfl _ _ 22 22 rfl (.slice A1 es.length ca1) (.slice (some ⟨gC, 0, none⟩) 1 1) (by simp [Act.eval]) (by simp [Act.eval]) hr ?_
              replace hX := keepG hg hX (fun e => by have := (World.ownsRow.lt hB _ e).1; omega)
              replace hF := keepG hg hF (own_ne_state hB hF)
              replace hW := hW.trans (below_grow (B := w4.heap.size) hg (fun q h1 e => by have := (World.ownsRow.lt hB _ e).1; omega) hW.size)
              have hD := own_es (es := es ++ [⟨z0, z1, z2, z3, z4, z5⟩]) (by rw [ecs_append]; simpa using hD') (by simp; omega)
              have hH := hS'.out _ hX
              clear hr hg hB hC hD'
              refine hK.out _ _ ?_ (fun hHeld => ?_)
              · with_reducible exact hH
              clear hK K hH
              try simp only [List.getElem_toArray, List.getElem_cons_succ, List.getElem_cons_zero]
              try simp only [Act.put, List.setIfInBounds_toArray, List.set_cons_zero, List.set_cons_succ]
              refine wpAnyH_ready (rs := [6]) (by kernel_rfl) (by simp) (AllReadyH.cons rfl (fun K hK => ?_) AllReadyH.nil)
              · go_simp
                refine (H2.out _ (keepB hB4 hW) _ hD).mono ?_
                rintro e wm ⟨g2, rfl, hE, hg2a, hg2b, hb⟩
                have hg4 : w4.heap.size ≤ g2 := Nat.le_trans hW.size hg2a
                obtain ⟨lo, hi, hE, hlo, hhi, hge⟩ := ocs_bounds hE
                have hsep : gF < lo ∨ hi ≤ gF := .inl (by rw [hlo]; exact lt_of_block hF)
                replace hlo : w4.heap.size ≤ lo := by rw [hlo]; exact hW.size
                replace hX := keepH hb hX
                replace hW := keepB hW hb
                replace hF := keepH hb hF
                have hH := hS'.out _ hX
                clear hb hD hge hg2a hg2b
                go_wp2_with fail
                refine hK.out _ _ ?_ (fun hHeld => ?_)
                · with_reducible exact hH
                clear hK K hH
                try simp only [List.getElem_toArray, List.getElem_cons_succ, List.getElem_cons_zero]
                try simp only [Act.put, List.setIfInBounds_toArray, List.set_cons_zero, List.set_cons_succ]
                refine wpAnyH_take (i := 7) (v := ?_) rfl (by kernel_rfl) (by kernel_rfl) (by kernel_rfl) (fun _ _ _ h => h) (Or.inl ⟨by rfl, ?_⟩) (by assumption) ?_
                rotate_left
                · intro X hX
                  go_simp
                  try with_reducible rfl
                try simp only [List.getElem_toArray, List.getElem_cons_succ, List.getElem_cons_zero]
                try simp only [Act.put, List.setIfInBounds_toArray, List.set_cons_zero, List.set_cons_succ]
                refine wpAnyH_take (i := 8) (v := ?_) rfl (by kernel_rfl) (by kernel_rfl) (by kernel_rfl) (fun _ _ _ h => h) (Or.inl ⟨by rfl, ?_⟩) (by assumption) ?_
                rotate_left
                · intro X hX
                  go_simp
                  try with_reducible rfl
                try simp only [List.getElem_toArray, List.getElem_cons_succ, List.getElem_cons_zero]
                try simp only [Act.put, List.setIfInBounds_toArray, List.set_cons_zero, List.set_cons_succ]
                refine wpAnyH_take (i := 9) (v := ?_) rfl (by kernel_rfl) (by kernel_rfl) (by kernel_rfl) (fun _ _ _ h => h) (Or.inl ⟨by rfl, ?_⟩) (by assumption) ?_
                rotate_left
                · intro X hX
                  go_simp
                  try with_reducible rfl
                try simp only [List.getElem_toArray, List.getElem_cons_succ, List.getElem_cons_zero]
                try simp only [Act.put, List.setIfInBounds_toArray, List.set_cons_zero, List.set_cons_succ]
                refine wpAnyH_ready (rs := [11]) (by kernel_rfl) (by simp) (AllReadyH.cons rfl (fun K hK => ?_) AllReadyH.nil)
                · obtain ⟨wm, HST, hG, hbl, hzz, hoth⟩ := st_store (n := w4.heap.size) T2.tag T2.cl T2.sum T2.ver hF rfl hgF
                  refine step_store_known rfl 25 _ _ rfl ⟨gF, 0, none⟩ (.agg #[.int .i64 T2.tag, .bool T2.cl, .int .i64 T2.sum, .int .i64 T2.ver]) (by simp [Act.eval]) (by simp [Act.eval]) HST ?_
                  replace hX := (hoth _ (by omega)).trans hX
                  replace hW := hW.trans hbl
                  replace hE := hE.keep (fun q h1 h2 => hoth q (by rcases hsep with h | h <;> omega)) (Nat.le_refl _) (Nat.le_refl _)
                  replace hhi : hi ≤ wm.heap.size := by omega
                  have hH := hS'.out _ hX
                  clear HST hbl hzz hoth hF hsep
                  refine hK.out _ _ ?_ (fun hHeld => ?_)
                  · with_reducible exact hH
                  clear hK K hH
                  try simp only [List.getElem_toArray, List.getElem_cons_succ, List.getElem_cons_zero]
                  try simp only [Act.put]
                  refine wpAnyH_take (i := 12) (v := ?_) rfl (by kernel_rfl) (by kernel_rfl) (by kernel_rfl) (fun _ _ _ h => h) (Or.inl ⟨by rfl, ?_⟩) (by assumption) ?_
                  rotate_left
                  · intro X hX
                    go_simp
                    try with_reducible rfl
                  try simp only [List.getElem_toArray, List.getElem_cons_succ, List.getElem_cons_zero]
                  try simp only [Act.put, List.setIfInBounds_toArray, List.set_cons_zero, List.set_cons_succ]
                  refine wpAnyH_done (by kernel_rfl) ?_ _
                  go_wp2_with fail
                  go_meet
                  case rel => exact ⟨gF, g2, rfl, rfl, Lib.hid hG, Lib.hid (hE.keep (fun _ _ _ => rfl) hlo hhi), Lib.hid hW, hgF, hg4⟩
      · refine step_build_new rfl 22 1 _ #[(0, .agg #[.int .i64 z0, .int .i64 z1, .int .i64 z2, .int .i64 z3, .int .i64 z4, .int .i64 z5])] rfl (by simp [Act.eval]) #[.int .i64 z0, .int .i64 z1, .int .i64 z2, .int .i64 z3, .int .i64 z4, .int .i64 z5] 45 (build1_run ⟨z0, z1, z2, z3, z4, z5⟩) ?_
        intro gC wn hC hgC hb
        clear hgC
        replace hX := keepH hb hX
        replace hW := keepB hW hb
        replace hF := keepH hb hF
        have hH := hS'.out _ hX
        clear hb
        refine hK.out _ _ ?_ (fun hHeld => ?_)
        · with_reducible exact hH
        clear hK K hH
        try simp only [List.getElem_toArray, List.getElem_cons_succ, List.getElem_cons_zero]
        try simp only [Act.put, List.setIfInBounds_toArray, List.set_cons_zero, List.set_cons_succ]
        refine wpAnyH_ready (rs := [0]) (by kernel_rfl) (by simp) (AllReadyH.cons rfl (fun K hK => ?_) AllReadyH.nil)
        · refine step_build_new rfl 22 0 #[] #[] rfl (by simp) #[] 45 build0_run ?_
          intro gA wn hA hgA hb
          replace hgA : w4.heap.size ≤ gA := Nat.le_trans hW.size hgA
          replace hX := keepH hb hX
          replace hW := keepB hW hb
          replace hC := keepH hb hC
          replace hF := keepH hb hF
          have hH := hS'.out _ hX
          clear hb
          refine hK.out _ _ ?_ (fun hHeld => ?_)
          · with_reducible exact hH
          clear hK K hH
          try simp only [List.getElem_toArray, List.getElem_cons_zero]
          try simp only [Act.put, List.setIfInBounds_toArray, List.set_cons_zero, List.set_cons_succ]
          refine wpAnyH_ready (rs := [2]) (by kernel_rfl) (by simp) (AllReadyH.cons rfl (fun K hK => ?_) AllReadyH.nil)
          · obtain ⟨A1, ca1, wm, hr, hB, hg⟩ := put_log (base := w4.heap.size) hA hgA (HL.out _ (keepB hB4 hW)) (by omega)
            refine step_append_known rfl _ _ 22 22 rfl (.slice (some ⟨gA, 0, none⟩) 0 0) (.slice A es.length c) (by simp [Act.eval]) (by simp [Act.eval]) hr ?_
            replace hX := keepG hg hX (fun e => by injection e; omega)
            replace hC := keepG hg hC (fun e => ne_heap hA hC (by simp) (Option.some.inj e))
            replace hF := keepG hg hF (fun e => ne_heap hA hF (by simp) (Option.some.inj e))
            replace hW := hW.trans (below_grow (B := w4.heap.size) hg (fun q h1 e => by injection e; omega) hW.size)
            have hH := hS'.out _ hX
            clear hr hg hA hgA
            refine hK.out _ _ ?_ (fun hHeld => ?_)
            · with_reducible exact hH
            clear hK K hH
            try simp only [List.getElem_toArray, List.getElem_cons_succ, List.getElem_cons_zero]
            try simp only [Act.put, List.setIfInBounds_toArray, List.set_cons_zero, List.set_cons_succ]
            refine wpAnyH_ready (rs := [5]) (by kernel_rfl) (by simp) (AllReadyH.cons rfl (fun K hK => ?_) AllReadyH.nil)
            · obtain ⟨A2, ca2, wm, hr, hD', hg, -⟩ := run_append_es hB (es_heap (es := [⟨z0, z1, z2, z3, z4, z5⟩]) hC (by simp [ecs, En.l, Od.l]) (by simp)) hW.size (by simp; omega)
              simp only [List.length_cons, List.length_nil] at hr hD'
              refine step_append_known rfl _ _ 22 22 rfl (.slice A1 es.length ca1) (.slice (some ⟨gC, 0, none⟩) 1 1) (by simp [Act.eval]) (by simp [Act.eval]) hr ?_
              replace hX := keepG hg hX (fun e => by have := (World.ownsRow.lt hB _ e).1; omega)
              replace hF := keepG hg hF (own_ne_state hB hF)
              replace hW := hW.trans (below_grow (B := w4.heap.size) hg (fun q h1 e => by have := (World.ownsRow.lt hB _ e).1; omega) hW.size)
              have hD := own_es (es := es ++ [⟨z0, z1, z2, z3, z4, z5⟩]) (by rw [ecs_append]; simpa using hD') (by simp; omega)
              have hH := hS'.out _ hX
              clear hr hg hB hC hD'
              refine hK.out _ _ ?_ (fun hHeld => ?_)
              · with_reducible exact hH
              clear hK K hH
              try simp only [List.getElem_toArray, List.getElem_cons_succ, List.getElem_cons_zero]
              try simp only [Act.put, List.setIfInBounds_toArray, List.set_cons_zero, List.set_cons_succ]
              refine wpAnyH_ready (rs := [6]) (by kernel_rfl) (by simp) (AllReadyH.cons rfl (fun K hK => ?_) AllReadyH.nil)
              · go_simp
                refine (H2.out _ (keepB hB4 hW) _ hD).mono ?_
                rintro e wm ⟨g2, rfl, hE, hg2a, hg2b, hb⟩
                have hg4 : w4.heap.size ≤ g2 := Nat.le_trans hW.size hg2a
                obtain ⟨lo, hi, hE, hlo, hhi, hge⟩ := ocs_bounds hE
                have hsep : gF < lo ∨ hi ≤ gF := .inl (by rw [hlo]; exact lt_of_block hF)
                replace hlo : w4.heap.size ≤ lo := by rw [hlo]; exact hW.size
                replace hX := keepH hb hX
                replace hW := keepB hW hb
                replace hF := keepH hb hF
                have hH := hS'.out _ hX
                clear hb hD hge hg2a hg2b
                go_wp2_with fail
                refine hK.out _ _ ?_ (fun hHeld => ?_)
                · with_reducible exact hH
                clear hK K hH
                try simp only [List.getElem_toArray, List.getElem_cons_succ, List.getElem_cons_zero]
                try simp only [Act.put, List.setIfInBounds_toArray, List.set_cons_zero, List.set_cons_succ]
                refine wpAnyH_take (i := 7) (v := ?_) rfl (by kernel_rfl) (by kernel_rfl) (by kernel_rfl) (fun _ _ _ h => h) (Or.inl ⟨by rfl, ?_⟩) (by assumption) ?_
                rotate_left
                · intro X hX
                  go_simp
                  try with_reducible rfl
                try simp only [List.getElem_toArray, List.getElem_cons_succ, List.getElem_cons_zero]
                try simp only [Act.put, List.setIfInBounds_toArray, List.set_cons_zero, List.set_cons_succ]
                refine wpAnyH_take (i := 8) (v := ?_) rfl (by kernel_rfl) (by kernel_rfl) (by kernel_rfl) (fun _ _ _ h => h) (Or.inl ⟨by rfl, ?_⟩) (by assumption) ?_
                rotate_left
                · intro X hX
                  go_simp
                  try with_reducible rfl
                try simp only [List.getElem_toArray, List.getElem_cons_succ, List.getElem_cons_zero]
                try simp only [Act.put, List.setIfInBounds_toArray, List.set_cons_zero, List.set_cons_succ]
                refine wpAnyH_take (i := 9) (v := ?_) rfl (by kernel_rfl) (by kernel_rfl) (by kernel_rfl) (fun _ _ _ h => h) (Or.inl ⟨by rfl, ?_⟩) (by assumption) ?_
                rotate_left
                · intro X hX
                  go_simp
                  try with_reducible rfl
                try simp only [List.getElem_toArray, List.getElem_cons_succ, List.getElem_cons_zero]
                try simp only [Act.put, List.setIfInBounds_toArray, List.set_cons_zero, List.set_cons_succ]
                refine wpAnyH_ready (rs := [11]) (by kernel_rfl) (by simp) (AllReadyH.cons rfl (fun K hK => ?_) AllReadyH.nil)
                · obtain ⟨wm, HST, hG, hbl, hzz, hoth⟩ := st_store (n := w4.heap.size) T2.tag T2.cl T2.sum T2.ver hF rfl hgF
                  refine step_store_known rfl 25 _ _ rfl ⟨gF, 0, none⟩ (.agg #[.int .i64 T2.tag, .bool T2.cl, .int .i64 T2.sum, .int .i64 T2.ver]) (by simp [Act.eval]) (by simp [Act.eval]) HST ?_
                  replace hX := (hoth _ (by omega)).trans hX
                  replace hW := hW.trans hbl
                  replace hE := hE.keep (fun q h1 h2 => hoth q (by rcases hsep with h | h <;> omega)) (Nat.le_refl _) (Nat.le_refl _)
                  replace hhi : hi ≤ wm.heap.size := by omega
                  have hH := hS'.out _ hX
                  clear HST hbl hzz hoth hF hsep
                  refine hK.out _ _ ?_ (fun hHeld => ?_)
                  · with_reducible exact hH
                  clear hK K hH
                  try simp only [List.getElem_toArray, List.getElem_cons_succ, List.getElem_cons_zero]
                  try simp only [Act.put]
                  refine wpAnyH_take (i := 12) (v := ?_) rfl (by kernel_rfl) (by kernel_rfl) (by kernel_rfl) (fun _ _ _ h => h) (Or.inl ⟨by rfl, ?_⟩) (by assumption) ?_
                  rotate_left
                  · intro X hX
                    go_simp
                    try with_reducible rfl
                  try simp only [List.getElem_toArray, List.getElem_cons_succ, List.getElem_cons_zero]
                  try simp only [Act.put, List.setIfInBounds_toArray, List.set_cons_zero, List.set_cons_succ]
                  refine wpAnyH_done (by kernel_rfl) ?_ _
                  go_wp2_with fail
                  go_meet
                  case rel => exact ⟨gF, g2, rfl, rfl, Lib.hid hG, Lib.hid (hE.keep (fun _ _ _ => rfl) hlo hhi), Lib.hid hW, hgF, hg4⟩
  case rest =>
    obtain ⟨gF, g2, rfl, rfl, hG', hO', hW', hgF4, hg24⟩ := hcut
    generalize wc = w5 at *
    have hG := hG'.out
    have hO := hO'.out
    rw [q1.out] at hG
    rw [q2.out] at hO
    have hs5 := hW'.out.size
    have h_s5 := keepH hW'.out h_s4
    have h_x5 := keepH hW'.out h_x4
    have hB5 := keepB hB4 hW'.out
    obtain ⟨gq, cq, hv, -, hgl, hoc⟩ := OcsB.cells hO (k := es.length) (by simp; omega)
    injection hv with e1 e2 e3
    injection e1 with e1
    injection e1 with e1
    subst e1
    clear e2 e3
    rw [List.getElem_append_right (by omega)] at hoc
    simp only [hol, Nat.sub_self, List.getElem_cons_zero] at hoc
    obtain ⟨V1, m0, m1, m2, m3⟩ := hoc
    rw [Nat.zero_add] at m0 m1 m2
    have hgF : gF < w5.heap.size := lt_of_block hG
    clear hG' hO' hO H2 HL q1 q2 h_s4 h_x4
    have HAP' := HAP
    generalize hT : apps (foldL es).1 (decide_ (foldL es).1 ⟨z1, z2, z3, z4, z5⟩).evs = T at *
    generalize hr : decide_ (foldL es).1 ⟨z1, z2, z3, z4, z5⟩ = r at *
    generalize (foldL es).1 = S0 at *
    clear hT hr
    obtain ⟨t, cl, y, v⟩ := S0
    obtain ⟨t', cl', y', v'⟩ := T
    obtain ⟨rc, rv, re⟩ := r
    dsimp only [St.v] at *
    have x1 : w5.cell? ⟨w.heap.size, 1, none⟩ = some (.int .i64 z1) := by rw [Lib.cell_of_heap h_x5]; rfl
    have x2 : w5.cell? ⟨w.heap.size, 2, none⟩ = some (.int .i64 z2) := by rw [Lib.cell_of_heap h_x5]; rfl
    have x3 : w5.cell? ⟨w.heap.size, 3, none⟩ = some (.int .i64 z3) := by rw [Lib.cell_of_heap h_x5]; rfl
    have x4 : w5.cell? ⟨w.heap.size, 4, none⟩ = some (.int .i64 z4) := by rw [Lib.cell_of_heap h_x5]; rfl
    have x5 : w5.cell? ⟨w.heap.size, 5, none⟩ = some (.int .i64 z5) := by rw [Lib.cell_of_heap h_x5]; rfl
    have s0 : w5.cell? ⟨w3.heap.size, 0, none⟩ = some (.int .i64 t) := by rw [Lib.cell_of_heap h_s5]; rfl
    have s1 : w5.cell? ⟨w3.heap.size, 1, none⟩ = some (.bool cl) := by rw [Lib.cell_of_heap h_s5]; rfl
    have s2 : w5.cell? ⟨w3.heap.size, 2, none⟩ = some (.int .i64 y) := by rw [Lib.cell_of_heap h_s5]; rfl
    have s3 : w5.cell? ⟨w3.heap.size, 3, none⟩ = some (.int .i64 v) := by rw [Lib.cell_of_heap h_s5]; rfl
    have hnn : (es.length : Int) < (es.length : Int) + 1 := by omega
    go_wp2_with fail
    refine (HD.out _ (HA.out.keep hB5)).mono ?_
    rintro e w6 ⟨V2, rfl, hE2, hb6⟩
    clear x1 x2 x3 x4 x5 s0 s1 s2 s3
    have hs6 := hb6.size
    have h_s6 := keepH hb6 h_s5
    have h_t6 := keepH hb6 hG
    have hB6 := keepB hB5 hb6
    have m0 := keepC hb6 m0
    have m1 := keepC hb6 m1
    have m2 := keepC hb6 m2
    have m3 := m3.keep (w' := w6) (fun q _ hq => hb6.block q hq) (Nat.le_refl _) hs6
    clear h_s5 h_x5 hG hW' HD
    rcases hap.out with ⟨he, hs'⟩ | ⟨ev, he, hlt', -, -, hs'⟩ <;> (change re = _ at he; subst he)
    · obtain rfl := hE2.nil
      obtain rfl : V1 = .slice none 0 0 := by
        rcases m3 with ⟨_, h⟩ | ⟨e, q, h, _⟩
        · exact h
        · cases h
      injection hs' with e1 e2 e3 e4
      subst e1 e2 e3 e4
      clear hap m3 hE2 HAP HAP'
      obtain ⟨w7, HX7⟩ : ∃ W : World, Hid (W = w6.alloc (.cells #[.int .i64 rc, .int .i64 rv, .slice none 0 0] 33)) := ⟨_, Lib.hid rfl⟩
      have h_b7 : w7.heap[w6.heap.size]? = some (.cells #[.int .i64 rc, .int .i64 rv, .slice none 0 0] 33 (0, 0)) := by rw [HX7.out]; exact heap_alloc_new _ _
      have hb7 : Below w6.heap.size w6 w7 := by rw [HX7.out]; exact (Below.refl _ _).alloc (Nat.le_refl _) _
      have hBn := keepB hB6 hb7
      have m0 := keepC hb7 m0
      have m1 := keepC hb7 m1
      have m2 := keepC hb7 m2
      have h_s7 := keepH hb7 h_s6
      have h_t7 := keepH hb7 h_t6
      have s0 : w7.cell? ⟨w3.heap.size, 0, none⟩ = some (.int .i64 t') := by rw [Lib.cell_of_heap h_s7]; rfl
      have u0 : w7.cell? ⟨gF, 0, none⟩ = some (.int .i64 t') := by rw [Lib.cell_of_heap h_t7]; rfl
      have s1 : w7.cell? ⟨w3.heap.size, 1, none⟩ = some (.bool cl') := by rw [Lib.cell_of_heap h_s7]; rfl
      have u1 : w7.cell? ⟨gF, 1, none⟩ = some (.bool cl') := by rw [Lib.cell_of_heap h_t7]; rfl
      have s2 : w7.cell? ⟨w3.heap.size, 2, none⟩ = some (.int .i64 y') := by rw [Lib.cell_of_heap h_s7]; rfl
      have u2 : w7.cell? ⟨gF, 2, none⟩ = some (.int .i64 y') := by rw [Lib.cell_of_heap h_t7]; rfl
      have s3 : w7.cell? ⟨w3.heap.size, 3, none⟩ = some (.int .i64 v') := by rw [Lib.cell_of_heap h_s7]; rfl
      have u3 : w7.cell? ⟨gF, 3, none⟩ = some (.int .i64 v') := by rw [Lib.cell_of_heap h_t7]; rfl
      have b0 : w7.cell? ⟨w6.heap.size, 0, none⟩ = some (.int .i64 rc) := by rw [Lib.cell_of_heap h_b7]; rfl
      have b1 : w7.cell? ⟨w6.heap.size, 1, none⟩ = some (.int .i64 rv) := by rw [Lib.cell_of_heap h_b7]; rfl
      have b2 : w7.cell? ⟨w6.heap.size, 2, none⟩ = some (.slice none 0 0) := by rw [Lib.cell_of_heap h_b7]; rfl
      have HS : Hid (∀ X : World, Below w7.heap.size w7 X → Calls Tryd.prog 19 #[.agg #[.int .i64 rc, .int .i64 rv, .slice none 0 0], .agg #[.int .i64 rc, .int .i64 rv, .slice none 0 0]] X (NumPost (.bool true) X)) := Lib.hid fun X _ => same_nil _ _ X
      clear h_s6 h_t6 hb6 hb7
      go_wp2_with (rw [← HX7.out])
      refine wp_loop_rounds 1 ?_
      rw [rounds_succ]
      go_wp2_with fail
      have k_m0 : ∀ d' os, (grow (redrawn w7 d') os).cell? ⟨g2, es.length * 3, none⟩ = some (.int .i64 rc) := fun d' os => cell_regrown m0 d' os
      have k_m1 : ∀ d' os, (grow (redrawn w7 d') os).cell? ⟨g2, es.length * 3 + 1, none⟩ = some (.int .i64 rv) := fun d' os => cell_regrown m1 d' os
      have k_m2 : ∀ d' os, (grow (redrawn w7 d') os).cell? ⟨g2, es.length * 3 + 2, none⟩ = some (.slice none 0 0) := fun d' os => cell_regrown m2 d' os
      have k_b0 : ∀ d' os, (grow (redrawn w7 d') os).cell? ⟨w6.heap.size, 0, none⟩ = some (.int .i64 rc) := fun d' os => cell_regrown b0 d' os
      have k_b1 : ∀ d' os, (grow (redrawn w7 d') os).cell? ⟨w6.heap.size, 1, none⟩ = some (.int .i64 rv) := fun d' os => cell_regrown b1 d' os
      have k_b2 : ∀ d' os, (grow (redrawn w7 d') os).cell? ⟨w6.heap.size, 2, none⟩ = some (.slice none 0 0) := fun d' os => cell_regrown b2 d' os
      have k_s0 : ∀ d' os, (grow (redrawn w7 d') os).cell? ⟨w3.heap.size, 0, none⟩ = some (.int .i64 t') := fun d' os => cell_regrown s0 d' os
      have k_s1 : ∀ d' os, (grow (redrawn w7 d') os).cell? ⟨w3.heap.size, 1, none⟩ = some (.bool cl') := fun d' os => cell_regrown s1 d' os
      have k_s2 : ∀ d' os, (grow (redrawn w7 d') os).cell? ⟨w3.heap.size, 2, none⟩ = some (.int .i64 y') := fun d' os => cell_regrown s2 d' os
      have k_s3 : ∀ d' os, (grow (redrawn w7 d') os).cell? ⟨w3.heap.size, 3, none⟩ = some (.int .i64 v') := fun d' os => cell_regrown s3 d' os
      have k_u0 : ∀ d' os, (grow (redrawn w7 d') os).cell? ⟨gF, 0, none⟩ = some (.int .i64 t') := fun d' os => cell_regrown u0 d' os
      have k_u1 : ∀ d' os, (grow (redrawn w7 d') os).cell? ⟨gF, 1, none⟩ = some (.bool cl') := fun d' os => cell_regrown u1 d' os
      have k_u2 : ∀ d' os, (grow (redrawn w7 d') os).cell? ⟨gF, 2, none⟩ = some (.int .i64 y') := fun d' os => cell_regrown u2 d' os
      have k_u3 : ∀ d' os, (grow (redrawn w7 d') os).cell? ⟨gF, 3, none⟩ = some (.int .i64 v') := fun d' os => cell_regrown u3 d' os
      have q1 : ∀ d' os, Calls Tryd.prog 19 #[.agg #[.int .i64 rc, .int .i64 rv, .slice none 0 0], .agg #[.int .i64 rc, .int .i64 rv, .slice none 0 0]] (grow (redrawn w7 d') os) fun e w'' => e = .returned (.bool true) ∧ ∃ p : Regrown, w'' = grow (redrawn w7 p.d) p.os := fun d' os => Calls.regrown_of (HS.out _ (below_regrown w7 d' os))
      have q2 : ∀ d' os, Calls Tryd.prog 15 #[] (grow (redrawn w7 d') os) fun e w'' => e = .returned (.bool true) ∧ ∃ p : Regrown, w'' = grow (redrawn w7 p.d) p.os := fun d' os => Calls.regrown_of (HW.out _ (keepB hBn (below_regrown w7 d' os)))
      clear m0 m1 m2 b0 b1 b2 s0 s1 s2 s3 u0 u1 u2 u3
      refine wp_region_quiet_below (by kernel_rfl) (by kernel_rfl) ?_
      repeat (go_big_quiet_step (first | (with_reducible exact q1 _ _) | (with_reducible exact q2 _ _)))
      refine wpQuiet_nil ?_
      intro _ hw'
      obtain ⟨⟨dq, osq⟩, hw''⟩ := hw'
      subst hw''
      have hbq := below_regrown w7 dq osq
      generalize grow (redrawn w7 dq) osq = wz at *
      clear k_m0 k_m1 k_m2 k_b0 k_b1 k_b2 k_s0 k_s1 k_s2 k_s3 k_u0 k_u1 k_u2 k_u3 q1 q2
      go_wp2_with fail
      go_ret
      exact ⟨rfl, keepB hBn hbq⟩
    · obtain ⟨qb, rfl, hqb1, hqb2, h_qb⟩ := hE2.one
      obtain ⟨qa, rfl, h_qa⟩ : ∃ q, V1 = .slice (some ⟨q, 0, none⟩) 1 1 ∧ w6.heap[q]? = some (.cells #[.int .i64 ev.k, .int .i64 ev.a] 35 (0, 0)) := by
        rcases m3 with ⟨h, _⟩ | ⟨e, q, h, h1, _, _, h4⟩
        · cases h
        · injection h with h
          subst h
          exact ⟨q, h1, h4⟩
      have HP := HAP.out
      replace HP := fun X => HP X ev
      have ha : app ⟨t, cl, y, v⟩ ev = ⟨t', cl', y', v'⟩ := (app_yes hlt').trans hs'.symm
      rw [ha] at HP
      dsimp only at HP
      obtain ⟨k1, k2⟩ := ev
      dsimp only [Ev.v] at HP h_qa h_qb
      replace HP := Lib.hid HP
      clear hap m3 hE2 HAP HAP' hlt' hs' ha
      obtain ⟨w7, HX7⟩ : ∃ W : World, Hid (W = w6.alloc (.cells #[.int .i64 rc, .int .i64 rv, .slice (some ⟨qb, 0, none⟩) 1 1] 33)) := ⟨_, Lib.hid rfl⟩
      have h_b7 : w7.heap[w6.heap.size]? = some (.cells #[.int .i64 rc, .int .i64 rv, .slice (some ⟨qb, 0, none⟩) 1 1] 33 (0, 0)) := by rw [HX7.out]; exact heap_alloc_new _ _
      have hb7 : Below w6.heap.size w6 w7 := by rw [HX7.out]; exact (Below.refl _ _).alloc (Nat.le_refl _) _
      have hB7 := keepB hB6 hb7
      have m0 := keepC hb7 m0
      have m1 := keepC hb7 m1
      have m2 := keepC hb7 m2
      have h_s7 := keepH hb7 h_s6
      have h_t7 := keepH hb7 h_t6
      have h_qa7 := keepH hb7 h_qa
      have h_qb7 := keepH hb7 h_qb
      have hs7 := hb7.size
      have hl7 : w6.heap.size < w7.heap.size := lt_of_block h_b7
      have hlq : qa < w7.heap.size := lt_of_block h_qa7
      have hlr : qb < w7.heap.size := lt_of_block h_qb7
      have hlg : g2 < w7.heap.size := by omega
      have hlf : gF < w7.heap.size := lt_of_block h_t7
      have s0 : w7.cell? ⟨w3.heap.size, 0, none⟩ = some (.int .i64 t) := by rw [Lib.cell_of_heap h_s7]; rfl
      have s1 : w7.cell? ⟨w3.heap.size, 1, none⟩ = some (.bool cl) := by rw [Lib.cell_of_heap h_s7]; rfl
      have s2 : w7.cell? ⟨w3.heap.size, 2, none⟩ = some (.int .i64 y) := by rw [Lib.cell_of_heap h_s7]; rfl
      have s3 : w7.cell? ⟨w3.heap.size, 3, none⟩ = some (.int .i64 v) := by rw [Lib.cell_of_heap h_s7]; rfl
      have b2 : w7.cell? ⟨w6.heap.size, 2, none⟩ = some (.slice (some ⟨qb, 0, none⟩) 1 1) := by rw [Lib.cell_of_heap h_b7]; rfl
      have r0 : w7.cell? ⟨qb, 0, none⟩ = some (.int .i64 k1) := by rw [Lib.cell_of_heap h_qb7]; rfl
      have r1 : w7.cell? ⟨qb, 1, none⟩ = some (.int .i64 k2) := by rw [Lib.cell_of_heap h_qb7]; rfl
      have fs : ∀ i, w7.frozen? ⟨w3.heap.size, i, none⟩ = false := fun i => Lib.frozen_of_heap h_s7 i
      clear h_s6 h_t6 hb6 hb7 h_qa h_qb
      go_wp2_with (rw [← HX7.out])
      refine wp_loop_rounds 2 ?_
      rw [rounds_succ]
      go_wp2_with fail
      go_region_with ((go_at_call 18; (refine (HP.out _).mono ?_); rintro e w8 ⟨rfl, hb⟩; have h_s8 := (hb.block w3.heap.size (by show w3.heap.size < w7.heap.size; omega)).trans h_s7; have d0 : w8.cell? ⟨w3.heap.size, 0, none⟩ = some (.int .i64 t) := (by rw [Lib.cell_of_heap h_s8]; rfl); have d1 : w8.cell? ⟨w3.heap.size, 1, none⟩ = some (.bool cl) := (by rw [Lib.cell_of_heap h_s8]; rfl); have d2 : w8.cell? ⟨w3.heap.size, 2, none⟩ = some (.int .i64 y) := (by rw [Lib.cell_of_heap h_s8]; rfl); have d3 : w8.cell? ⟨w3.heap.size, 3, none⟩ = some (.int .i64 v) := (by rw [Lib.cell_of_heap h_s8]; rfl); have df : ∀ i, w8.frozen? ⟨w3.heap.size, i, none⟩ = false := (fun i => Lib.frozen_of_heap h_s8 i)))
      all_goals
        have hb8 : Below w7.heap.size w7 w8 := (show Below w7.heap.size w7 w7.drew from (Below.refl _ _).drew).trans hb
        have hs8 : w7.heap.size ≤ w8.heap.size := hb8.size
        clear hb
        obtain ⟨w9, HW9⟩ : ∃ W : World, Hid (W = (((w8.setCell ⟨w3.heap.size, 0, none⟩ (.int .i64 t')).setCell ⟨w3.heap.size, 1, none⟩ (.bool cl')).setCell ⟨w3.heap.size, 2, none⟩ (.int .i64 y')).setCell ⟨w3.heap.size, 3, none⟩ (.int .i64 v')) := ⟨_, Lib.hid rfl⟩
        obtain ⟨h_s9, hb9, hz9, hoth⟩ := set_four (n := w.heap.size) h_s8 (by omega) HW9.out
        rw [← HW9.out]
        have hBn := (keepB hB7 hb8).trans hb9
        have H9 : ∀ q, q < w7.heap.size → q ≠ w3.heap.size → w9.heap[q]? = w7.heap[q]? := fun q h1 h2 => (hoth q h2).trans (hb8.block q h1)
        have m0 := (cell_heap (j := es.length * 3) (H9 g2 hlg (by omega))).trans m0
        have m1 := (cell_heap (j := es.length * 3 + 1) (H9 g2 hlg (by omega))).trans m1
        have m2 := (cell_heap (j := es.length * 3 + 2) (H9 g2 hlg (by omega))).trans m2
        have h_t9 := (H9 gF hlf (by omega)).trans h_t7
        have h_b9 := (H9 w6.heap.size hl7 (by omega)).trans h_b7
        have h_qa9 := (H9 qa hlq (ne_heap h_qa7 h_s7 (by simp))).trans h_qa7
        have h_qb9 := (H9 qb hlr (ne_heap h_qb7 h_s7 (by simp))).trans h_qb7
        have HS : Hid (∀ X : World, Below w9.heap.size w9 X → Calls Tryd.prog 19 #[.agg #[.int .i64 rc, .int .i64 rv, .slice (some ⟨qa, 0, none⟩) 1 1], .agg #[.int .i64 rc, .int .i64 rv, .slice (some ⟨qb, 0, none⟩) 1 1]] X (NumPost (.bool true) X)) := Lib.hid fun X hX => same_one _ _ _ _ _ _ X (keepH hX h_qa9) (keepH hX h_qb9)
        clear HW9 d0 d1 d2 d3 df s0 s1 s2 s3 b2 r0 r1 fs hz9 hb8 hb9 hoth hs8 H9
        have s0 : w9.cell? ⟨w3.heap.size, 0, none⟩ = some (.int .i64 t') := by rw [Lib.cell_of_heap h_s9]; rfl
        have u0 : w9.cell? ⟨gF, 0, none⟩ = some (.int .i64 t') := by rw [Lib.cell_of_heap h_t9]; rfl
        have s1 : w9.cell? ⟨w3.heap.size, 1, none⟩ = some (.bool cl') := by rw [Lib.cell_of_heap h_s9]; rfl
        have u1 : w9.cell? ⟨gF, 1, none⟩ = some (.bool cl') := by rw [Lib.cell_of_heap h_t9]; rfl
        have s2 : w9.cell? ⟨w3.heap.size, 2, none⟩ = some (.int .i64 y') := by rw [Lib.cell_of_heap h_s9]; rfl
        have u2 : w9.cell? ⟨gF, 2, none⟩ = some (.int .i64 y') := by rw [Lib.cell_of_heap h_t9]; rfl
        have s3 : w9.cell? ⟨w3.heap.size, 3, none⟩ = some (.int .i64 v') := by rw [Lib.cell_of_heap h_s9]; rfl
        have u3 : w9.cell? ⟨gF, 3, none⟩ = some (.int .i64 v') := by rw [Lib.cell_of_heap h_t9]; rfl
        have b0 : w9.cell? ⟨w6.heap.size, 0, none⟩ = some (.int .i64 rc) := by rw [Lib.cell_of_heap h_b9]; rfl
        have b1 : w9.cell? ⟨w6.heap.size, 1, none⟩ = some (.int .i64 rv) := by rw [Lib.cell_of_heap h_b9]; rfl
        have b2 : w9.cell? ⟨w6.heap.size, 2, none⟩ = some (.slice (some ⟨qb, 0, none⟩) 1 1) := by rw [Lib.cell_of_heap h_b9]; rfl
        go_wp2_with fail
        rw [rounds_succ]
        go_wp2_with fail
        have k_m0 : ∀ d' os, (grow (redrawn w9 d') os).cell? ⟨g2, es.length * 3, none⟩ = some (.int .i64 rc) := fun d' os => cell_regrown m0 d' os
        have k_m1 : ∀ d' os, (grow (redrawn w9 d') os).cell? ⟨g2, es.length * 3 + 1, none⟩ = some (.int .i64 rv) := fun d' os => cell_regrown m1 d' os
        have k_m2 : ∀ d' os, (grow (redrawn w9 d') os).cell? ⟨g2, es.length * 3 + 2, none⟩ = some (.slice (some ⟨qa, 0, none⟩) 1 1) := fun d' os => cell_regrown m2 d' os
        have k_b0 : ∀ d' os, (grow (redrawn w9 d') os).cell? ⟨w6.heap.size, 0, none⟩ = some (.int .i64 rc) := fun d' os => cell_regrown b0 d' os
        have k_b1 : ∀ d' os, (grow (redrawn w9 d') os).cell? ⟨w6.heap.size, 1, none⟩ = some (.int .i64 rv) := fun d' os => cell_regrown b1 d' os
        have k_b2 : ∀ d' os, (grow (redrawn w9 d') os).cell? ⟨w6.heap.size, 2, none⟩ = some (.slice (some ⟨qb, 0, none⟩) 1 1) := fun d' os => cell_regrown b2 d' os
        have k_s0 : ∀ d' os, (grow (redrawn w9 d') os).cell? ⟨w3.heap.size, 0, none⟩ = some (.int .i64 t') := fun d' os => cell_regrown s0 d' os
        have k_s1 : ∀ d' os, (grow (redrawn w9 d') os).cell? ⟨w3.heap.size, 1, none⟩ = some (.bool cl') := fun d' os => cell_regrown s1 d' os
        have k_s2 : ∀ d' os, (grow (redrawn w9 d') os).cell? ⟨w3.heap.size, 2, none⟩ = some (.int .i64 y') := fun d' os => cell_regrown s2 d' os
        have k_s3 : ∀ d' os, (grow (redrawn w9 d') os).cell? ⟨w3.heap.size, 3, none⟩ = some (.int .i64 v') := fun d' os => cell_regrown s3 d' os
        have k_u0 : ∀ d' os, (grow (redrawn w9 d') os).cell? ⟨gF, 0, none⟩ = some (.int .i64 t') := fun d' os => cell_regrown u0 d' os
        have k_u1 : ∀ d' os, (grow (redrawn w9 d') os).cell? ⟨gF, 1, none⟩ = some (.bool cl') := fun d' os => cell_regrown u1 d' os
        have k_u2 : ∀ d' os, (grow (redrawn w9 d') os).cell? ⟨gF, 2, none⟩ = some (.int .i64 y') := fun d' os => cell_regrown u2 d' os
        have k_u3 : ∀ d' os, (grow (redrawn w9 d') os).cell? ⟨gF, 3, none⟩ = some (.int .i64 v') := fun d' os => cell_regrown u3 d' os
        have q1 : ∀ d' os, Calls Tryd.prog 19 #[.agg #[.int .i64 rc, .int .i64 rv, .slice (some ⟨qa, 0, none⟩) 1 1], .agg #[.int .i64 rc, .int .i64 rv, .slice (some ⟨qb, 0, none⟩) 1 1]] (grow (redrawn w9 d') os) fun e w'' => e = .returned (.bool true) ∧ ∃ p : Regrown, w'' = grow (redrawn w9 p.d) p.os := fun d' os => Calls.regrown_of (HS.out _ (below_regrown w9 d' os))
        have q2 : ∀ d' os, Calls Tryd.prog 15 #[] (grow (redrawn w9 d') os) fun e w'' => e = .returned (.bool true) ∧ ∃ p : Regrown, w'' = grow (redrawn w9 p.d) p.os := fun d' os => Calls.regrown_of (HW.out _ (keepB hBn (below_regrown w9 d' os)))
        clear m0 m1 m2 b0 b1 b2 s0 s1 s2 s3 u0 u1 u2 u3
        refine wp_region_quiet_below (by kernel_rfl) (by kernel_rfl) ?_
        repeat (go_big_quiet_step (first | (with_reducible exact q1 _ _) | (with_reducible exact q2 _ _)))
        refine wpQuiet_nil ?_
        intro _ hw'
        obtain ⟨⟨dq, osq⟩, hw''⟩ := hw'
        subst hw''
        have hbq := below_regrown w9 dq osq
        generalize grow (redrawn w9 dq) osq = wz at *
        clear k_m0 k_m1 k_m2 k_b0 k_b1 k_b2 k_s0 k_s1 k_s2 k_s3 k_u0 k_u1 k_u2 k_u3 q1 q2
        go_wp2_with fail
        go_ret
        exact ⟨rfl, keepB hBn hbq⟩
theorem walk (A : Option Addr) (c : Nat) (es : List En) (x : En) (w : World) (hA : Asked w) (ha : EsB w.heap.size w (.slice A es.length c) es) (hi : ∀ e ∈ es, IntsOk e.l) (hxi : IntsOk x.l) : Calls Tryd.prog 9 #[.slice A es.length c, .agg #[.int .i64 x.ep, .int .i64 x.o.id, .int .i64 x.o.st, .int .i64 x.o.ex, .int .i64 x.o.ki, .int .i64 x.o.ar]] w (fun e w' => e = .returned (.bool true) ∧ Below w.heap.size w w') := by
  by_cases hn : 300 < es.length
  · exact walk_long A c es x w hn
  · cases hf : firstAt es x.o.id with
    | none => exact walk_new A c es x w hA ha hi hxi (by omega) hf
    | some k => exact walk_old A c es x w hA ha (by omega) hf
end Go.Proofs.YtafhjlfnhgkcoaaDoor.foldsNextW
