/-
  The walk of the law RecordsEncode: it returns true and writes nothing that was there.
-/
import Derived.Test.YtkdnhfeamibmdaaDoorRTwin
import Derived.Test.YtkdnhfeamibmdaaDoorRrEnc
import Derived.Test.YtkdnhfeamibmdaaDoorRcSame
import Derived.Test.YtkdnhfeamibmdaaDoorRcWorks
import Derived.Lib.QuietBelow
import Derived.BigQuiet
namespace Go.Proofs.YtkdnhfeamibmdaaDoor.recordsEncodeW
open Go.RowKit Go.Sort
set_option maxRecDepth 100000 in
set_option maxHeartbeats 16000000 in
theorem walk (r : Rec) (A A' : Option Addr) (c c' : Nat) (w : World) (hA : AskR w) (hE : EsB w.heap.size w (.slice A r.es.length c) r.es) (hF : FdB w.heap.size w (.slice A' r.fd.length c') r.fd) (_ : r.ints) :
    Calls Tryd.prog 3 #[.agg #[.int .i64 r.ki, .int .i64 r.st, .int .i64 r.ep, .int .i64 r.vi, .int .i64 r.fr, .int .i64 r.le, .slice A r.es.length c, .slice A' r.fd.length c']] w fun e w' => e = .returned (.bool true) ∧ Below w.heap.size w w' := by
  have hlen : r.es.length ≤ c ∧ c ≤ 9223372036854775807 ∧ r.fd.length ≤ c' ∧ c' ≤ 9223372036854775807 := by
    obtain ⟨_, _, hv, h1, h2, -⟩ := RdB.len hE
    injection hv with e1 e2 e3
    subst e1 e3
    obtain ⟨_, _, hv, k1, k2, -⟩ := RdB.len hF
    injection hv with e1 e2 e3
    subst e1 e3
    unfold maxLen at h2 k2
    omega
  have HLE := Lib.hid (fun X (hX : Below w.heap.size w X) => (RdB.below hE hX (Nat.le_refl _) : EsB _ X (.slice A r.es.length c) r.es))
  have HLF := Lib.hid (fun X (hX : Below w.heap.size w X) => (RdB.below hF hX (Nat.le_refl _) : FdB _ X (.slice A' r.fd.length c') r.fd))
  have HAK := Lib.hid (fun X (hX : Below w.heap.size w X) => hA.keep hX)
  have HG := Lib.hid (fun X => great_any r.ki r.st r.ep r.vi r.fr r.le r.es.length r.fd.length c c' A A' X (by omega) (by omega))
  have HWK := Lib.hid (fun X (hX : Below w.heap.size w X) => recWorks_any (HAK.out X hX))
  have HEN := Lib.hid (fun X (hX : Below w.heap.size w X) {ve vf : Value} (h1 : EsB X.heap.size X ve r.es) (h2 : FdB X.heap.size X vf r.fd) (hn : r.es.length ≤ 500) (hm : r.fd.length ≤ 1000) => recEncode_any r (HAK.out X hX) h1 h2 (by omega) (by omega))
  have HCK := Lib.hid (fun X (hX : Below w.heap.size w X) {ve vf : Value} (h1 : EsB X.heap.size X ve r.es) (h2 : FdB X.heap.size X vf r.fd) (hn : r.es.length ≤ 500) (hm : r.fd.length ≤ 1000) => recCheck_any r (HAK.out X hX) h1 h2 (by omega) (by omega))
  have HRE := Lib.hid (fun X {ve vf : Value} (h1 : EsB X.heap.size X ve r.es) (h2 : FdB X.heap.size X vf r.fd) => rrEnc_any r h1 h2)
  have HRC := Lib.hid (fun X {ve vf : Value} (h1 : EsB X.heap.size X ve r.es) (h2 : FdB X.heap.size X vf r.fd) => rcheckrec_any r h1 h2)
  have HM : Hid (∃ (S : ByteArray) (er : Int), r.encR = .tuple #[.string S, .int .i64 er]) := by
    show ∃ _ _, _
    unfold Rec.encR
    cases r.may
    · exact ⟨_, _, rfl⟩
    · exact ⟨_, _, rfl⟩
  obtain ⟨S, er, hM⟩ := HM.out
  clear hE hF hA HM
  generalize r.encR = ER at *
  subst hM
  generalize r.err = ec at *
  obtain ⟨ki, st, ep, vi, fr, le, es, fd⟩ := r
  dsimp only [Rec.v] at *
  obtain ⟨w0, HX0⟩ : ∃ W : World, Hid (W = w.alloc (.cells #[.int .i64 ki, .int .i64 st, .int .i64 ep, .int .i64 vi, .int .i64 fr, .int .i64 le, .slice A es.length c, .slice A' fd.length c'] 25)) := ⟨_, Lib.hid rfl⟩
  have h_r0 : w0.heap[w.heap.size]? = some (.cells #[.int .i64 ki, .int .i64 st, .int .i64 ep, .int .i64 vi, .int .i64 fr, .int .i64 le, .slice A es.length c, .slice A' fd.length c'] 25 (0, 0)) := by rw [HX0.out]; exact heap_alloc_new _ _
  have hB0 : Below w.heap.size w w0 := by rw [HX0.out]; exact (Below.refl _ _).alloc (Nat.le_refl _) _
  have d0 := cell_at (i := 0) h_r0 rfl
  have d1 := cell_at (i := 1) h_r0 rfl
  have d2 := cell_at (i := 2) h_r0 rfl
  have d3 := cell_at (i := 3) h_r0 rfl
  have d4 := cell_at (i := 4) h_r0 rfl
  have d5 := cell_at (i := 5) h_r0 rfl
  have d6 := cell_at (i := 6) h_r0 rfl
  have d7 := cell_at (i := 7) h_r0 rfl
  obtain ⟨hl1, hl2, hl3, hl4⟩ := hlen
  rcases hgr : (decide (500 < es.length) || decide (1000 < fd.length)) with _ | _
  case true =>
    rw [hgr] at HG
    clear hgr HEN HCK HRE HRC HWK HLE HLF HAK
    go_enter Tryd.func3, Tryd.ntmps3
    go_wp2_with (rw [← HX0.out])
    refine (HG.out _).mono ?_
    rintro e w1 ⟨rfl, hb⟩
    have hB1 := keepB hB0 hb
    clear hb
    go_wp2_with fail
    go_ret
    exact ⟨rfl, hB1⟩
  rw [hgr] at HG
  simp only [Bool.or_eq_false_iff, decide_eq_false_iff_not] at hgr
  obtain ⟨hg1, hg2⟩ := hgr
  replace hg1 : es.length ≤ 500 := by omega
  replace hg2 : fd.length ≤ 1000 := by omega
  have hwr1 : IntKind.i64.wrap ((es.length : Int) + 1) = (es.length : Int) + 1 := IntWalk.i64_in _ (by omega)
  have hwr2 : IntKind.i64.wrap ((fd.length : Int) + 1) = (fd.length : Int) + 1 := IntWalk.i64_in _ (by omega)
  go_enter Tryd.func3, Tryd.ntmps3
  go_wp2_with (rw [← HX0.out])
  refine (HG.out _).mono ?_
  rintro e w1 ⟨rfl, hb⟩
  have hB1 := keepB hB0 hb
  have h_r1 := keepH hb h_r0
  have hz01 : w.heap.size < w1.heap.size := heap_lt h_r1
  clear hb h_r0 hB0 HX0 HG d0 d1 d2 d3 d4 d5 d6 d7
  have d0 := cell_at (i := 0) h_r1 rfl
  have d1 := cell_at (i := 1) h_r1 rfl
  have d2 := cell_at (i := 2) h_r1 rfl
  have d3 := cell_at (i := 3) h_r1 rfl
  have d4 := cell_at (i := 4) h_r1 rfl
  have d5 := cell_at (i := 5) h_r1 rfl
  have d6 := cell_at (i := 6) h_r1 rfl
  have d7 := cell_at (i := 7) h_r1 rfl
  obtain ⟨w2, HX2⟩ : ∃ W : World, Hid (W = w1.alloc (.cells #[.int .i64 ki, .int .i64 st, .int .i64 ep, .int .i64 vi, .int .i64 fr, .int .i64 le, .slice A es.length c, .slice A' fd.length c'] 25)) := ⟨_, Lib.hid rfl⟩
  have h_t2 : w2.heap[w1.heap.size]? = some (.cells #[.int .i64 ki, .int .i64 st, .int .i64 ep, .int .i64 vi, .int .i64 fr, .int .i64 le, .slice A es.length c, .slice A' fd.length c'] 25 (0, 0)) := by rw [HX2.out]; exact heap_alloc_new _ _
  have hb12 : Below w1.heap.size w1 w2 := by rw [HX2.out]; exact (Below.refl _ _).alloc (Nat.le_refl _) _
  have h_r2 := keepH hb12 h_r1
  go_wp2_with (rw [← HX2.out])
  clear d0 d1 d2 d3 d4 d5 d6 d7 h_r1 HX2
  have d6 := cell_at (i := 6) h_r2 rfl
  have d7 := cell_at (i := 7) h_r2 rfl
  have HFS : Hid (∀ X : World, X.heap[w.heap.size]? = some (.cells #[.int .i64 ki, .int .i64 st, .int .i64 ep, .int .i64 vi, .int .i64 fr, .int .i64 le, .slice A es.length c, .slice A' fd.length c'] 25 (0, 0)) → X.cell? ⟨w.heap.size, 6, none⟩ = some (.slice A es.length c) ∧ X.cell? ⟨w.heap.size, 7, none⟩ = some (.slice A' fd.length c')) := Lib.hid fun X h => ⟨cell_at h rfl, cell_at h rfl⟩
  go_upto_region 4 with fail
  go_cut [] (fun wx => ∃ (g2 c2 : Nat), Hid (wx.heap[w.heap.size]? = some (.cells #[.int .i64 ki, .int .i64 st, .int .i64 ep, .int .i64 vi, .int .i64 fr, .int .i64 le, .slice A es.length c, .slice A' fd.length c'] 25 (0, 0))) ∧ Hid (wx.heap[w1.heap.size]? = some (.cells #[.int .i64 ki, .int .i64 st, .int .i64 ep, .int .i64 vi, .int .i64 fr, .int .i64 le, .slice (some ⟨g2, 0, none⟩) es.length c2, .slice A' fd.length c'] 25 (0, 0))) ∧ Hid (TwE (w1.heap.size + 1) wx g2 c2 es) ∧ Hid (Below w1.heap.size w1 wx))
  case first =>
    have hW : Below w1.heap.size w1 w2.drew := hb12.drew
    have hX : w2.drew.heap[w.heap.size]? = some (.cells #[.int .i64 ki, .int .i64 st, .int .i64 ep, .int .i64 vi, .int .i64 fr, .int .i64 le, .slice A es.length c, .slice A' fd.length c'] 25 (0, 0)) := h_r2
    have hT : w2.drew.heap[w1.heap.size]? = some (.cells #[.int .i64 ki, .int .i64 st, .int .i64 ep, .int .i64 vi, .int .i64 fr, .int .i64 le, .slice A es.length c, .slice A' fd.length c'] 25 (0, 0)) := h_t2
    have hS' := HFS
    have hH := hS'.out _ hX
    clear HFS d6 d7 HEN HCK HRE HRC HWK HLF HAK h_r2 h_t2
    refine wp_region_held_drew (S := fun X => X.cell? ⟨w.heap.size, 6, none⟩ = some (.slice A es.length c) ∧ X.cell? ⟨w.heap.size, 7, none⟩ = some (.slice A' fd.length c')) (by kernel_rfl) hH (fun hHeld => ?_)
    clear hH
    refine wpAnyH_take (i := 0) (v := ?_) rfl (by kernel_rfl) (by kernel_rfl) (by kernel_rfl) (fun _ _ _ h => h) (Or.inl ⟨by rfl, ?_⟩) (by assumption) ?_
    rotate_left
    · intro X hX
      go_simp
      try with_reducible rfl
    try simp only [List.getElem_toArray, List.getElem_cons_zero]
    try simp only [Act.put, List.setIfInBounds_toArray, List.set_cons_zero, List.set_cons_succ]
    refine wpAnyH_take (i := 1) (v := .slice A es.length c) rfl (by kernel_rfl) (by kernel_rfl) (by kernel_rfl) (fun _ _ _ h => h) (Or.inl ⟨by rfl, ?_⟩) (by assumption) ?_
    · intro X hX
      obtain ⟨c6, c7⟩ := hX
      go_simp
    try simp only [List.getElem_toArray, List.getElem_cons_succ, List.getElem_cons_zero]
    try simp only [Act.put, List.setIfInBounds_toArray, List.set_cons_zero, List.set_cons_succ]
    refine wpAnyH_take (i := 2) (v := ?_) rfl (by kernel_rfl) (by kernel_rfl) (by kernel_rfl) (fun _ _ _ h => h) (Or.inl ⟨by rfl, ?_⟩) (by assumption) ?_
    rotate_left
    · intro X hX
      go_simp
      try with_reducible rfl
    try simp only [List.getElem_toArray, List.getElem_cons_succ, List.getElem_cons_zero]
    try simp only [Act.put, List.setIfInBounds_toArray, List.set_cons_zero, List.set_cons_succ]
    refine wpAnyH_take (i := 3) (v := ?_) rfl (by kernel_rfl) (by kernel_rfl) (by kernel_rfl) (fun _ _ _ h => h) (Or.inl ⟨by rfl, ?_⟩) (by assumption) ?_
    rotate_left
    · intro X hX
      go_simp
      try with_reducible rfl
    try simp only [List.getElem_toArray, List.getElem_cons_succ, List.getElem_cons_zero]
    try simp only [Act.put, List.setIfInBounds_toArray, List.set_cons_zero, List.set_cons_succ]
    refine wpAnyH_take (i := 5) (v := ?_) rfl (by kernel_rfl) (by kernel_rfl) (by kernel_rfl) (fun _ _ _ h => h) (Or.inl ⟨by rfl, ?_⟩) (by assumption) ?_
    rotate_left
    · intro X hX
      go_simp
      try with_reducible rfl
    try simp only [List.getElem_toArray, List.getElem_cons_succ, List.getElem_cons_zero]
    try simp only [Act.put, List.setIfInBounds_toArray, List.set_cons_zero, List.set_cons_succ]
    refine wpAnyH_take (i := 6) (v := .slice A es.length c) rfl (by kernel_rfl) (by kernel_rfl) (by kernel_rfl) (fun _ _ _ h => h) (Or.inl ⟨by rfl, ?_⟩) (by assumption) ?_
    · intro X hX
      obtain ⟨c6, c7⟩ := hX
      go_simp
    try simp only [List.getElem_toArray, List.getElem_cons_succ, List.getElem_cons_zero]
    try simp only [Act.put, List.setIfInBounds_toArray, List.set_cons_zero, List.set_cons_succ]
    refine wpAnyH_take (i := 8) (v := ?_) rfl (by kernel_rfl) (by kernel_rfl) (by kernel_rfl) (fun _ _ _ h => h) (Or.inl ⟨by rfl, ?_⟩) (by assumption) ?_
    rotate_left
    · intro X hX
      go_simp
      try with_reducible rfl
    try simp only [List.getElem_toArray, List.getElem_cons_succ, List.getElem_cons_zero]
    try simp only [Act.put, List.setIfInBounds_toArray, List.set_cons_zero, List.set_cons_succ]
    refine wpAnyH_take (i := 11) (v := ?_) rfl (by kernel_rfl) (by kernel_rfl) (by kernel_rfl) (fun _ _ _ h => h) (Or.inl ⟨by rfl, ?_⟩) (by assumption) ?_
    rotate_left
    · intro X hX
      go_simp
      try with_reducible rfl
    try simp only [List.getElem_toArray, List.getElem_cons_succ, List.getElem_cons_zero]
    try simp only [Act.put, List.setIfInBounds_toArray, List.set_cons_zero, List.set_cons_succ]
    refine wpAnyH_take (i := 12) (v := .slice A es.length c) rfl (by kernel_rfl) (by kernel_rfl) (by kernel_rfl) (fun _ _ _ h => h) (Or.inl ⟨by rfl, ?_⟩) (by assumption) ?_
    · intro X hX
      obtain ⟨c6, c7⟩ := hX
      go_simp
    try simp only [List.getElem_toArray, List.getElem_cons_succ, List.getElem_cons_zero]
    try simp only [Act.put, List.setIfInBounds_toArray, List.set_cons_zero, List.set_cons_succ]
    refine wpAnyH_take (i := 13) (v := ?_) rfl (by kernel_rfl) (by kernel_rfl) (by kernel_rfl) (fun _ _ _ h => h) (Or.inl ⟨by rfl, ?_⟩) (by assumption) ?_
    rotate_left
    · intro X hX
      go_simp
      try with_reducible rfl
    try simp only [List.getElem_toArray, List.getElem_cons_succ, List.getElem_cons_zero]
    try simp only [Act.put, List.setIfInBounds_toArray, List.set_cons_zero, List.set_cons_succ]
    refine wpAnyH_ready (rs := [4,9]) (by kernel_rfl) (by simp) (AllReadyH.cons rfl (fun K hK => ?_) (AllReadyH.cons rfl (fun K hK => ?_) AllReadyH.nil))
    · refine step_make_new rfl 22 _ _ rfl (es.length + 1) (by simp [Act.eval]) (by simp [Act.eval]) (ezs (es.length + 1)) 30 (fun X => emade_run X (es.length + 1) (by omega)) ?_
      intro gA wn hA hgA hb
      replace hgA : w1.heap.size + 1 ≤ gA := Nat.le_trans (heap_lt hT) hgA
      replace hX := keepH hb hX
      replace hT := keepH hb hT
      replace hW := keepB hW hb
      clear hb
      have hH := hS'.out _ hX
      refine hK.out _ _ ?_ (fun hHeld => ?_)
      · with_reducible exact hH
      clear hK K hH
      try simp only [List.getElem_toArray, List.getElem_cons_succ, List.getElem_cons_zero]
      try simp only [Act.put, List.setIfInBounds_toArray, List.set_cons_zero, List.set_cons_succ]
      refine wpAnyH_ready (rs := [7,9]) (by kernel_rfl) (by simp) (AllReadyH.cons rfl (fun K hK => ?_) (AllReadyH.cons rfl (fun K hK => ?_) AllReadyH.nil))
      · obtain ⟨A1, ca1, wm, hr, hB, hg, -⟩ := run_append_es (emade_heap hA hgA (by omega)) (HLE.out _ (keepB hB1 hW)) (heap_lt hT) (by omega)
        simp only [Nat.zero_add, List.nil_append] at hr hB
        refine step_app_known rfl _ _ 22 22 rfl (.slice (some ⟨gA, 0, none⟩) 0 (es.length + 1)) (.slice A es.length c) (by simp [Act.eval]) (by simp [Act.eval]) hr ?_
        replace hX := keepG hg hX (fun e => by simp [Value.ownBlock] at e; omega)
        replace hT := keepG hg hT (fun e => by simp [Value.ownBlock] at e; omega)
        replace hW := hW.trans (below_grow (B := w1.heap.size) hg (fun q h1 e => by simp [Value.ownBlock] at e; omega) hW.size)
        clear hr hg hA hgA
        have hH := hS'.out _ hX
        refine hK.out _ _ ?_ (fun hHeld => ?_)
        · with_reducible exact hH
        clear hK K hH
        try simp only [List.getElem_toArray, List.getElem_cons_succ, List.getElem_cons_zero]
        try simp only [Act.put, List.setIfInBounds_toArray, List.set_cons_zero, List.set_cons_succ]
        refine wpAnyH_ready (rs := [9]) (by kernel_rfl) (by simp) (AllReadyH.cons rfl (fun K hK => ?_) AllReadyH.nil)
        · refine step_build_new rfl 22 1 _ #[(0, .agg #[.int .i64 (-70), .int .i64 0, .int .i64 0, .int .i64 0, .int .i64 0, .int .i64 0])] rfl (by simp [Act.eval]) #[.int .i64 (-70), .int .i64 0, .int .i64 0, .int .i64 0, .int .i64 0, .int .i64 0] 30 (fun X => bld70_run X) ?_
          intro gC wn hC hgC hb
          replace hX := keepH hb hX
          replace hT := keepH hb hT
          replace hW := keepB hW hb
          replace hB := keepR hb hB
          clear hb hgC
          have hH := hS'.out _ hX
          refine hK.out _ _ ?_ (fun hHeld => ?_)
          · with_reducible exact hH
          clear hK K hH
          try simp only [List.getElem_toArray, List.getElem_cons_succ, List.getElem_cons_zero]
          try simp only [Act.put, List.setIfInBounds_toArray, List.set_cons_zero, List.set_cons_succ]
          refine wpAnyH_ready (rs := [10]) (by kernel_rfl) (by simp) (AllReadyH.cons rfl (fun K hK => ?_) AllReadyH.nil)
          · obtain ⟨A2, ca2, wm, hr, hD, hg, -⟩ := run_append_es hB (es_heap (es := [e70]) hC (by simp [ecs, En.l, Od.l, e70]) (by simp)) (heap_lt hT) (by simp; omega)
            simp only [List.length_cons, List.length_nil, Nat.zero_add] at hr hD
            refine step_app_known rfl _ _ 22 22 rfl (.slice A1 es.length ca1) (.slice (some ⟨gC, 0, none⟩) 1 1) (by simp [Act.eval]) (by simp [Act.eval]) hr ?_
            replace hX := keepG hg hX (fun e => by have := (World.ownsRow.lt hB _ e).1; omega)
            replace hT := keepG hg hT (fun e => by have := (World.ownsRow.lt hB _ e).1; omega)
            replace hW := hW.trans (below_grow (B := w1.heap.size) hg (fun q h1 e => by have := (World.ownsRow.lt hB _ e).1; omega) hW.size)
            obtain ⟨g2, c2, hv, hTW⟩ := tw_own hD (by omega)
            injection hv with e1 _ e3
            subst e1
            obtain rfl : c2 = ca2 := e3.symm
            have hz1 : es.length ≤ c2 := by have := hTW.2.2.2.2.1; omega
            have hz2 : w1.heap.size + 1 ≤ g2 := hTW.2.2.1
            clear hr hg hB hC hD
            have hH := hS'.out _ hX
            refine hK.out _ _ ?_ (fun hHeld => ?_)
            · with_reducible exact hH
            clear hK K hH
            try simp only [List.getElem_toArray, List.getElem_cons_succ, List.getElem_cons_zero]
            try simp only [Act.put, List.setIfInBounds_toArray, List.set_cons_zero, List.set_cons_succ]
            refine wpAnyH_take (i := 14) (v := ?_) rfl (by kernel_rfl) (by kernel_rfl) (by kernel_rfl) (fun _ _ _ h => h) (Or.inl ⟨by rfl, ?_⟩) (by assumption) ?_
            rotate_left
            · intro X hX
              go_simp
              try with_reducible rfl
            try simp only [List.getElem_toArray, List.getElem_cons_succ, List.getElem_cons_zero]
            try simp only [Act.put, List.setIfInBounds_toArray, List.set_cons_zero, List.set_cons_succ]
            refine wpAnyH_take (i := 15) (v := ?_) rfl (by kernel_rfl) (by kernel_rfl) (by kernel_rfl) (fun _ _ _ h => h) (Or.inl ⟨by rfl, ?_⟩) (by assumption) ?_
            rotate_left
            · intro X hX
              go_simp
              try with_reducible rfl
            try simp only [List.getElem_toArray, List.getElem_cons_succ, List.getElem_cons_zero]
            try simp only [Act.put, List.setIfInBounds_toArray, List.set_cons_zero, List.set_cons_succ]
            refine wpAnyH_ready (rs := [16]) (by kernel_rfl) (by simp) (AllReadyH.cons rfl (fun K hK => ?_) AllReadyH.nil)
            · have q := cell_at (i := 6) hT rfl
              have fz := Lib.frozen_of_heap hT 6
              go_simp
              replace hX := set_else (a := ⟨w1.heap.size, 6, none⟩) (u := .slice (some ⟨g2, 0, none⟩) es.length c2) hX (by show _ ≠ w1.heap.size; omega)
              replace hT := heap_set (i := 6) (.slice (some ⟨g2, 0, none⟩) es.length c2) hT
              simp only [Array.set!_eq_setIfInBounds, List.setIfInBounds_toArray, List.set_cons_zero, List.set_cons_succ] at hT
              replace hTW := hTW.far (a := ⟨w1.heap.size, 6, none⟩) (u := .slice (some ⟨g2, 0, none⟩) es.length c2) (by show w1.heap.size < _; omega)
              replace hW := hW.setCell (p := ⟨w1.heap.size, 6, none⟩) (Nat.le_refl _) (.slice (some ⟨g2, 0, none⟩) es.length c2)
              clear q fz
              have hH := hS'.out _ hX
              refine hK.out _ _ ?_ (fun hHeld => ?_)
              · with_reducible exact hH
              clear hK K hH
              try simp only [List.getElem_toArray, List.getElem_cons_succ, List.getElem_cons_zero]
              try simp only [Act.put]
              refine wpAnyH_done (by kernel_rfl) ?_ _
              go_wp2_with fail
              go_meet
              case rel => exact ⟨g2, c2, Lib.hid hX, Lib.hid hT, Lib.hid hTW, Lib.hid hW⟩
      · refine step_build_new rfl 22 1 _ #[(0, .agg #[.int .i64 (-70), .int .i64 0, .int .i64 0, .int .i64 0, .int .i64 0, .int .i64 0])] rfl (by simp [Act.eval]) #[.int .i64 (-70), .int .i64 0, .int .i64 0, .int .i64 0, .int .i64 0, .int .i64 0] 30 (fun X => bld70_run X) ?_
        intro gC wn hC hgC hb
        have hAC : gC ≠ gA := by have := heap_lt hA; omega
        replace hX := keepH hb hX
        replace hT := keepH hb hT
        replace hW := keepB hW hb
        replace hA := keepH hb hA
        clear hb hgC
        have hH := hS'.out _ hX
        refine hK.out _ _ ?_ (fun hHeld => ?_)
        · with_reducible exact hH
        clear hK K hH
        try simp only [List.getElem_toArray, List.getElem_cons_succ, List.getElem_cons_zero]
        try simp only [Act.put, List.setIfInBounds_toArray, List.set_cons_zero, List.set_cons_succ]
        refine wpAnyH_ready (rs := [7]) (by kernel_rfl) (by simp) (AllReadyH.cons rfl (fun K hK => ?_) AllReadyH.nil)
        · obtain ⟨A1, ca1, wm, hr, hB, hg, -⟩ := run_append_es (emade_heap hA hgA (by omega)) (HLE.out _ (keepB hB1 hW)) (heap_lt hT) (by omega)
          simp only [Nat.zero_add, List.nil_append] at hr hB
          refine step_app_known rfl _ _ 22 22 rfl (.slice (some ⟨gA, 0, none⟩) 0 (es.length + 1)) (.slice A es.length c) (by simp [Act.eval]) (by simp [Act.eval]) hr ?_
          replace hC := keepG hg hC (fun e => by simp [Value.ownBlock] at e; omega)
          replace hX := keepG hg hX (fun e => by simp [Value.ownBlock] at e; omega)
          replace hT := keepG hg hT (fun e => by simp [Value.ownBlock] at e; omega)
          replace hW := hW.trans (below_grow (B := w1.heap.size) hg (fun q h1 e => by simp [Value.ownBlock] at e; omega) hW.size)
          clear hr hg hA hgA hAC
          have hH := hS'.out _ hX
          refine hK.out _ _ ?_ (fun hHeld => ?_)
          · with_reducible exact hH
          clear hK K hH
          try simp only [List.getElem_toArray, List.getElem_cons_succ, List.getElem_cons_zero]
          try simp only [Act.put, List.setIfInBounds_toArray, List.set_cons_zero, List.set_cons_succ]
          refine wpAnyH_ready (rs := [10]) (by kernel_rfl) (by simp) (AllReadyH.cons rfl (fun K hK => ?_) AllReadyH.nil)
          · obtain ⟨A2, ca2, wm, hr, hD, hg, -⟩ := run_append_es hB (es_heap (es := [e70]) hC (by simp [ecs, En.l, Od.l, e70]) (by simp)) (heap_lt hT) (by simp; omega)
            simp only [List.length_cons, List.length_nil, Nat.zero_add] at hr hD
            refine step_app_known rfl _ _ 22 22 rfl (.slice A1 es.length ca1) (.slice (some ⟨gC, 0, none⟩) 1 1) (by simp [Act.eval]) (by simp [Act.eval]) hr ?_
            replace hX := keepG hg hX (fun e => by have := (World.ownsRow.lt hB _ e).1; omega)
            replace hT := keepG hg hT (fun e => by have := (World.ownsRow.lt hB _ e).1; omega)
            replace hW := hW.trans (below_grow (B := w1.heap.size) hg (fun q h1 e => by have := (World.ownsRow.lt hB _ e).1; omega) hW.size)
            obtain ⟨g2, c2, hv, hTW⟩ := tw_own hD (by omega)
            injection hv with e1 _ e3
            subst e1
            obtain rfl : c2 = ca2 := e3.symm
            have hz1 : es.length ≤ c2 := by have := hTW.2.2.2.2.1; omega
            have hz2 : w1.heap.size + 1 ≤ g2 := hTW.2.2.1
            clear hr hg hB hC hD
            have hH := hS'.out _ hX
            refine hK.out _ _ ?_ (fun hHeld => ?_)
            · with_reducible exact hH
            clear hK K hH
            try simp only [List.getElem_toArray, List.getElem_cons_succ, List.getElem_cons_zero]
            try simp only [Act.put, List.setIfInBounds_toArray, List.set_cons_zero, List.set_cons_succ]
            refine wpAnyH_take (i := 14) (v := ?_) rfl (by kernel_rfl) (by kernel_rfl) (by kernel_rfl) (fun _ _ _ h => h) (Or.inl ⟨by rfl, ?_⟩) (by assumption) ?_
            rotate_left
            · intro X hX
              go_simp
              try with_reducible rfl
            try simp only [List.getElem_toArray, List.getElem_cons_succ, List.getElem_cons_zero]
            try simp only [Act.put, List.setIfInBounds_toArray, List.set_cons_zero, List.set_cons_succ]
            refine wpAnyH_take (i := 15) (v := ?_) rfl (by kernel_rfl) (by kernel_rfl) (by kernel_rfl) (fun _ _ _ h => h) (Or.inl ⟨by rfl, ?_⟩) (by assumption) ?_
            rotate_left
            · intro X hX
              go_simp
              try with_reducible rfl
            try simp only [List.getElem_toArray, List.getElem_cons_succ, List.getElem_cons_zero]
            try simp only [Act.put, List.setIfInBounds_toArray, List.set_cons_zero, List.set_cons_succ]
            refine wpAnyH_ready (rs := [16]) (by kernel_rfl) (by simp) (AllReadyH.cons rfl (fun K hK => ?_) AllReadyH.nil)
            · have q := cell_at (i := 6) hT rfl
              have fz := Lib.frozen_of_heap hT 6
              go_simp
              replace hX := set_else (a := ⟨w1.heap.size, 6, none⟩) (u := .slice (some ⟨g2, 0, none⟩) es.length c2) hX (by show _ ≠ w1.heap.size; omega)
              replace hT := heap_set (i := 6) (.slice (some ⟨g2, 0, none⟩) es.length c2) hT
              simp only [Array.set!_eq_setIfInBounds, List.setIfInBounds_toArray, List.set_cons_zero, List.set_cons_succ] at hT
              replace hTW := hTW.far (a := ⟨w1.heap.size, 6, none⟩) (u := .slice (some ⟨g2, 0, none⟩) es.length c2) (by show w1.heap.size < _; omega)
              replace hW := hW.setCell (p := ⟨w1.heap.size, 6, none⟩) (Nat.le_refl _) (.slice (some ⟨g2, 0, none⟩) es.length c2)
              clear q fz
              have hH := hS'.out _ hX
              refine hK.out _ _ ?_ (fun hHeld => ?_)
              · with_reducible exact hH
              clear hK K hH
              try simp only [List.getElem_toArray, List.getElem_cons_succ, List.getElem_cons_zero]
              try simp only [Act.put]
              refine wpAnyH_done (by kernel_rfl) ?_ _
              go_wp2_with fail
              go_meet
              case rel => exact ⟨g2, c2, Lib.hid hX, Lib.hid hT, Lib.hid hTW, Lib.hid hW⟩
    · refine step_build_new rfl 22 1 _ #[(0, .agg #[.int .i64 (-70), .int .i64 0, .int .i64 0, .int .i64 0, .int .i64 0, .int .i64 0])] rfl (by simp [Act.eval]) #[.int .i64 (-70), .int .i64 0, .int .i64 0, .int .i64 0, .int .i64 0, .int .i64 0] 30 (fun X => bld70_run X) ?_
      intro gC wn hC hgC hb
      replace hX := keepH hb hX
      replace hT := keepH hb hT
      replace hW := keepB hW hb
      clear hb hgC
      have hH := hS'.out _ hX
      refine hK.out _ _ ?_ (fun hHeld => ?_)
      · with_reducible exact hH
      clear hK K hH
      try simp only [List.getElem_toArray, List.getElem_cons_succ, List.getElem_cons_zero]
      try simp only [Act.put, List.setIfInBounds_toArray, List.set_cons_zero, List.set_cons_succ]
      refine wpAnyH_ready (rs := [4]) (by kernel_rfl) (by simp) (AllReadyH.cons rfl (fun K hK => ?_) AllReadyH.nil)
      · refine step_make_new rfl 22 _ _ rfl (es.length + 1) (by simp [Act.eval]) (by simp [Act.eval]) (ezs (es.length + 1)) 30 (fun X => emade_run X (es.length + 1) (by omega)) ?_
        intro gA wn hA hgA hb
        have hAC : gC ≠ gA := by have := heap_lt hC; omega
        replace hgA : w1.heap.size + 1 ≤ gA := Nat.le_trans (heap_lt hT) hgA
        replace hX := keepH hb hX
        replace hT := keepH hb hT
        replace hW := keepB hW hb
        replace hC := keepH hb hC
        clear hb
        have hH := hS'.out _ hX
        refine hK.out _ _ ?_ (fun hHeld => ?_)
        · with_reducible exact hH
        clear hK K hH
        try simp only [List.getElem_toArray, List.getElem_cons_succ, List.getElem_cons_zero]
        try simp only [Act.put, List.setIfInBounds_toArray, List.set_cons_zero, List.set_cons_succ]
        refine wpAnyH_ready (rs := [7]) (by kernel_rfl) (by simp) (AllReadyH.cons rfl (fun K hK => ?_) AllReadyH.nil)
        · obtain ⟨A1, ca1, wm, hr, hB, hg, -⟩ := run_append_es (emade_heap hA hgA (by omega)) (HLE.out _ (keepB hB1 hW)) (heap_lt hT) (by omega)
          simp only [Nat.zero_add, List.nil_append] at hr hB
          refine step_app_known rfl _ _ 22 22 rfl (.slice (some ⟨gA, 0, none⟩) 0 (es.length + 1)) (.slice A es.length c) (by simp [Act.eval]) (by simp [Act.eval]) hr ?_
          replace hC := keepG hg hC (fun e => by simp [Value.ownBlock] at e; omega)
          replace hX := keepG hg hX (fun e => by simp [Value.ownBlock] at e; omega)
          replace hT := keepG hg hT (fun e => by simp [Value.ownBlock] at e; omega)
          replace hW := hW.trans (below_grow (B := w1.heap.size) hg (fun q h1 e => by simp [Value.ownBlock] at e; omega) hW.size)
          clear hr hg hA hgA hAC
          have hH := hS'.out _ hX
          refine hK.out _ _ ?_ (fun hHeld => ?_)
          · with_reducible exact hH
          clear hK K hH
          try simp only [List.getElem_toArray, List.getElem_cons_succ, List.getElem_cons_zero]
          try simp only [Act.put, List.setIfInBounds_toArray, List.set_cons_zero, List.set_cons_succ]
          refine wpAnyH_ready (rs := [10]) (by kernel_rfl) (by simp) (AllReadyH.cons rfl (fun K hK => ?_) AllReadyH.nil)
          · obtain ⟨A2, ca2, wm, hr, hD, hg, -⟩ := run_append_es hB (es_heap (es := [e70]) hC (by simp [ecs, En.l, Od.l, e70]) (by simp)) (heap_lt hT) (by simp; omega)
            simp only [List.length_cons, List.length_nil, Nat.zero_add] at hr hD
            refine step_app_known rfl _ _ 22 22 rfl (.slice A1 es.length ca1) (.slice (some ⟨gC, 0, none⟩) 1 1) (by simp [Act.eval]) (by simp [Act.eval]) hr ?_
            replace hX := keepG hg hX (fun e => by have := (World.ownsRow.lt hB _ e).1; omega)
            replace hT := keepG hg hT (fun e => by have := (World.ownsRow.lt hB _ e).1; omega)
            replace hW := hW.trans (below_grow (B := w1.heap.size) hg (fun q h1 e => by have := (World.ownsRow.lt hB _ e).1; omega) hW.size)
            obtain ⟨g2, c2, hv, hTW⟩ := tw_own hD (by omega)
            injection hv with e1 _ e3
            subst e1
            obtain rfl : c2 = ca2 := e3.symm
            have hz1 : es.length ≤ c2 := by have := hTW.2.2.2.2.1; omega
            have hz2 : w1.heap.size + 1 ≤ g2 := hTW.2.2.1
            clear hr hg hB hC hD
            have hH := hS'.out _ hX
            refine hK.out _ _ ?_ (fun hHeld => ?_)
            · with_reducible exact hH
            clear hK K hH
            try simp only [List.getElem_toArray, List.getElem_cons_succ, List.getElem_cons_zero]
            try simp only [Act.put, List.setIfInBounds_toArray, List.set_cons_zero, List.set_cons_succ]
            refine wpAnyH_take (i := 14) (v := ?_) rfl (by kernel_rfl) (by kernel_rfl) (by kernel_rfl) (fun _ _ _ h => h) (Or.inl ⟨by rfl, ?_⟩) (by assumption) ?_
            rotate_left
            · intro X hX
              go_simp
              try with_reducible rfl
            try simp only [List.getElem_toArray, List.getElem_cons_succ, List.getElem_cons_zero]
            try simp only [Act.put, List.setIfInBounds_toArray, List.set_cons_zero, List.set_cons_succ]
            refine wpAnyH_take (i := 15) (v := ?_) rfl (by kernel_rfl) (by kernel_rfl) (by kernel_rfl) (fun _ _ _ h => h) (Or.inl ⟨by rfl, ?_⟩) (by assumption) ?_
            rotate_left
            · intro X hX
              go_simp
              try with_reducible rfl
            try simp only [List.getElem_toArray, List.getElem_cons_succ, List.getElem_cons_zero]
            try simp only [Act.put, List.setIfInBounds_toArray, List.set_cons_zero, List.set_cons_succ]
            refine wpAnyH_ready (rs := [16]) (by kernel_rfl) (by simp) (AllReadyH.cons rfl (fun K hK => ?_) AllReadyH.nil)
            · have q := cell_at (i := 6) hT rfl
              have fz := Lib.frozen_of_heap hT 6
              go_simp
              replace hX := set_else (a := ⟨w1.heap.size, 6, none⟩) (u := .slice (some ⟨g2, 0, none⟩) es.length c2) hX (by show _ ≠ w1.heap.size; omega)
              replace hT := heap_set (i := 6) (.slice (some ⟨g2, 0, none⟩) es.length c2) hT
              simp only [Array.set!_eq_setIfInBounds, List.setIfInBounds_toArray, List.set_cons_zero, List.set_cons_succ] at hT
              replace hTW := hTW.far (a := ⟨w1.heap.size, 6, none⟩) (u := .slice (some ⟨g2, 0, none⟩) es.length c2) (by show w1.heap.size < _; omega)
              replace hW := hW.setCell (p := ⟨w1.heap.size, 6, none⟩) (Nat.le_refl _) (.slice (some ⟨g2, 0, none⟩) es.length c2)
              clear q fz
              have hH := hS'.out _ hX
              refine hK.out _ _ ?_ (fun hHeld => ?_)
              · with_reducible exact hH
              clear hK K hH
              try simp only [List.getElem_toArray, List.getElem_cons_succ, List.getElem_cons_zero]
              try simp only [Act.put]
              refine wpAnyH_done (by kernel_rfl) ?_ _
              go_wp2_with fail
              go_meet
              case rel => exact ⟨g2, c2, Lib.hid hX, Lib.hid hT, Lib.hid hTW, Lib.hid hW⟩
  case rest =>
  obtain ⟨g2, c2, h_r5, h_t5, hTE5, hW5⟩ := hcut
  obtain ⟨w5, HX5⟩ : ∃ W : World, Hid (W = wc) := ⟨_, Lib.hid rfl⟩
  have he5 : w5 = wc := HX5.out
  subst he5
  clear HX5 d6 d7 hb12 h_r2 h_t2
  have d6 := cell_at (i := 6) h_r5.out rfl
  have d7 := cell_at (i := 7) h_r5.out rfl
  have HTE := hTE5
  go_upto_region 5 with fail
  go_cut [] (fun wx => ∃ (g3 c3 : Nat), Hid (wx.heap[w.heap.size]? = some (.cells #[.int .i64 ki, .int .i64 st, .int .i64 ep, .int .i64 vi, .int .i64 fr, .int .i64 le, .slice A es.length c, .slice A' fd.length c'] 25 (0, 0))) ∧ Hid (wx.heap[w1.heap.size]? = some (.cells #[.int .i64 ki, .int .i64 st, .int .i64 ep, .int .i64 vi, .int .i64 fr, .int .i64 le, .slice (some ⟨g2, 0, none⟩) es.length c2, .slice (some ⟨g3, 0, none⟩) fd.length c3] 25 (0, 0))) ∧ Hid (TwE (w1.heap.size + 1) wx g2 c2 es) ∧ Hid (TwF w5.heap.size wx g3 c3 fd) ∧ Hid (Below w1.heap.size w1 wx))
  case first =>
    have hW : Below w1.heap.size w1 w5.drew := hW5.out.drew
    have hV : Below w5.heap.size w5 w5.drew := (Below.refl _ _).drew
    have hX : w5.drew.heap[w.heap.size]? = some (.cells #[.int .i64 ki, .int .i64 st, .int .i64 ep, .int .i64 vi, .int .i64 fr, .int .i64 le, .slice A es.length c, .slice A' fd.length c'] 25 (0, 0)) := h_r5.out
    have hT : w5.drew.heap[w1.heap.size]? = some (.cells #[.int .i64 ki, .int .i64 st, .int .i64 ep, .int .i64 vi, .int .i64 fr, .int .i64 le, .slice (some ⟨g2, 0, none⟩) es.length c2, .slice A' fd.length c'] 25 (0, 0)) := h_t5.out
    have hz5 : w1.heap.size < w5.heap.size := heap_lt hT
    have hS' := HFS
    have hH := hS'.out _ hX
    clear HFS d6 d7 HEN HCK HRE HRC HWK HLE HAK h_r5 h_t5 hW5 hTE5
    refine wp_region_held_drew (S := fun X => X.cell? ⟨w.heap.size, 6, none⟩ = some (.slice A es.length c) ∧ X.cell? ⟨w.heap.size, 7, none⟩ = some (.slice A' fd.length c')) (by kernel_rfl) hH (fun hHeld => ?_)
    clear hH
    refine wpAnyH_take (i := 0) (v := ?_) rfl (by kernel_rfl) (by kernel_rfl) (by kernel_rfl) (fun _ _ _ h => h) (Or.inl ⟨by rfl, ?_⟩) (by assumption) ?_
    rotate_left
    · intro X hX
      go_simp
      try with_reducible rfl
    try simp only [List.getElem_toArray, List.getElem_cons_zero]
    try simp only [Act.put, List.setIfInBounds_toArray, List.set_cons_zero, List.set_cons_succ]
    refine wpAnyH_take (i := 1) (v := .slice A' fd.length c') rfl (by kernel_rfl) (by kernel_rfl) (by kernel_rfl) (fun _ _ _ h => h) (Or.inl ⟨by rfl, ?_⟩) (by assumption) ?_
    · intro X hX
      obtain ⟨c6, c7⟩ := hX
      go_simp
    try simp only [List.getElem_toArray, List.getElem_cons_succ, List.getElem_cons_zero]
    try simp only [Act.put, List.setIfInBounds_toArray, List.set_cons_zero, List.set_cons_succ]
    refine wpAnyH_take (i := 2) (v := ?_) rfl (by kernel_rfl) (by kernel_rfl) (by kernel_rfl) (fun _ _ _ h => h) (Or.inl ⟨by rfl, ?_⟩) (by assumption) ?_
    rotate_left
    · intro X hX
      go_simp
      try with_reducible rfl
    try simp only [List.getElem_toArray, List.getElem_cons_succ, List.getElem_cons_zero]
    try simp only [Act.put, List.setIfInBounds_toArray, List.set_cons_zero, List.set_cons_succ]
    refine wpAnyH_take (i := 3) (v := ?_) rfl (by kernel_rfl) (by kernel_rfl) (by kernel_rfl) (fun _ _ _ h => h) (Or.inl ⟨by rfl, ?_⟩) (by assumption) ?_
    rotate_left
    · intro X hX
      go_simp
      try with_reducible rfl
    try simp only [List.getElem_toArray, List.getElem_cons_succ, List.getElem_cons_zero]
    try simp only [Act.put, List.setIfInBounds_toArray, List.set_cons_zero, List.set_cons_succ]
    refine wpAnyH_take (i := 5) (v := ?_) rfl (by kernel_rfl) (by kernel_rfl) (by kernel_rfl) (fun _ _ _ h => h) (Or.inl ⟨by rfl, ?_⟩) (by assumption) ?_
    rotate_left
    · intro X hX
      go_simp
      try with_reducible rfl
    try simp only [List.getElem_toArray, List.getElem_cons_succ, List.getElem_cons_zero]
    try simp only [Act.put, List.setIfInBounds_toArray, List.set_cons_zero, List.set_cons_succ]
    refine wpAnyH_take (i := 6) (v := .slice A' fd.length c') rfl (by kernel_rfl) (by kernel_rfl) (by kernel_rfl) (fun _ _ _ h => h) (Or.inl ⟨by rfl, ?_⟩) (by assumption) ?_
    · intro X hX
      obtain ⟨c6, c7⟩ := hX
      go_simp
    try simp only [List.getElem_toArray, List.getElem_cons_succ, List.getElem_cons_zero]
    try simp only [Act.put, List.setIfInBounds_toArray, List.set_cons_zero, List.set_cons_succ]
    refine wpAnyH_take (i := 8) (v := ?_) rfl (by kernel_rfl) (by kernel_rfl) (by kernel_rfl) (fun _ _ _ h => h) (Or.inl ⟨by rfl, ?_⟩) (by assumption) ?_
    rotate_left
    · intro X hX
      go_simp
      try with_reducible rfl
    try simp only [List.getElem_toArray, List.getElem_cons_succ, List.getElem_cons_zero]
    try simp only [Act.put, List.setIfInBounds_toArray, List.set_cons_zero, List.set_cons_succ]
    refine wpAnyH_take (i := 11) (v := ?_) rfl (by kernel_rfl) (by kernel_rfl) (by kernel_rfl) (fun _ _ _ h => h) (Or.inl ⟨by rfl, ?_⟩) (by assumption) ?_
    rotate_left
    · intro X hX
      go_simp
      try with_reducible rfl
    try simp only [List.getElem_toArray, List.getElem_cons_succ, List.getElem_cons_zero]
    try simp only [Act.put, List.setIfInBounds_toArray, List.set_cons_zero, List.set_cons_succ]
    refine wpAnyH_take (i := 12) (v := .slice A' fd.length c') rfl (by kernel_rfl) (by kernel_rfl) (by kernel_rfl) (fun _ _ _ h => h) (Or.inl ⟨by rfl, ?_⟩) (by assumption) ?_
    · intro X hX
      obtain ⟨c6, c7⟩ := hX
      go_simp
    try simp only [List.getElem_toArray, List.getElem_cons_succ, List.getElem_cons_zero]
    try simp only [Act.put, List.setIfInBounds_toArray, List.set_cons_zero, List.set_cons_succ]
    refine wpAnyH_take (i := 13) (v := ?_) rfl (by kernel_rfl) (by kernel_rfl) (by kernel_rfl) (fun _ _ _ h => h) (Or.inl ⟨by rfl, ?_⟩) (by assumption) ?_
    rotate_left
    · intro X hX
      go_simp
      try with_reducible rfl
    try simp only [List.getElem_toArray, List.getElem_cons_succ, List.getElem_cons_zero]
    try simp only [Act.put, List.setIfInBounds_toArray, List.set_cons_zero, List.set_cons_succ]
    refine wpAnyH_ready (rs := [4,9]) (by kernel_rfl) (by simp) (AllReadyH.cons rfl (fun K hK => ?_) (AllReadyH.cons rfl (fun K hK => ?_) AllReadyH.nil))
    · refine step_make_new rfl 23 _ _ rfl (fd.length + 1) (by simp [Act.eval]) (by simp [Act.eval]) (fzs (fd.length + 1)) 32 (fun X => fmade_run X (fd.length + 1) (by omega)) ?_
      intro gA wn hA hgA hb
      replace hgA : w5.heap.size ≤ gA := Nat.le_trans (hV.size) hgA
      replace hX := keepH hb hX
      replace hT := keepH hb hT
      replace hW := keepB hW hb
      replace hV := keepB hV hb
      clear hb
      have hH := hS'.out _ hX
      refine hK.out _ _ ?_ (fun hHeld => ?_)
      · with_reducible exact hH
      clear hK K hH
      try simp only [List.getElem_toArray, List.getElem_cons_succ, List.getElem_cons_zero]
      try simp only [Act.put, List.setIfInBounds_toArray, List.set_cons_zero, List.set_cons_succ]
      refine wpAnyH_ready (rs := [7,9]) (by kernel_rfl) (by simp) (AllReadyH.cons rfl (fun K hK => ?_) (AllReadyH.cons rfl (fun K hK => ?_) AllReadyH.nil))
      · obtain ⟨A1, ca1, wm, hr, hB, hg, -⟩ := run_append_fs (fmade_heap hA hgA (by omega)) (HLF.out _ (keepB hB1 hW)) (hV.size) (by omega)
        simp only [Nat.zero_add, List.nil_append] at hr hB
        refine step_app_known rfl _ _ 23 23 rfl (.slice (some ⟨gA, 0, none⟩) 0 (fd.length + 1)) (.slice A' fd.length c') (by simp [Act.eval]) (by simp [Act.eval]) hr ?_
        replace hX := keepG hg hX (fun e => by simp [Value.ownBlock] at e; omega)
        replace hT := keepG hg hT (fun e => by simp [Value.ownBlock] at e; omega)
        replace hW := hW.trans (below_grow (B := w1.heap.size) hg (fun q h1 e => by simp [Value.ownBlock] at e; omega) hW.size)
        replace hV := hV.trans (below_grow (B := w5.heap.size) hg (fun q h1 e => by simp [Value.ownBlock] at e; omega) hV.size)
        clear hr hg hA hgA
        have hH := hS'.out _ hX
        refine hK.out _ _ ?_ (fun hHeld => ?_)
        · with_reducible exact hH
        clear hK K hH
        try simp only [List.getElem_toArray, List.getElem_cons_succ, List.getElem_cons_zero]
        try simp only [Act.put, List.setIfInBounds_toArray, List.set_cons_zero, List.set_cons_succ]
        refine wpAnyH_ready (rs := [9]) (by kernel_rfl) (by simp) (AllReadyH.cons rfl (fun K hK => ?_) AllReadyH.nil)
        · refine step_build_new rfl 23 1 _ #[(0, .agg #[.int .i64 0, .int .i64 (-70)])] rfl (by simp [Act.eval]) #[.int .i64 0, .int .i64 (-70)] 32 (fun X => bld70f_run X) ?_
          intro gC wn hC hgC hb
          replace hX := keepH hb hX
          replace hT := keepH hb hT
          replace hW := keepB hW hb
          replace hV := keepB hV hb
          replace hB := keepR hb hB
          clear hb hgC
          have hH := hS'.out _ hX
          refine hK.out _ _ ?_ (fun hHeld => ?_)
          · with_reducible exact hH
          clear hK K hH
          try simp only [List.getElem_toArray, List.getElem_cons_succ, List.getElem_cons_zero]
          try simp only [Act.put, List.setIfInBounds_toArray, List.set_cons_zero, List.set_cons_succ]
          refine wpAnyH_ready (rs := [10]) (by kernel_rfl) (by simp) (AllReadyH.cons rfl (fun K hK => ?_) AllReadyH.nil)
          · obtain ⟨A2, ca2, wm, hr, hD, hg, -⟩ := run_append_fs hB (fs_heap (es := [f70]) hC (by simp [fcs, Sp.l, f70]) (by simp)) (hV.size) (by simp; omega)
            simp only [List.length_cons, List.length_nil, Nat.zero_add] at hr hD
            refine step_app_known rfl _ _ 23 23 rfl (.slice A1 fd.length ca1) (.slice (some ⟨gC, 0, none⟩) 1 1) (by simp [Act.eval]) (by simp [Act.eval]) hr ?_
            replace hX := keepG hg hX (fun e => by have := (World.ownsRow.lt hB _ e).1; omega)
            replace hT := keepG hg hT (fun e => by have := (World.ownsRow.lt hB _ e).1; omega)
            replace hW := hW.trans (below_grow (B := w1.heap.size) hg (fun q h1 e => by have := (World.ownsRow.lt hB _ e).1; omega) hW.size)
            replace hV := hV.trans (below_grow (B := w5.heap.size) hg (fun q h1 e => by have := (World.ownsRow.lt hB _ e).1; omega) hV.size)
            obtain ⟨g3, c3, hv, hTW⟩ := tw_ownf hD (by omega)
            injection hv with e1 _ e3
            subst e1
            obtain rfl : c3 = ca2 := e3.symm
            have hz1 : fd.length ≤ c3 := by have := hTW.2.2.2.2.1; omega
            have hz2 : w5.heap.size ≤ g3 := hTW.2.2.1
            clear hr hg hB hC hD
            have hH := hS'.out _ hX
            refine hK.out _ _ ?_ (fun hHeld => ?_)
            · with_reducible exact hH
            clear hK K hH
            try simp only [List.getElem_toArray, List.getElem_cons_succ, List.getElem_cons_zero]
            try simp only [Act.put, List.setIfInBounds_toArray, List.set_cons_zero, List.set_cons_succ]
            refine wpAnyH_take (i := 14) (v := ?_) rfl (by kernel_rfl) (by kernel_rfl) (by kernel_rfl) (fun _ _ _ h => h) (Or.inl ⟨by rfl, ?_⟩) (by assumption) ?_
            rotate_left
            · intro X hX
              go_simp
              try with_reducible rfl
            try simp only [List.getElem_toArray, List.getElem_cons_succ, List.getElem_cons_zero]
            try simp only [Act.put, List.setIfInBounds_toArray, List.set_cons_zero, List.set_cons_succ]
            refine wpAnyH_take (i := 15) (v := ?_) rfl (by kernel_rfl) (by kernel_rfl) (by kernel_rfl) (fun _ _ _ h => h) (Or.inl ⟨by rfl, ?_⟩) (by assumption) ?_
            rotate_left
            · intro X hX
              go_simp
              try with_reducible rfl
            try simp only [List.getElem_toArray, List.getElem_cons_succ, List.getElem_cons_zero]
            try simp only [Act.put, List.setIfInBounds_toArray, List.set_cons_zero, List.set_cons_succ]
            refine wpAnyH_ready (rs := [16]) (by kernel_rfl) (by simp) (AllReadyH.cons rfl (fun K hK => ?_) AllReadyH.nil)
            · have q := cell_at (i := 7) hT rfl
              have fz := Lib.frozen_of_heap hT 7
              go_simp
              replace hX := set_else (a := ⟨w1.heap.size, 7, none⟩) (u := .slice (some ⟨g3, 0, none⟩) fd.length c3) hX (by show _ ≠ w1.heap.size; omega)
              replace hT := heap_set (i := 7) (.slice (some ⟨g3, 0, none⟩) fd.length c3) hT
              simp only [Array.set!_eq_setIfInBounds, List.setIfInBounds_toArray, List.set_cons_zero, List.set_cons_succ] at hT
              replace hTW := hTW.far (a := ⟨w1.heap.size, 7, none⟩) (u := .slice (some ⟨g3, 0, none⟩) fd.length c3) (by show w1.heap.size < _; omega)
              replace hW := hW.setCell (p := ⟨w1.heap.size, 7, none⟩) (Nat.le_refl _) (.slice (some ⟨g3, 0, none⟩) fd.length c3)
              have hTE := (HTE.out.below hV).far (a := ⟨w1.heap.size, 7, none⟩) (u := .slice (some ⟨g3, 0, none⟩) fd.length c3) (by show w1.heap.size < _; omega)
              clear q fz
              have hH := hS'.out _ hX
              refine hK.out _ _ ?_ (fun hHeld => ?_)
              · with_reducible exact hH
              clear hK K hH
              try simp only [List.getElem_toArray, List.getElem_cons_succ, List.getElem_cons_zero]
              try simp only [Act.put]
              refine wpAnyH_done (by kernel_rfl) ?_ _
              go_wp2_with fail
              go_meet
              case rel => exact ⟨g3, c3, Lib.hid hX, Lib.hid hT, Lib.hid hTE, Lib.hid hTW, Lib.hid hW⟩
      · refine step_build_new rfl 23 1 _ #[(0, .agg #[.int .i64 0, .int .i64 (-70)])] rfl (by simp [Act.eval]) #[.int .i64 0, .int .i64 (-70)] 32 (fun X => bld70f_run X) ?_
        intro gC wn hC hgC hb
        have hAC : gC ≠ gA := by have := heap_lt hA; omega
        replace hX := keepH hb hX
        replace hT := keepH hb hT
        replace hW := keepB hW hb
        replace hV := keepB hV hb
        replace hA := keepH hb hA
        clear hb hgC
        have hH := hS'.out _ hX
        refine hK.out _ _ ?_ (fun hHeld => ?_)
        · with_reducible exact hH
        clear hK K hH
        try simp only [List.getElem_toArray, List.getElem_cons_succ, List.getElem_cons_zero]
        try simp only [Act.put, List.setIfInBounds_toArray, List.set_cons_zero, List.set_cons_succ]
        refine wpAnyH_ready (rs := [7]) (by kernel_rfl) (by simp) (AllReadyH.cons rfl (fun K hK => ?_) AllReadyH.nil)
        · obtain ⟨A1, ca1, wm, hr, hB, hg, -⟩ := run_append_fs (fmade_heap hA hgA (by omega)) (HLF.out _ (keepB hB1 hW)) (hV.size) (by omega)
          simp only [Nat.zero_add, List.nil_append] at hr hB
          refine step_app_known rfl _ _ 23 23 rfl (.slice (some ⟨gA, 0, none⟩) 0 (fd.length + 1)) (.slice A' fd.length c') (by simp [Act.eval]) (by simp [Act.eval]) hr ?_
          replace hC := keepG hg hC (fun e => by simp [Value.ownBlock] at e; omega)
          replace hX := keepG hg hX (fun e => by simp [Value.ownBlock] at e; omega)
          replace hT := keepG hg hT (fun e => by simp [Value.ownBlock] at e; omega)
          replace hW := hW.trans (below_grow (B := w1.heap.size) hg (fun q h1 e => by simp [Value.ownBlock] at e; omega) hW.size)
          replace hV := hV.trans (below_grow (B := w5.heap.size) hg (fun q h1 e => by simp [Value.ownBlock] at e; omega) hV.size)
          clear hr hg hA hgA hAC
          have hH := hS'.out _ hX
          refine hK.out _ _ ?_ (fun hHeld => ?_)
          · with_reducible exact hH
          clear hK K hH
          try simp only [List.getElem_toArray, List.getElem_cons_succ, List.getElem_cons_zero]
          try simp only [Act.put, List.setIfInBounds_toArray, List.set_cons_zero, List.set_cons_succ]
          refine wpAnyH_ready (rs := [10]) (by kernel_rfl) (by simp) (AllReadyH.cons rfl (fun K hK => ?_) AllReadyH.nil)
          · obtain ⟨A2, ca2, wm, hr, hD, hg, -⟩ := run_append_fs hB (fs_heap (es := [f70]) hC (by simp [fcs, Sp.l, f70]) (by simp)) (hV.size) (by simp; omega)
            simp only [List.length_cons, List.length_nil, Nat.zero_add] at hr hD
            refine step_app_known rfl _ _ 23 23 rfl (.slice A1 fd.length ca1) (.slice (some ⟨gC, 0, none⟩) 1 1) (by simp [Act.eval]) (by simp [Act.eval]) hr ?_
            replace hX := keepG hg hX (fun e => by have := (World.ownsRow.lt hB _ e).1; omega)
            replace hT := keepG hg hT (fun e => by have := (World.ownsRow.lt hB _ e).1; omega)
            replace hW := hW.trans (below_grow (B := w1.heap.size) hg (fun q h1 e => by have := (World.ownsRow.lt hB _ e).1; omega) hW.size)
            replace hV := hV.trans (below_grow (B := w5.heap.size) hg (fun q h1 e => by have := (World.ownsRow.lt hB _ e).1; omega) hV.size)
            obtain ⟨g3, c3, hv, hTW⟩ := tw_ownf hD (by omega)
            injection hv with e1 _ e3
            subst e1
            obtain rfl : c3 = ca2 := e3.symm
            have hz1 : fd.length ≤ c3 := by have := hTW.2.2.2.2.1; omega
            have hz2 : w5.heap.size ≤ g3 := hTW.2.2.1
            clear hr hg hB hC hD
            have hH := hS'.out _ hX
            refine hK.out _ _ ?_ (fun hHeld => ?_)
            · with_reducible exact hH
            clear hK K hH
            try simp only [List.getElem_toArray, List.getElem_cons_succ, List.getElem_cons_zero]
            try simp only [Act.put, List.setIfInBounds_toArray, List.set_cons_zero, List.set_cons_succ]
            refine wpAnyH_take (i := 14) (v := ?_) rfl (by kernel_rfl) (by kernel_rfl) (by kernel_rfl) (fun _ _ _ h => h) (Or.inl ⟨by rfl, ?_⟩) (by assumption) ?_
            rotate_left
            · intro X hX
              go_simp
              try with_reducible rfl
            try simp only [List.getElem_toArray, List.getElem_cons_succ, List.getElem_cons_zero]
            try simp only [Act.put, List.setIfInBounds_toArray, List.set_cons_zero, List.set_cons_succ]
            refine wpAnyH_take (i := 15) (v := ?_) rfl (by kernel_rfl) (by kernel_rfl) (by kernel_rfl) (fun _ _ _ h => h) (Or.inl ⟨by rfl, ?_⟩) (by assumption) ?_
            rotate_left
            · intro X hX
              go_simp
              try with_reducible rfl
            try simp only [List.getElem_toArray, List.getElem_cons_succ, List.getElem_cons_zero]
            try simp only [Act.put, List.setIfInBounds_toArray, List.set_cons_zero, List.set_cons_succ]
            refine wpAnyH_ready (rs := [16]) (by kernel_rfl) (by simp) (AllReadyH.cons rfl (fun K hK => ?_) AllReadyH.nil)
            · have q := cell_at (i := 7) hT rfl
              have fz := Lib.frozen_of_heap hT 7
              go_simp
              replace hX := set_else (a := ⟨w1.heap.size, 7, none⟩) (u := .slice (some ⟨g3, 0, none⟩) fd.length c3) hX (by show _ ≠ w1.heap.size; omega)
              replace hT := heap_set (i := 7) (.slice (some ⟨g3, 0, none⟩) fd.length c3) hT
              simp only [Array.set!_eq_setIfInBounds, List.setIfInBounds_toArray, List.set_cons_zero, List.set_cons_succ] at hT
              replace hTW := hTW.far (a := ⟨w1.heap.size, 7, none⟩) (u := .slice (some ⟨g3, 0, none⟩) fd.length c3) (by show w1.heap.size < _; omega)
              replace hW := hW.setCell (p := ⟨w1.heap.size, 7, none⟩) (Nat.le_refl _) (.slice (some ⟨g3, 0, none⟩) fd.length c3)
              have hTE := (HTE.out.below hV).far (a := ⟨w1.heap.size, 7, none⟩) (u := .slice (some ⟨g3, 0, none⟩) fd.length c3) (by show w1.heap.size < _; omega)
              clear q fz
              have hH := hS'.out _ hX
              refine hK.out _ _ ?_ (fun hHeld => ?_)
              · with_reducible exact hH
              clear hK K hH
              try simp only [List.getElem_toArray, List.getElem_cons_succ, List.getElem_cons_zero]
              try simp only [Act.put]
              refine wpAnyH_done (by kernel_rfl) ?_ _
              go_wp2_with fail
              go_meet
              case rel => exact ⟨g3, c3, Lib.hid hX, Lib.hid hT, Lib.hid hTE, Lib.hid hTW, Lib.hid hW⟩
    · refine step_build_new rfl 23 1 _ #[(0, .agg #[.int .i64 0, .int .i64 (-70)])] rfl (by simp [Act.eval]) #[.int .i64 0, .int .i64 (-70)] 32 (fun X => bld70f_run X) ?_
      intro gC wn hC hgC hb
      replace hX := keepH hb hX
      replace hT := keepH hb hT
      replace hW := keepB hW hb
      replace hV := keepB hV hb
      clear hb hgC
      have hH := hS'.out _ hX
      refine hK.out _ _ ?_ (fun hHeld => ?_)
      · with_reducible exact hH
      clear hK K hH
      try simp only [List.getElem_toArray, List.getElem_cons_succ, List.getElem_cons_zero]
      try simp only [Act.put, List.setIfInBounds_toArray, List.set_cons_zero, List.set_cons_succ]
      refine wpAnyH_ready (rs := [4]) (by kernel_rfl) (by simp) (AllReadyH.cons rfl (fun K hK => ?_) AllReadyH.nil)
      · refine step_make_new rfl 23 _ _ rfl (fd.length + 1) (by simp [Act.eval]) (by simp [Act.eval]) (fzs (fd.length + 1)) 32 (fun X => fmade_run X (fd.length + 1) (by omega)) ?_
        intro gA wn hA hgA hb
        have hAC : gC ≠ gA := by have := heap_lt hC; omega
        replace hgA : w5.heap.size ≤ gA := Nat.le_trans (hV.size) hgA
        replace hX := keepH hb hX
        replace hT := keepH hb hT
        replace hW := keepB hW hb
        replace hV := keepB hV hb
        replace hC := keepH hb hC
        clear hb
        have hH := hS'.out _ hX
        refine hK.out _ _ ?_ (fun hHeld => ?_)
        · with_reducible exact hH
        clear hK K hH
        try simp only [List.getElem_toArray, List.getElem_cons_succ, List.getElem_cons_zero]
        try simp only [Act.put, List.setIfInBounds_toArray, List.set_cons_zero, List.set_cons_succ]
        refine wpAnyH_ready (rs := [7]) (by kernel_rfl) (by simp) (AllReadyH.cons rfl (fun K hK => ?_) AllReadyH.nil)
        · obtain ⟨A1, ca1, wm, hr, hB, hg, -⟩ := run_append_fs (fmade_heap hA hgA (by omega)) (HLF.out _ (keepB hB1 hW)) (hV.size) (by omega)
          simp only [Nat.zero_add, List.nil_append] at hr hB
          refine step_app_known rfl _ _ 23 23 rfl (.slice (some ⟨gA, 0, none⟩) 0 (fd.length + 1)) (.slice A' fd.length c') (by simp [Act.eval]) (by simp [Act.eval]) hr ?_
          replace hC := keepG hg hC (fun e => by simp [Value.ownBlock] at e; omega)
          replace hX := keepG hg hX (fun e => by simp [Value.ownBlock] at e; omega)
          replace hT := keepG hg hT (fun e => by simp [Value.ownBlock] at e; omega)
          replace hW := hW.trans (below_grow (B := w1.heap.size) hg (fun q h1 e => by simp [Value.ownBlock] at e; omega) hW.size)
          replace hV := hV.trans (below_grow (B := w5.heap.size) hg (fun q h1 e => by simp [Value.ownBlock] at e; omega) hV.size)
          clear hr hg hA hgA hAC
          have hH := hS'.out _ hX
          refine hK.out _ _ ?_ (fun hHeld => ?_)
          · with_reducible exact hH
          clear hK K hH
          try simp only [List.getElem_toArray, List.getElem_cons_succ, List.getElem_cons_zero]
          try simp only [Act.put, List.setIfInBounds_toArray, List.set_cons_zero, List.set_cons_succ]
          refine wpAnyH_ready (rs := [10]) (by kernel_rfl) (by simp) (AllReadyH.cons rfl (fun K hK => ?_) AllReadyH.nil)
          · obtain ⟨A2, ca2, wm, hr, hD, hg, -⟩ := run_append_fs hB (fs_heap (es := [f70]) hC (by simp [fcs, Sp.l, f70]) (by simp)) (hV.size) (by simp; omega)
            simp only [List.length_cons, List.length_nil, Nat.zero_add] at hr hD
            refine step_app_known rfl _ _ 23 23 rfl (.slice A1 fd.length ca1) (.slice (some ⟨gC, 0, none⟩) 1 1) (by simp [Act.eval]) (by simp [Act.eval]) hr ?_
            replace hX := keepG hg hX (fun e => by have := (World.ownsRow.lt hB _ e).1; omega)
            replace hT := keepG hg hT (fun e => by have := (World.ownsRow.lt hB _ e).1; omega)
            replace hW := hW.trans (below_grow (B := w1.heap.size) hg (fun q h1 e => by have := (World.ownsRow.lt hB _ e).1; omega) hW.size)
            replace hV := hV.trans (below_grow (B := w5.heap.size) hg (fun q h1 e => by have := (World.ownsRow.lt hB _ e).1; omega) hV.size)
            obtain ⟨g3, c3, hv, hTW⟩ := tw_ownf hD (by omega)
            injection hv with e1 _ e3
            subst e1
            obtain rfl : c3 = ca2 := e3.symm
            have hz1 : fd.length ≤ c3 := by have := hTW.2.2.2.2.1; omega
            have hz2 : w5.heap.size ≤ g3 := hTW.2.2.1
            clear hr hg hB hC hD
            have hH := hS'.out _ hX
            refine hK.out _ _ ?_ (fun hHeld => ?_)
            · with_reducible exact hH
            clear hK K hH
            try simp only [List.getElem_toArray, List.getElem_cons_succ, List.getElem_cons_zero]
            try simp only [Act.put, List.setIfInBounds_toArray, List.set_cons_zero, List.set_cons_succ]
            refine wpAnyH_take (i := 14) (v := ?_) rfl (by kernel_rfl) (by kernel_rfl) (by kernel_rfl) (fun _ _ _ h => h) (Or.inl ⟨by rfl, ?_⟩) (by assumption) ?_
            rotate_left
            · intro X hX
              go_simp
              try with_reducible rfl
            try simp only [List.getElem_toArray, List.getElem_cons_succ, List.getElem_cons_zero]
            try simp only [Act.put, List.setIfInBounds_toArray, List.set_cons_zero, List.set_cons_succ]
            refine wpAnyH_take (i := 15) (v := ?_) rfl (by kernel_rfl) (by kernel_rfl) (by kernel_rfl) (fun _ _ _ h => h) (Or.inl ⟨by rfl, ?_⟩) (by assumption) ?_
            rotate_left
            · intro X hX
              go_simp
              try with_reducible rfl
            try simp only [List.getElem_toArray, List.getElem_cons_succ, List.getElem_cons_zero]
            try simp only [Act.put, List.setIfInBounds_toArray, List.set_cons_zero, List.set_cons_succ]
            refine wpAnyH_ready (rs := [16]) (by kernel_rfl) (by simp) (AllReadyH.cons rfl (fun K hK => ?_) AllReadyH.nil)
            · have q := cell_at (i := 7) hT rfl
              have fz := Lib.frozen_of_heap hT 7
              go_simp
              replace hX := set_else (a := ⟨w1.heap.size, 7, none⟩) (u := .slice (some ⟨g3, 0, none⟩) fd.length c3) hX (by show _ ≠ w1.heap.size; omega)
              replace hT := heap_set (i := 7) (.slice (some ⟨g3, 0, none⟩) fd.length c3) hT
              simp only [Array.set!_eq_setIfInBounds, List.setIfInBounds_toArray, List.set_cons_zero, List.set_cons_succ] at hT
              replace hTW := hTW.far (a := ⟨w1.heap.size, 7, none⟩) (u := .slice (some ⟨g3, 0, none⟩) fd.length c3) (by show w1.heap.size < _; omega)
              replace hW := hW.setCell (p := ⟨w1.heap.size, 7, none⟩) (Nat.le_refl _) (.slice (some ⟨g3, 0, none⟩) fd.length c3)
              have hTE := (HTE.out.below hV).far (a := ⟨w1.heap.size, 7, none⟩) (u := .slice (some ⟨g3, 0, none⟩) fd.length c3) (by show w1.heap.size < _; omega)
              clear q fz
              have hH := hS'.out _ hX
              refine hK.out _ _ ?_ (fun hHeld => ?_)
              · with_reducible exact hH
              clear hK K hH
              try simp only [List.getElem_toArray, List.getElem_cons_succ, List.getElem_cons_zero]
              try simp only [Act.put]
              refine wpAnyH_done (by kernel_rfl) ?_ _
              go_wp2_with fail
              go_meet
              case rel => exact ⟨g3, c3, Lib.hid hX, Lib.hid hT, Lib.hid hTE, Lib.hid hTW, Lib.hid hW⟩
  case rest =>
  obtain ⟨g3, c3, h_r6, h_t6, hTE6, hTF6, hW6⟩ := hcut
  obtain ⟨w6, he6⟩ : ∃ W : World, W = wc := ⟨_, rfl⟩
  subst he6
  have hB6 : Below w.heap.size w w6 := hB1.trans (hW6.out.mono hB1.size)
  clear d6 d7 h_r5 h_t5 hTE5 HTE hW5 hW6 HFS hB1
  have d0 := cell_at (i := 0) h_t6.out rfl
  have d1 := cell_at (i := 1) h_t6.out rfl
  have d2 := cell_at (i := 2) h_t6.out rfl
  have d3 := cell_at (i := 3) h_t6.out rfl
  have d4 := cell_at (i := 4) h_t6.out rfl
  have d5 := cell_at (i := 5) h_t6.out rfl
  have d6 := cell_at (i := 6) h_t6.out rfl
  have d7 := cell_at (i := 7) h_t6.out rfl
  go_wp2_with fail
  refine (HEN.out w6 hB6 hTE6.out.1 hTF6.out.1 hg1 hg2).mono ?_
  rintro e w7 ⟨rfl, hb⟩
  have hB7 := keepB hB6 hb
  have h_r7 := keepH hb h_r6.out
  have h_t7 := keepH hb h_t6.out
  have hTE7 := hTE6.out.below hb
  have hTF7 := hTF6.out.below hb
  clear hb d0 d1 d2 d3 d4 d5 d6 d7 h_r6 h_t6 hTE6 hTF6 HEN
  have d0 := cell_at (i := 0) h_r7 rfl
  have d1 := cell_at (i := 1) h_r7 rfl
  have d2 := cell_at (i := 2) h_r7 rfl
  have d3 := cell_at (i := 3) h_r7 rfl
  have d4 := cell_at (i := 4) h_r7 rfl
  have d5 := cell_at (i := 5) h_r7 rfl
  have d6 := cell_at (i := 6) h_r7 rfl
  have d7 := cell_at (i := 7) h_r7 rfl
  go_wp2_with fail
  refine (HRE.out w7 ((RdB.mono (HLE.out w7 hB7) hB7.size : EsB _ w7 _ es)) ((RdB.mono (HLF.out w7 hB7) hB7.size : FdB _ w7 _ fd))).mono ?_
  rintro e w8 ⟨rfl, hb⟩
  have hB8 := keepB hB7 hb
  have h_r8 := keepH hb h_r7
  have h_t8 := keepH hb h_t7
  have hTE8 := hTE7.below hb
  have hTF8 := hTF7.below hb
  clear hb d0 d1 d2 d3 d4 d5 d6 d7 h_r7 h_t7 hTE7 hTF7 HRE
  have x0 := cell_at (i := 0) h_r8 rfl
  have x1 := cell_at (i := 1) h_r8 rfl
  have x2 := cell_at (i := 2) h_r8 rfl
  have x3 := cell_at (i := 3) h_r8 rfl
  have x4 := cell_at (i := 4) h_r8 rfl
  have x5 := cell_at (i := 5) h_r8 rfl
  have x6 := cell_at (i := 6) h_r8 rfl
  have x7 := cell_at (i := 7) h_r8 rfl
  have y0 := cell_at (i := 0) h_t8 rfl
  have y1 := cell_at (i := 1) h_t8 rfl
  have y2 := cell_at (i := 2) h_t8 rfl
  have y3 := cell_at (i := 3) h_t8 rfl
  have y4 := cell_at (i := 4) h_t8 rfl
  have y5 := cell_at (i := 5) h_t8 rfl
  have y6 := cell_at (i := 6) h_t8 rfl
  have y7 := cell_at (i := 7) h_t8 rfl
  have k0 : ∀ d' os, (grow (redrawn w8 d') os).cell? ⟨w.heap.size, 0, none⟩ = some (.int .i64 ki) := fun d' os => cell_regrown x0 d' os
  have k1 : ∀ d' os, (grow (redrawn w8 d') os).cell? ⟨w.heap.size, 1, none⟩ = some (.int .i64 st) := fun d' os => cell_regrown x1 d' os
  have k2 : ∀ d' os, (grow (redrawn w8 d') os).cell? ⟨w.heap.size, 2, none⟩ = some (.int .i64 ep) := fun d' os => cell_regrown x2 d' os
  have k3 : ∀ d' os, (grow (redrawn w8 d') os).cell? ⟨w.heap.size, 3, none⟩ = some (.int .i64 vi) := fun d' os => cell_regrown x3 d' os
  have k4 : ∀ d' os, (grow (redrawn w8 d') os).cell? ⟨w.heap.size, 4, none⟩ = some (.int .i64 fr) := fun d' os => cell_regrown x4 d' os
  have k5 : ∀ d' os, (grow (redrawn w8 d') os).cell? ⟨w.heap.size, 5, none⟩ = some (.int .i64 le) := fun d' os => cell_regrown x5 d' os
  have k6 : ∀ d' os, (grow (redrawn w8 d') os).cell? ⟨w.heap.size, 6, none⟩ = some (.slice A es.length c) := fun d' os => cell_regrown x6 d' os
  have k7 : ∀ d' os, (grow (redrawn w8 d') os).cell? ⟨w.heap.size, 7, none⟩ = some (.slice A' fd.length c') := fun d' os => cell_regrown x7 d' os
  have l0 : ∀ d' os, (grow (redrawn w8 d') os).cell? ⟨w1.heap.size, 0, none⟩ = some (.int .i64 ki) := fun d' os => cell_regrown y0 d' os
  have l1 : ∀ d' os, (grow (redrawn w8 d') os).cell? ⟨w1.heap.size, 1, none⟩ = some (.int .i64 st) := fun d' os => cell_regrown y1 d' os
  have l2 : ∀ d' os, (grow (redrawn w8 d') os).cell? ⟨w1.heap.size, 2, none⟩ = some (.int .i64 ep) := fun d' os => cell_regrown y2 d' os
  have l3 : ∀ d' os, (grow (redrawn w8 d') os).cell? ⟨w1.heap.size, 3, none⟩ = some (.int .i64 vi) := fun d' os => cell_regrown y3 d' os
  have l4 : ∀ d' os, (grow (redrawn w8 d') os).cell? ⟨w1.heap.size, 4, none⟩ = some (.int .i64 fr) := fun d' os => cell_regrown y4 d' os
  have l5 : ∀ d' os, (grow (redrawn w8 d') os).cell? ⟨w1.heap.size, 5, none⟩ = some (.int .i64 le) := fun d' os => cell_regrown y5 d' os
  have l6 : ∀ d' os, (grow (redrawn w8 d') os).cell? ⟨w1.heap.size, 6, none⟩ = some (.slice (some ⟨g2, 0, none⟩) es.length c2) := fun d' os => cell_regrown y6 d' os
  have l7 : ∀ d' os, (grow (redrawn w8 d') os).cell? ⟨w1.heap.size, 7, none⟩ = some (.slice (some ⟨g3, 0, none⟩) fd.length c3) := fun d' os => cell_regrown y7 d' os
  have x70 := hTE8.2.1
  have x71 := hTF8.2.1
  have k70 : ∀ d' os, (grow (redrawn w8 d') os).cell? ⟨g2, es.length * 6, none⟩ = some (.int .i64 (-70)) := fun d' os => cell_regrown x70 d' os
  have k71 : ∀ d' os, (grow (redrawn w8 d') os).cell? ⟨g3, fd.length * 2 + 1, none⟩ = some (.int .i64 (-70)) := fun d' os => cell_regrown x71 d' os
  have hc2 := hTE8.2.2.2.2.1
  have hc3 := hTF8.2.2.2.2.1
  have HT8 := Lib.hid (And.intro hTE8 hTF8)
  have hBX : Hid (∀ d' os, Below w8.heap.size w8 (grow (redrawn w8 d') os)) := Lib.hid fun d' os => below_regrown w8 d' os
  have b0 : ∀ d' os, Calls Tryd.prog 10 #[.agg #[.int .i64 ki, .int .i64 st, .int .i64 ep, .int .i64 vi, .int .i64 fr, .int .i64 le, .slice (some ⟨g2, 0, none⟩) es.length c2, .slice (some ⟨g3, 0, none⟩) fd.length c3]] (grow (redrawn w8 d') os) fun e w'' => e = .returned (.int .i64 ec) ∧ ∃ p : Regrown, w'' = grow (redrawn w8 p.d) p.os := fun d' os => Calls.regrown_of (HCK.out _ (keepB hB8 (hBX.out d' os)) (HT8.out.1.below (hBX.out d' os)).1 (HT8.out.2.below (hBX.out d' os)).1 hg1 hg2)
  have b1 : ∀ d' os, Calls Tryd.prog 11 #[.agg #[.int .i64 ki, .int .i64 st, .int .i64 ep, .int .i64 vi, .int .i64 fr, .int .i64 le, .slice A es.length c, .slice A' fd.length c']] (grow (redrawn w8 d') os) fun e w'' => e = .returned (.int .i64 ec) ∧ ∃ p : Regrown, w'' = grow (redrawn w8 p.d) p.os := fun d' os => Calls.regrown_of (HRC.out _ ((RdB.mono (HLE.out _ (keepB hB8 (hBX.out d' os))) (keepB hB8 (hBX.out d' os)).size : EsB _ _ _ es)) ((RdB.mono (HLF.out _ (keepB hB8 (hBX.out d' os))) (keepB hB8 (hBX.out d' os)).size : FdB _ _ _ fd)))
  have b2 : ∀ d' os, Calls Tryd.prog 12 #[.agg #[.int .i64 ki, .int .i64 st, .int .i64 ep, .int .i64 vi, .int .i64 fr, .int .i64 le, .slice (some ⟨g2, 0, none⟩) es.length c2, .slice (some ⟨g3, 0, none⟩) fd.length c3], .agg #[.int .i64 ki, .int .i64 st, .int .i64 ep, .int .i64 vi, .int .i64 fr, .int .i64 le, .slice A es.length c, .slice A' fd.length c']] (grow (redrawn w8 d') os) fun e w'' => e = .returned (.bool true) ∧ ∃ p : Regrown, w'' = grow (redrawn w8 p.d) p.os := fun d' os => Calls.regrown_of (same_any ki st ep vi fr le (HT8.out.1.below (hBX.out d' os)).1 (HT8.out.2.below (hBX.out d' os)).1 (HLE.out _ (keepB hB8 (hBX.out d' os)) : EsB _ _ _ es) (HLF.out _ (keepB hB8 (hBX.out d' os)) : FdB _ _ _ fd) (Nat.le_refl _) (Nat.le_refl _) (keepB hB8 (hBX.out d' os)).size (keepB hB8 (hBX.out d' os)).size)
  have b3 : ∀ d' os, Calls Tryd.prog 13 #[] (grow (redrawn w8 d') os) fun e w'' => e = .returned (.bool true) ∧ ∃ p : Regrown, w'' = grow (redrawn w8 p.d) p.os := fun d' os => Calls.regrown_of (HWK.out _ (keepB hB8 (hBX.out d' os)))
  clear x0 x1 x2 x3 x4 x5 x6 x7 y0 y1 y2 y3 y4 y5 y6 y7 x70 x71 hTE8 hTF8 HCK HRC HWK HLE HLF HAK h_r8 h_t8
  go_wp2_with fail
  refine wp_region_quiet_below (by kernel_rfl) (by kernel_rfl) ?_
  repeat (go_big_quiet_step (first | with_reducible exact b0 _ _ | with_reducible exact b1 _ _ | with_reducible exact b2 _ _ | with_reducible exact b3 _ _))
  refine wpQuiet_nil ?_
  intro _ hw'
  obtain ⟨⟨dq, osq⟩, hw''⟩ := hw'
  subst hw''
  have hb9 := keepB hB8 (hBX.out dq osq)
  go_wp2_with fail
  go_ret
  exact ⟨rfl, hb9⟩
end Go.Proofs.YtkdnhfeamibmdaaDoor.recordsEncodeW
