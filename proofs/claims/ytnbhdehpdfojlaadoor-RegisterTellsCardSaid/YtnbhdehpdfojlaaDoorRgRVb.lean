/-
  Apply of the document, of a RecView: refused by its log.
-/
import Derived.Test.YtnbhdehpdfojlaaDoorRgRV0
namespace Go.Proofs.YtnbhdehpdfojlaaDoor
open Go.RowKit Go.Sort
set_option maxRecDepth 100000 in
set_option maxHeartbeats 16000000 in
theorem rapply_2b (p v : Int) (m : Nat) (st ep vi fr le : Int) (es xs : List En) (A XA FA : Option Addr) (c xc fn fc : Nat) (w : World) (ha : EsB w.heap.size w (.slice A es.length c) es) (hx : EsB w.heap.size w (.slice XA xs.length xc) xs) (hmay : (Re.mk p v es m).may = true) (hlx : xs.length ≤ 100000) (Q : Re × Bool) (hAQ0 : Hid (appQ ⟨p, v, es, m⟩ ⟨2, ep, vi, fr, le, xs⟩ = Q)) (f : Nat) (hf : Hid (frmR ⟨p, v, es, m⟩ ep = f)) (hyes : Hid (¬ (ep < 1 ∨ ep < p ∨ 1048576 < ep ∨ ¬ fr = (f : Int)))) (hlno : Hid (logB (es.take f ++ xs) ep = false ∨ ((es.take f ++ xs).length : Int) < (m : Int))) : Calls Tryd.prog 12 #[.agg #[.int .i64 p, .int .i64 v, .slice A es.length c, .int .i64 (m : Int)], .agg #[.int .i64 2, .int .i64 st, .int .i64 ep, .int .i64 vi, .int .i64 fr, .int .i64 le, .slice XA xs.length xc, .slice FA fn fc]] w (BehPost Q w) := by
  obtain ⟨hl64, -, hml⟩ := may_len hmay
  dsimp only at hl64 hml
  replace hml : m ≤ es.length := by omega
  obtain ⟨w1, HX1⟩ : ∃ W : World, Hid (W = ((w.alloc (.cells #[.int .i64 p, .int .i64 v, .slice A es.length c, .int .i64 (m : Int)] 24)).alloc (.cells #[.int .i64 2, .int .i64 st, .int .i64 ep, .int .i64 vi, .int .i64 fr, .int .i64 le, .slice XA xs.length xc, .slice FA fn fc] 27)).alloc (.cells #[.int .i64 0, .int .i64 0, .slice none 0 0, .int .i64 0] 24)) := ⟨_, Lib.hid rfl⟩
  obtain ⟨hz1, hb1, hg1, hr1, hq1⟩ := three_new HX1.out
  obtain ⟨n0, n1, n2, n3⟩ := box4 hg1
  have HC := Lib.hid (rregCheck_any p v m w1 (keepE hb1 ha))
  rw [hmay] at HC
  have hE1 := keepE hb1 ha
  have hF1 := keepE hb1 hx
  replace hmay := Lib.hid hmay
  clear ha hx
  go_enter Tryd.func12, Tryd.ntmps12
  go_wp2_with (rw [← HX1.out])
  refine (HC.out).mono ?_
  rintro e w2 ⟨rfl, hb2⟩
  have hg2 := keepH hb2 hg1
  have hr2 := keepH hb2 hr1
  have hq2 := keepH hb2 hq1
  have hE2 := keepE hb2 hE1
  have hF2 := keepE hb2 hF1
  have hW2 := keepB hb1 hb2
  have hz2 := lt_of_block hq2
  clear n0 n1 n2 n3 HC hg1 hr1 hq1 hb1 hE1 hF1 hb2
  have HS : Hid (∀ X : World, Below w2.heap.size w2 X → X.cell? ⟨w.heap.size, 0, none⟩ = some (.int .i64 p) ∧ X.cell? ⟨w.heap.size, 1, none⟩ = some (.int .i64 v) ∧ X.cell? ⟨w.heap.size, 2, none⟩ = some (.slice A es.length c) ∧ X.cell? ⟨w.heap.size, 3, none⟩ = some (.int .i64 (m : Int))) := Lib.hid fun X hX => box4 (keepH hX hg2)
  go_upto_region 3 with fail
  go_cut [6] (fun u wx => ∃ g A' c', u = .pointer (some ⟨g, 0, none⟩) ∧ w2.heap.size ≤ g ∧ Hid (wx.heap[g]? = some (.cells #[.int .i64 p, .int .i64 v, .slice A' es.length c', .int .i64 (m : Int)] 24 (0, 0))) ∧ Hid (EsB wx.heap.size wx (.slice A' es.length c') es) ∧ Hid (Below w2.heap.size w2 wx))
  case first =>
    have hQ : Below w2.heap.size w2 w2.drew := (Below.refl _ _).drew
    have hH := HS.out _ hQ
    clear hg2 hr2 hq2 hF2 hW2 hml hmay hAQ0 hf hyes hlno
    refine wp_region_held_drew (S := fun X => X.cell? ⟨w.heap.size, 0, none⟩ = some (.int .i64 p) ∧ X.cell? ⟨w.heap.size, 1, none⟩ = some (.int .i64 v) ∧ X.cell? ⟨w.heap.size, 2, none⟩ = some (.slice A es.length c) ∧ X.cell? ⟨w.heap.size, 3, none⟩ = some (.int .i64 (m : Int))) (by kernel_rfl) hH (fun hHeld => ?_)
    clear hH
    refine wpAnyH_take (i := 0) (v := ?_) rfl (by kernel_rfl) (by kernel_rfl) (by kernel_rfl) (fun _ _ _ h => h) (Or.inl ⟨by rfl, ?_⟩) (by assumption) ?_
    rotate_left
    · intro X hX
      go_simp
      try with_reducible rfl
    try simp only [List.getElem_toArray, List.getElem_cons_zero]
    try simp only [Act.put, List.setIfInBounds_toArray, List.set_cons_zero, List.set_cons_succ]
    refine wpAnyH_take (i := 1) (v := .int .i64 p) rfl (by kernel_rfl) (by kernel_rfl) (by kernel_rfl) (fun _ _ _ h => h) (Or.inl ⟨by rfl, ?_⟩) (by assumption) ?_
    · intro X hX
      obtain ⟨a0, a1, a2, a3⟩ := hX
      go_simp
    try simp only [List.getElem_toArray, List.getElem_cons_succ, List.getElem_cons_zero]
    try simp only [Act.put, List.setIfInBounds_toArray, List.set_cons_zero, List.set_cons_succ]
    refine wpAnyH_take (i := 2) (v := ?_) rfl (by kernel_rfl) (by kernel_rfl) (by kernel_rfl) (fun _ _ _ h => h) (Or.inl ⟨by rfl, ?_⟩) (by assumption) ?_
    rotate_left
    · intro X hX
      go_simp
      try with_reducible rfl
    try simp only [List.getElem_toArray, List.getElem_cons_succ, List.getElem_cons_zero]
    try simp only [Act.put, List.setIfInBounds_toArray, List.set_cons_zero, List.set_cons_succ]
    refine wpAnyH_take (i := 3) (v := .int .i64 v) rfl (by kernel_rfl) (by kernel_rfl) (by kernel_rfl) (fun _ _ _ h => h) (Or.inl ⟨by rfl, ?_⟩) (by assumption) ?_
    · intro X hX
      obtain ⟨a0, a1, a2, a3⟩ := hX
      go_simp
    try simp only [List.getElem_toArray, List.getElem_cons_succ, List.getElem_cons_zero]
    try simp only [Act.put, List.setIfInBounds_toArray, List.set_cons_zero, List.set_cons_succ]
    refine wpAnyH_take (i := 4) (v := ?_) rfl (by kernel_rfl) (by kernel_rfl) (by kernel_rfl) (fun _ _ _ h => h) (Or.inl ⟨by rfl, ?_⟩) (by assumption) ?_
    rotate_left
    · intro X hX
      go_simp
      try with_reducible rfl
    try simp only [List.getElem_toArray, List.getElem_cons_succ, List.getElem_cons_zero]
    try simp only [Act.put, List.setIfInBounds_toArray, List.set_cons_zero, List.set_cons_succ]
    refine wpAnyH_take (i := 5) (v := .slice A es.length c) rfl (by kernel_rfl) (by kernel_rfl) (by kernel_rfl) (fun _ _ _ h => h) (Or.inl ⟨by rfl, ?_⟩) (by assumption) ?_
    · intro X hX
      obtain ⟨a0, a1, a2, a3⟩ := hX
      go_simp
    try simp only [List.getElem_toArray, List.getElem_cons_succ, List.getElem_cons_zero]
    try simp only [Act.put, List.setIfInBounds_toArray, List.set_cons_zero, List.set_cons_succ]
    refine wpAnyH_take (i := 7) (v := ?_) rfl (by kernel_rfl) (by kernel_rfl) (by kernel_rfl) (fun _ _ _ h => h) (Or.inl ⟨by rfl, ?_⟩) (by assumption) ?_
    rotate_left
    · intro X hX
      go_simp
      try with_reducible rfl
    try simp only [List.getElem_toArray, List.getElem_cons_succ, List.getElem_cons_zero]
    try simp only [Act.put, List.setIfInBounds_toArray, List.set_cons_zero, List.set_cons_succ]
    refine wpAnyH_take (i := 8) (v := .int .i64 (m : Int)) rfl (by kernel_rfl) (by kernel_rfl) (by kernel_rfl) (fun _ _ _ h => h) (Or.inl ⟨by rfl, ?_⟩) (by assumption) ?_
    · intro X hX
      obtain ⟨a0, a1, a2, a3⟩ := hX
      go_simp
    try simp only [List.getElem_toArray, List.getElem_cons_succ, List.getElem_cons_zero]
    try simp only [Act.put, List.setIfInBounds_toArray, List.set_cons_zero, List.set_cons_succ]
    refine wpAnyH_ready (rs := [6,10]) (by kernel_rfl) (by simp) (AllReadyH.cons rfl (fun K hK => ?_) (AllReadyH.cons rfl (fun K hK => ?_) AllReadyH.nil))
    · obtain ⟨A', c', wm, hr6, hO, hg6, -⟩ := run_append_es (base := 0) (World.ownsRow_nil _ 0 _ 6) (keepE hQ hE2) (Nat.zero_le _) (by omega)
      rw [Nat.zero_add] at hr6 hO
      have hN := own_es (es := es) (by simpa using hO) (by omega)
      have hb := below_grow hg6 (fun q _ e => by simp [Value.ownBlock] at e) (Nat.le_refl _)
      refine step_app_known rfl _ _ 22 22 rfl (.slice none 0 0) (.slice A es.length c) (by simp [Act.eval]) (by simp [Act.eval]) hr6 ?_
      replace hQ := keepB hQ hb
      clear hr6 hO hg6 hb
      have hH := HS.out _ hQ
      refine hK.out _ _ ?_ (fun hHeld => ?_)
      · with_reducible exact hH
      clear hK K hH
      try simp only [List.getElem_toArray, List.getElem_cons_succ, List.getElem_cons_zero]
      try simp only [Act.put, List.setIfInBounds_toArray, List.set_cons_zero, List.set_cons_succ]
      refine wpAnyH_take (i := 9) (v := ?_) rfl (by kernel_rfl) (by kernel_rfl) (by kernel_rfl) (fun _ _ _ h => h) (Or.inl ⟨by rfl, ?_⟩) (by assumption) ?_
      rotate_left
      · intro X hX
        go_simp
        try with_reducible rfl
      try simp only [List.getElem_toArray, List.getElem_cons_succ, List.getElem_cons_zero]
      try simp only [Act.put, List.setIfInBounds_toArray, List.set_cons_zero, List.set_cons_succ]
      refine wpAnyH_ready (rs := [10]) (by kernel_rfl) (by simp) (AllReadyH.cons rfl (fun K hK => ?_) AllReadyH.nil)
      · refine step_alloc_new rfl 24 rfl #[.int .i64 0, .int .i64 0, .slice none 0 0, .int .i64 0] alloc_rg ?_
        intro gF wn hF hgFb hb
        replace hgFb : w2.heap.size ≤ gF := Nat.le_trans hQ.size hgFb
        replace hQ := keepB hQ hb
        replace hN := keepE hb hN
        clear hb
        have hH := HS.out _ hQ
        refine hK.out _ _ ?_ (fun hHeld => ?_)
        · with_reducible exact hH
        clear hK K hH
        try simp only [List.getElem_toArray, List.getElem_cons_succ, List.getElem_cons_zero]
        try simp only [Act.put, List.setIfInBounds_toArray, List.set_cons_zero, List.set_cons_succ]
        refine wpAnyH_ready (rs := [11]) (by kernel_rfl) (by simp) (AllReadyH.cons rfl (fun K hK => ?_) AllReadyH.nil)
        · obtain ⟨wm, HST, hNew, hbl, hzz, hoth⟩ := rg_store (w2.heap.size) (p) (v) (A') (es.length) (c') ((m : Int)) hF rfl hgFb
          refine step_store_known rfl 24 _ _ rfl ⟨gF, 0, none⟩ (.agg #[.int .i64 (p), .int .i64 (v), .slice (A') (es.length) (c'), .int .i64 ((m : Int))]) (by simp [Act.eval]) (by simp [Act.eval]) HST.out ?_
          replace hQ := hQ.trans hbl
          replace hN := es_store hN hF (by simp) hoth hzz
          replace hF := hNew
          clear HST hNew hbl hzz hoth
          have hH := HS.out _ hQ
          refine hK.out _ _ ?_ (fun hHeld => ?_)
          · with_reducible exact hH
          clear hK K hH
          try simp only [List.getElem_toArray, List.getElem_cons_succ, List.getElem_cons_zero]
          try simp only [Act.put]
          refine wpAnyH_done (by kernel_rfl) ?_ _
          go_wp2_with fail
          go_meet
          case rel => exact ⟨gF, A', c', rfl, hgFb, Lib.hid hF, Lib.hid hN, Lib.hid hQ⟩
    · refine step_alloc_new rfl 24 rfl #[.int .i64 0, .int .i64 0, .slice none 0 0, .int .i64 0] alloc_rg ?_
      intro gF wn hF hgFb hb
      replace hgFb : w2.heap.size ≤ gF := Nat.le_trans hQ.size hgFb
      replace hQ := keepB hQ hb
      clear hb
      have hH := HS.out _ hQ
      refine hK.out _ _ ?_ (fun hHeld => ?_)
      · with_reducible exact hH
      clear hK K hH
      try simp only [List.getElem_toArray, List.getElem_cons_succ, List.getElem_cons_zero]
      try simp only [Act.put, List.setIfInBounds_toArray, List.set_cons_zero, List.set_cons_succ]
      refine wpAnyH_ready (rs := [6]) (by kernel_rfl) (by simp) (AllReadyH.cons rfl (fun K hK => ?_) AllReadyH.nil)
      · obtain ⟨A', c', wm, hr6, hO, hg6, -⟩ := run_append_es (base := 0) (World.ownsRow_nil _ 0 _ 6) (keepE hQ hE2) (Nat.zero_le _) (by omega)
        rw [Nat.zero_add] at hr6 hO
        have hN := own_es (es := es) (by simpa using hO) (by omega)
        have hb := below_grow hg6 (fun q _ e => by simp [Value.ownBlock] at e) (Nat.le_refl _)
        refine step_app_known rfl _ _ 22 22 rfl (.slice none 0 0) (.slice A es.length c) (by simp [Act.eval]) (by simp [Act.eval]) hr6 ?_
        replace hQ := keepB hQ hb
        replace hF := keepH hb hF
        clear hr6 hO hg6 hb
        have hH := HS.out _ hQ
        refine hK.out _ _ ?_ (fun hHeld => ?_)
        · with_reducible exact hH
        clear hK K hH
        try simp only [List.getElem_toArray, List.getElem_cons_succ, List.getElem_cons_zero]
        try simp only [Act.put, List.setIfInBounds_toArray, List.set_cons_zero, List.set_cons_succ]
        refine wpAnyH_take (i := 9) (v := ?_) rfl (by kernel_rfl) (by kernel_rfl) (by kernel_rfl) (fun _ _ _ h => h) (Or.inl ⟨by rfl, ?_⟩) (by assumption) ?_
        rotate_left
        · intro X hX
          go_simp
          try with_reducible rfl
        try simp only [List.getElem_toArray, List.getElem_cons_succ, List.getElem_cons_zero]
        try simp only [Act.put, List.setIfInBounds_toArray, List.set_cons_zero, List.set_cons_succ]
        refine wpAnyH_ready (rs := [11]) (by kernel_rfl) (by simp) (AllReadyH.cons rfl (fun K hK => ?_) AllReadyH.nil)
        · obtain ⟨wm, HST, hNew, hbl, hzz, hoth⟩ := rg_store (w2.heap.size) (p) (v) (A') (es.length) (c') ((m : Int)) hF rfl hgFb
          refine step_store_known rfl 24 _ _ rfl ⟨gF, 0, none⟩ (.agg #[.int .i64 (p), .int .i64 (v), .slice (A') (es.length) (c'), .int .i64 ((m : Int))]) (by simp [Act.eval]) (by simp [Act.eval]) HST.out ?_
          replace hQ := hQ.trans hbl
          replace hN := es_store hN hF (by simp) hoth hzz
          replace hF := hNew
          clear HST hNew hbl hzz hoth
          have hH := HS.out _ hQ
          refine hK.out _ _ ?_ (fun hHeld => ?_)
          · with_reducible exact hH
          clear hK K hH
          try simp only [List.getElem_toArray, List.getElem_cons_succ, List.getElem_cons_zero]
          try simp only [Act.put]
          refine wpAnyH_done (by kernel_rfl) ?_ _
          go_wp2_with fail
          go_meet
          case rel => exact ⟨gF, A', c', rfl, hgFb, Lib.hid hF, Lib.hid hN, Lib.hid hQ⟩
  case rest =>
  obtain ⟨g6, A6, c6, rfl, hgb, hF, hN, hkp⟩ := hcut
  obtain ⟨w4, he⟩ : ∃ W, W = wc := ⟨_, rfl⟩
  subst he
  replace hkp := hkp.out
  have h6 := hF.out
  have e6 := hN.out
  have hg4 := keepH hkp hg2
  have hr4 := keepH hkp hr2
  have hq4 := keepH hkp hq2
  have hE4 := keepE hkp hE2
  have hF4 := keepE hkp hF2
  have hW4 := keepB hW2 hkp
  have hz6 := lt_of_block h6
  clear HS hg2 hr2 hq2 hE2 hF2 hW2 hF hN
  obtain ⟨n0, n1, n2, n3⟩ := box4 hg4
  obtain ⟨m0, m1, m2, m3, m4, m5, m6, m7⟩ := box8 hr4
  obtain ⟨k0, k1, k2, k3⟩ := box4 h6
  have hfl : f ≤ es.length := by rw [← hf.out]; exact frmR_le _ _
  have HF1 : Hid (ep = v → f = es.length) := Lib.hid fun h => by rw [← hf.out]; exact frmR_new h
  have HF2 : Hid (¬ ep = v → f = 0) := Lib.hid fun h => by rw [← hf.out]; exact frmR_old h
  go_upto_if 49 with fail
  go_cut [7] (fun s wx => s = .int .i64 (f : Int) ∧ wx = w4)
  case first =>
    by_cases qv : ep = v
    · have tv : (ep == v) = true := by simp [qv]
      have e := Lib.hid (HF1.out qv)
      clear qv
      go_wp2_with fail
      go_meet
      case rel => exact ⟨by rw [e.out], rfl⟩
    · have tv : (ep == v) = false := by simp [qv]
      have e := Lib.hid (HF2.out qv)
      clear qv
      go_wp2_with fail
      go_meet
      case rel => exact ⟨by rw [e.out]; rfl, rfl⟩
  case rest =>
  obtain ⟨rfl, hw4⟩ := hcut
  replace hw4 := hw4.symm
  subst hw4
  clear HF1 HF2
  have hy := hyes.out
  simp only [not_or] at hy
  obtain ⟨q0, q1, q2, q3⟩ := hy
  have t0 : decide (ep < 1) = false := decide_eq_false q0
  have t1 : decide (ep < p) = false := decide_eq_false q1
  have t2 : decide ((1048576 : Int) < ep) = false := decide_eq_false q2
  clear hyes
  have hfr := Decidable.not_not.1 q3
  have t3 : (fr != (f : Int)) = false := by simp [hfr]
  clear q3
  obtain ⟨ls, hls⟩ : ∃ ls, Hid (es.take f ++ xs = ls) := ⟨_, Lib.hid rfl⟩
  have hls0 := hls.out
  replace hls0 := Lib.hid hls0
  have hll : f + xs.length = ls.length := by rw [← hls.out]; simp; omega
  have hfr' : fr = (frmR ⟨p, v, es, m⟩ ep : Int) := by rw [hf.out]; exact hfr
  have HLG : Hid (logB ls ep = false → Q = (Re.zero, false)) := Lib.hid fun h => hAQ0.out.symm.trans (appQ_2log hmay.out q0 q1 hfr' (by rw [hf.out, hls.out]; exact h))
  have HPR : Hid (pre (es.take m) ls = false → Q = (Re.zero, false)) := Lib.hid fun h => hAQ0.out.symm.trans (appQ_2pre hmay.out q0 q1 hfr' (by rw [hf.out, hls.out]; exact h))
  have HYS : Hid (logB ls ep = true → ¬ (ls.length : Int) < (m : Int) → pre (es.take m) ls = true → Q = (⟨ep, ep, ls, m⟩, true)) := Lib.hid fun h1 h2 h3 => by
    have h := hAQ0.out.symm.trans (appQ_2yes (le := le) (vi := vi) hmay.out q0 q1 q2 hfr' (by rw [hf.out, hls.out]; exact h1) (by rw [hf.out, hls.out]; exact h2) (by rw [hf.out, hls.out]; exact h3))
    rw [hf.out, hls.out] at h
    exact h
  have hca := (es_len hE4).2
  have hcx := (es_len hF4).2
  unfold maxLen at hca hcx
  have hfc : ¬ c < f := by omega
  clear hAQ0 hmay hf q0 q1 q2 hfr' e6
  subst hfr
  have HS : Hid (∀ X : World, Below w4.heap.size w4 X → X.cell? ⟨w.heap.size, 2, none⟩ = some (.slice A es.length c) ∧ X.cell? ⟨w.heap.size + 1, 6, none⟩ = some (.slice XA xs.length xc)) := Lib.hid fun X hX => ⟨(box4 (keepH hX hg4)).2.2.1, (box8 (keepH hX hr4)).2.2.2.2.2.2.1⟩
  go_upto_region 16 with fail
  go_cut [8] (fun u wx => ∃ A' c', u = .slice A' ls.length c' ∧ Hid (EsB wx.heap.size wx (.slice A' ls.length c') ls) ∧ Hid (Below w4.heap.size w4 wx))
  case first =>
    have hQ : Below w4.heap.size w4 w4.drew := (Below.refl _ _).drew
    have hH := HS.out _ hQ
    clear n0 n1 n2 n3 m0 m1 m2 m3 m4 m5 m6 m7 k0 k1 k2 k3 h6 hg4 hr4 hq4 hW4 hkp HLG HPR HYS
    refine wp_region_held_drew (S := fun X => X.cell? ⟨w.heap.size, 2, none⟩ = some (.slice A es.length c) ∧ X.cell? ⟨w.heap.size + 1, 6, none⟩ = some (.slice XA xs.length xc)) (by kernel_rfl) hH (fun hHeld => ?_)
    clear hH
    refine wpAnyH_take (i := 0) (v := ?_) rfl (by kernel_rfl) (by kernel_rfl) (by kernel_rfl) (fun _ _ _ h => h) (Or.inl ⟨by rfl, ?_⟩) (by assumption) ?_
    rotate_left
    · intro X hX
      go_simp
      try with_reducible rfl
    try simp only [List.getElem_toArray, List.getElem_cons_zero]
    try simp only [Act.put, List.setIfInBounds_toArray, List.set_cons_zero, List.set_cons_succ]
    refine wpAnyH_take (i := 1) (v := .slice A es.length c) rfl (by kernel_rfl) (by kernel_rfl) (by kernel_rfl) (fun _ _ _ h => h) (Or.inl ⟨by rfl, ?_⟩) (by assumption) ?_
    · intro X hX
      obtain ⟨s2, s6⟩ := hX
      go_simp
    try simp only [List.getElem_toArray, List.getElem_cons_succ, List.getElem_cons_zero]
    try simp only [Act.put, List.setIfInBounds_toArray, List.set_cons_zero, List.set_cons_succ]
    refine wpAnyH_take (i := 2) (v := ?_) rfl (by kernel_rfl) (by kernel_rfl) (by kernel_rfl) (fun _ _ _ h => h) (Or.inl ⟨by rfl, ?_⟩) (by assumption) ?_
    rotate_left
    · intro X hX
      go_simp
      try with_reducible rfl
    try simp only [List.getElem_toArray, List.getElem_cons_succ, List.getElem_cons_zero]
    try simp only [Act.put, List.setIfInBounds_toArray, List.set_cons_zero, List.set_cons_succ]
    refine wpAnyH_take (i := 3) (v := .slice A f c) rfl (by kernel_rfl) (by kernel_rfl) (by kernel_rfl) (fun _ _ _ h => h) (Or.inl ⟨by rfl, ?_⟩) (by assumption) ?_
    · intro X hX
      go_simp
    try simp only [List.getElem_toArray, List.getElem_cons_succ, List.getElem_cons_zero]
    try simp only [Act.put, List.setIfInBounds_toArray, List.set_cons_zero, List.set_cons_succ]
    refine wpAnyH_take (i := 5) (v := ?_) rfl (by kernel_rfl) (by kernel_rfl) (by kernel_rfl) (fun _ _ _ h => h) (Or.inl ⟨by rfl, ?_⟩) (by assumption) ?_
    rotate_left
    · intro X hX
      go_simp
      try with_reducible rfl
    try simp only [List.getElem_toArray, List.getElem_cons_succ, List.getElem_cons_zero]
    try simp only [Act.put, List.setIfInBounds_toArray, List.set_cons_zero, List.set_cons_succ]
    refine wpAnyH_take (i := 6) (v := .slice XA xs.length xc) rfl (by kernel_rfl) (by kernel_rfl) (by kernel_rfl) (fun _ _ _ h => h) (Or.inl ⟨by rfl, ?_⟩) (by assumption) ?_
    · intro X hX
      obtain ⟨s2, s6⟩ := hX
      go_simp
    try simp only [List.getElem_toArray, List.getElem_cons_succ, List.getElem_cons_zero]
    try simp only [Act.put, List.setIfInBounds_toArray, List.set_cons_zero, List.set_cons_succ]
    refine wpAnyH_ready (rs := [4]) (by kernel_rfl) (by simp) (AllReadyH.cons rfl (fun K hK => ?_) AllReadyH.nil)
    · have hTL : (es.take f).length = f := by simp [Nat.min_eq_left hfl]
      obtain ⟨A4, c4, wm, hr4', hO4, hg4', -⟩ := run_append_es (base := w4.heap.size) (World.ownsRow_nil _ w4.heap.size _ 6) (EsB.take (keepE hQ hE4) hfl) hQ.size (by omega)
      rw [Nat.zero_add, hTL] at hr4' hO4
      have hb := below_grow hg4' (fun q _ e => by simp [Value.ownBlock] at e) (Nat.le_refl _)
      refine step_app_known rfl _ _ 22 22 rfl (.slice none 0 0) (.slice A f c) (by simp [Act.eval]) (by simp [Act.eval]) hr4' ?_
      replace hQ := keepB hQ hb
      clear hr4' hg4' hb
      have hH := HS.out _ hQ
      refine hK.out _ _ ?_ (fun hHeld => ?_)
      · with_reducible exact hH
      clear hK K hH
      try simp only [List.getElem_toArray, List.getElem_cons_succ, List.getElem_cons_zero]
      try simp only [Act.put, List.setIfInBounds_toArray, List.set_cons_zero, List.set_cons_succ]
      refine wpAnyH_ready (rs := [7]) (by kernel_rfl) (by simp) (AllReadyH.cons rfl (fun K hK => ?_) AllReadyH.nil)
      · obtain ⟨A', c', wm, hr7, hO7, hg7, -⟩ := run_append_es hO4 (keepE hQ hF4) hQ.size (by omega)
        rw [hll] at hr7 hO7
        have hN : EsB wm.heap.size wm (.slice A' ls.length c') ls := own_es (by rw [← hls.out, ecs_append, hls.out]; simpa using hO7) (by omega)
        refine step_app_known rfl _ _ 22 22 rfl (.slice A4 f c4) (.slice XA xs.length xc) (by simp [Act.eval]) (by simp [Act.eval]) hr7 ?_
        replace hQ := hQ.trans (below_grow hg7 (fun q h1 e => by have := (World.ownsRow.lt hO4 _ e).1; omega) hQ.size)
        clear hr7 hg7 hO7 hO4
        have hH := HS.out _ hQ
        refine hK.out _ _ ?_ (fun hHeld => ?_)
        · with_reducible exact hH
        clear hK K hH
        try simp only [List.getElem_toArray, List.getElem_cons_succ, List.getElem_cons_zero]
        try simp only [Act.put, List.setIfInBounds_toArray, List.set_cons_zero, List.set_cons_succ]
        refine wpAnyH_take (i := 8) (v := ?_) rfl (by kernel_rfl) (by kernel_rfl) (by kernel_rfl) (fun _ _ _ h => h) (Or.inl ⟨by rfl, ?_⟩) (by assumption) ?_
        rotate_left
        · intro X hX
          go_simp
          try with_reducible rfl
        try simp only [List.getElem_toArray, List.getElem_cons_succ, List.getElem_cons_zero]
        try simp only [Act.put, List.setIfInBounds_toArray, List.set_cons_zero, List.set_cons_succ]
        refine wpAnyH_done (by kernel_rfl) ?_ _
        go_wp2_with fail
        go_meet
        case rel => exact ⟨A', c', rfl, Lib.hid hN, Lib.hid hQ⟩
  case rest =>
  obtain ⟨A5, c5, rfl, hN, hk⟩ := hcut
  obtain ⟨w5, he⟩ : ∃ W, W = wc := ⟨_, rfl⟩
  subst he
  replace hk := hk.out
  have eN := hN.out
  replace h6 := keepH hk h6
  replace hg4 := keepH hk hg4
  replace hr4 := keepH hk hr4
  replace hq4 := keepH hk hq4
  replace hE4 := keepE hk hE4
  replace hW4 := keepB hW4 hk
  have hz5 := hk.size
  clear HS hN hF4 n0 n1 n2 n3 m0 m1 m2 m3 m4 m5 m6 m7 k0 k1 k2 k3 hkp hk hls
  obtain ⟨n0, n1, n2, n3⟩ := box4 hg4
  obtain ⟨m0, m1, m2, m3, m4, m5, m6, m7⟩ := box8 hr4
  have HC := Lib.hid (rlog_any ep w5 eN)
  cases hlg : logB ls ep with
  | false =>
    rw [hlg] at HC
    have hQ := Lib.hid (HLG.out hlg)
    clear HLG HPR HYS hlg
    go_wp2_with fail
    refine (HC.out).mono ?_
    rintro e w6 ⟨rfl, hb6⟩
    have hq6 := keepH hb6 hq4
    have hW6 := keepB hW4 hb6
    clear n0 n1 n2 n3 m0 m1 m2 m3 m4 m5 m6 m7 HC hb6
    obtain ⟨w9, HST9, hq9, hbl9, -, -⟩ := rg_store w.heap.size 0 0 none 0 0 0 hq6 rfl (by omega)
    have hW9 := hW6.trans hbl9
    clear h6 eN hg4 hr4 hq4 hE4 hW4 hbl9 hq6 hW6
    go_wp2_with (first | (with_reducible refine wpList_store_known (by rfl) 24 _ _ (by rfl) ⟨w.heap.size + 1 + 1, 0, none⟩ _ (by with_unfolding_all rfl) (by with_unfolding_all rfl) HST9.out ?_))
    (try simp only [Exit.inBlock, Exit.then]); refine bodyPost_ret (results_row_tmp rfl _ _ (w.heap.size + 1 + 1) 24 #[.int .i64 0, .int .i64 0, .slice none 0 0, .int .i64 0] (0, 0) _ rfl hq9 Tryd.underlying24 rfl (by kernel_rfl)) rfl ?_
    rw [hQ.out]
    exact ⟨none, 0, rfl, es_nil _ _, hW9⟩
  | true =>
    rw [hlg] at HC
    replace hlg := Lib.hid hlg
    by_cases qm : (ls.length : Int) < (m : Int)
    · have tm : decide ((ls.length : Int) < (m : Int)) = true := decide_eq_true qm
      have tm' : decide (ls.length < m) = true := decide_eq_true (by omega)
      have hQ := Lib.hid (HPR.out (pre_short hml (by omega)))
      clear HLG HPR HYS qm
      go_wp2_with fail
      refine (HC.out).mono ?_
      rintro e w6 ⟨rfl, hb6⟩
      have hq6 := keepH hb6 hq4
      have hg6 := keepH hb6 hg4
      have hW6 := keepB hW4 hb6
      clear n0 n1 n2 n3 m0 m1 m2 m3 m4 m5 m6 m7 HC hb6
      obtain ⟨n0, n1, n2, n3⟩ := box4 hg6
      obtain ⟨w9, HST9, hq9, hbl9, -, -⟩ := rg_store w.heap.size 0 0 none 0 0 0 hq6 rfl (by omega)
      have hW9 := hW6.trans hbl9
      clear h6 eN hg4 hr4 hq4 hE4 hW4 hbl9 hq6 hW6 hg6
      go_wp2_with (first | (with_reducible refine wpList_store_known (by rfl) 24 _ _ (by rfl) ⟨w.heap.size + 1 + 1, 0, none⟩ _ (by with_unfolding_all rfl) (by with_unfolding_all rfl) HST9.out ?_))
      (try simp only [Exit.inBlock, Exit.then]); refine bodyPost_ret (results_row_tmp rfl _ _ (w.heap.size + 1 + 1) 24 #[.int .i64 0, .int .i64 0, .slice none 0 0, .int .i64 0] (0, 0) _ rfl hq9 Tryd.underlying24 rfl (by kernel_rfl)) rfl ?_
      rw [hQ.out]
      exact ⟨none, 0, rfl, es_nil _ _, hW9⟩
    exact absurd hlno.out (by rw [hls0.out]; simp only [not_or]; exact ⟨by rw [hlg.out]; simp, qm⟩)
end Go.Proofs.YtnbhdehpdfojlaaDoor
