/-
  Apply of the document, of a RecView: entry by entry.
-/
import Derived.Test.YtnbhdehpdfojlaaDoorRgRV0
namespace Go.Proofs.YtnbhdehpdfojlaaDoor
open Go.RowKit Go.Sort
set_option maxRecDepth 100000 in
set_option maxHeartbeats 16000000 in
theorem rapply_2c (p v : Int) (m : Nat) (st ep vi fr le : Int) (es xs : List En) (A XA FA : Option Addr) (c xc fn fc : Nat) (w : World) (ha : EsB w.heap.size w (.slice A es.length c) es) (hx : EsB w.heap.size w (.slice XA xs.length xc) xs) (hmay : (Re.mk p v es m).may = true) (hlx : xs.length ≤ 100000) (Q : Re × Bool) (hAQ0 : Hid (appQ ⟨p, v, es, m⟩ ⟨2, ep, vi, fr, le, xs⟩ = Q)) (f : Nat) (hf : Hid (frmR ⟨p, v, es, m⟩ ep = f)) (hyes : Hid (¬ (ep < 1 ∨ ep < p ∨ 1048576 < ep ∨ ¬ fr = (f : Int)))) (hlyes : Hid (¬ (logB (es.take f ++ xs) ep = false ∨ ((es.take f ++ xs).length : Int) < (m : Int)))) : Calls Tryd.prog 12 #[.agg #[.int .i64 p, .int .i64 v, .slice A es.length c, .int .i64 (m : Int)], .agg #[.int .i64 2, .int .i64 st, .int .i64 ep, .int .i64 vi, .int .i64 fr, .int .i64 le, .slice XA xs.length xc, .slice FA fn fc]] w (BehPost Q w) := by
  obtain ⟨hl64, -, hml⟩ := may_len hmay
  dsimp only at hl64 hml
  replace hml : m ≤ es.length := by omega
  obtain ⟨w1, HX1⟩ : ∃ W : World, Hid (W = ((w.alloc (.cells #[.int .i64 p, .int .i64 v, .slice A es.length c, .int .i64 (m : Int)] 24)).alloc (.cells #[.int .i64 2, .int .i64 st, .int .i64 ep, .int .i64 vi, .int .i64 fr, .int .i64 le, .slice XA xs.length xc, .slice FA fn fc] 27)).alloc (.cells #[.int .i64 0, .int .i64 0, .slice none 0 0, .int .i64 0] 24)) := ⟨_, Lib.hid rfl⟩
  obtain ⟨hz1, hb1, hg1, hr1, hq1⟩ := three_new HX1.out
  obtain ⟨n0, n1, n2, n3⟩ := box4 hg1
  have HC := Lib.hid (rregCheck_any p v m w1 (keepE hb1 ha))
  rw [hmay] at HC
  have hE1 := keepE hb1 ha
  have hF1 := keepE hb1 hx
  replace hmay := Lib.hid hmay
  clear ha hx
  go_enter Tryd.func12, Tryd.ntmps12
  go_wp2_with (rw [← HX1.out])
  refine (HC.out).mono ?_
  rintro e w2 ⟨rfl, hb2⟩
  have hg2 := keepH hb2 hg1
  have hr2 := keepH hb2 hr1
  have hq2 := keepH hb2 hq1
  have hE2 := keepE hb2 hE1
  have hF2 := keepE hb2 hF1
  have hW2 := keepB hb1 hb2
  have hz2 := lt_of_block hq2
  clear n0 n1 n2 n3 HC hg1 hr1 hq1 hb1 hE1 hF1 hb2
  have HS : Hid (∀ X : World, Below w2.heap.size w2 X → X.cell? ⟨w.heap.size, 0, none⟩ = some (.int .i64 p) ∧ X.cell? ⟨w.heap.size, 1, none⟩ = some (.int .i64 v) ∧ X.cell? ⟨w.heap.size, 2, none⟩ = some (.slice A es.length c) ∧ X.cell? ⟨w.heap.size, 3, none⟩ = some (.int .i64 (m : Int))) := Lib.hid fun X hX => box4 (keepH hX hg2)
  go_upto_region 3 with fail
  go_cut [6] (fun u wx => ∃ g A' c', u = .pointer (some ⟨g, 0, none⟩) ∧ w2.heap.size ≤ g ∧ Hid (wx.heap[g]? = some (.cells #[.int .i64 p, .int .i64 v, .slice A' es.length c', .int .i64 (m : Int)] 24 (0, 0))) ∧ Hid (EsB wx.heap.size wx (.slice A' es.length c') es) ∧ Hid (Below w2.heap.size w2 wx))
  case first =>
    have hQ : Below w2.heap.size w2 w2.drew := (Below.refl _ _).drew
    have hH := HS.out _ hQ
    clear hg2 hr2 hq2 hF2 hW2 hml hmay hAQ0 hf hyes hlyes
    refine wp_region_held_drew (S := fun X => X.cell? ⟨w.heap.size, 0, none⟩ = some (.int .i64 p) ∧ X.cell? ⟨w.heap.size, 1, none⟩ = some (.int .i64 v) ∧ X.cell? ⟨w.heap.size, 2, none⟩ = some (.slice A es.length c) ∧ X.cell? ⟨w.heap.size, 3, none⟩ = some (.int .i64 (m : Int))) (by kernel_rfl) hH (fun hHeld => ?_)
    clear hH
    refine wpAnyH_take (i := 0) (v := ?_) rfl (by kernel_rfl) (by kernel_rfl) (by kernel_rfl) (fun _ _ _ h => h) (Or.inl ⟨by rfl, ?_⟩) (by assumption) ?_
    rotate_left
    · intro X hX
      go_simp
      try with_reducible rfl
    try simp only [List.getElem_toArray, List.getElem_cons_zero]
    try simp only [Act.put, List.setIfInBounds_toArray, List.set_cons_zero, List.set_cons_succ]
    refine wpAnyH_take (i := 1) (v := .int .i64 p) rfl (by kernel_rfl) (by kernel_rfl) (by kernel_rfl) (fun _ _ _ h => h) (Or.inl ⟨by rfl, ?_⟩) (by assumption) ?_
    · intro X hX
      obtain ⟨a0, a1, a2, a3⟩ := hX
      go_simp
    try simp only [List.getElem_toArray, List.getElem_cons_succ, List.getElem_cons_zero]
    try simp only [Act.put, List.setIfInBounds_toArray, List.set_cons_zero, List.set_cons_succ]
    refine wpAnyH_take (i := 2) (v := ?_) rfl (by kernel_rfl) (by kernel_rfl) (by kernel_rfl) (fun _ _ _ h => h) (Or.inl ⟨by rfl, ?_⟩) (by assumption) ?_
    rotate_left
    · intro X hX
      go_simp
      try with_reducible rfl
    try simp only [List.getElem_toArray, List.getElem_cons_succ, List.getElem_cons_zero]
    try simp only [Act.put, List.setIfInBounds_toArray, List.set_cons_zero, List.set_cons_succ]
    refine wpAnyH_take (i := 3) (v := .int .i64 v) rfl (by kernel_rfl) (by kernel_rfl) (by kernel_rfl) (fun _ _ _ h => h) (Or.inl ⟨by rfl, ?_⟩) (by assumption) ?_
    · intro X hX
      obtain ⟨a0, a1, a2, a3⟩ := hX
      go_simp
    try simp only [List.getElem_toArray, List.getElem_cons_succ, List.getElem_cons_zero]
    try simp only [Act.put, List.setIfInBounds_toArray, List.set_cons_zero, List.set_cons_succ]
    refine wpAnyH_take (i := 4) (v := ?_) rfl (by kernel_rfl) (by kernel_rfl) (by kernel_rfl) (fun _ _ _ h => h) (Or.inl ⟨by rfl, ?_⟩) (by assumption) ?_
    rotate_left
    · intro X hX
      go_simp
      try with_reducible rfl
    try simp only [List.getElem_toArray, List.getElem_cons_succ, List.getElem_cons_zero]
    try simp only [Act.put, List.setIfInBounds_toArray, List.set_cons_zero, List.set_cons_succ]
    refine wpAnyH_take (i := 5) (v := .slice A es.length c) rfl (by kernel_rfl) (by kernel_rfl) (by kernel_rfl) (fun _ _ _ h => h) (Or.inl ⟨by rfl, ?_⟩) (by assumption) ?_
    · intro X hX
      obtain ⟨a0, a1, a2, a3⟩ := hX
      go_simp
    try simp only [List.getElem_toArray, List.getElem_cons_succ, List.getElem_cons_zero]
    try simp only [Act.put, List.setIfInBounds_toArray, List.set_cons_zero, List.set_cons_succ]
    refine wpAnyH_take (i := 7) (v := ?_) rfl (by kernel_rfl) (by kernel_rfl) (by kernel_rfl) (fun _ _ _ h => h) (Or.inl ⟨by rfl, ?_⟩) (by assumption) ?_
    rotate_left
    · intro X hX
      go_simp
      try with_reducible rfl
    try simp only [List.getElem_toArray, List.getElem_cons_succ, List.getElem_cons_zero]
    try simp only [Act.put, List.setIfInBounds_toArray, List.set_cons_zero, List.set_cons_succ]
    refine wpAnyH_take (i := 8) (v := .int .i64 (m : Int)) rfl (by kernel_rfl) (by kernel_rfl) (by kernel_rfl) (fun _ _ _ h => h) (Or.inl ⟨by rfl, ?_⟩) (by assumption) ?_
    · intro X hX
      obtain ⟨a0, a1, a2, a3⟩ := hX
      go_simp
    try simp only [List.getElem_toArray, List.getElem_cons_succ, List.getElem_cons_zero]
    try simp only [Act.put, List.setIfInBounds_toArray, List.set_cons_zero, List.set_cons_succ]
    refine wpAnyH_ready (rs := [6,10]) (by kernel_rfl) (by simp) (AllReadyH.cons rfl (fun K hK => ?_) (AllReadyH.cons rfl (fun K hK => ?_) AllReadyH.nil))
    · obtain ⟨A', c', wm, hr6, hO, hg6, -⟩ := run_append_es (base := 0) (World.ownsRow_nil _ 0 _ 6) (keepE hQ hE2) (Nat.zero_le _) (by omega)
      rw [Nat.zero_add] at hr6 hO
      have hN := own_es (es := es) (by simpa using hO) (by omega)
      have hb := below_grow hg6 (fun q _ e => by simp [Value.ownBlock] at e) (Nat.le_refl _)
      refine step_app_known rfl _ _ 22 22 rfl (.slice none 0 0) (.slice A es.length c) (by simp [Act.eval]) (by simp [Act.eval]) hr6 ?_
      replace hQ := keepB hQ hb
      clear hr6 hO hg6 hb
      have hH := HS.out _ hQ
      refine hK.out _ _ ?_ (fun hHeld => ?_)
      · with_reducible exact hH
      clear hK K hH
      try simp only [List.getElem_toArray, List.getElem_cons_succ, List.getElem_cons_zero]
      try simp only [Act.put, List.setIfInBounds_toArray, List.set_cons_zero, List.set_cons_succ]
      refine wpAnyH_take (i := 9) (v := ?_) rfl (by kernel_rfl) (by kernel_rfl) (by kernel_rfl) (fun _ _ _ h => h) (Or.inl ⟨by rfl, ?_⟩) (by assumption) ?_
      rotate_left
      · intro X hX
        go_simp
        try with_reducible rfl
      try simp only [List.getElem_toArray, List.getElem_cons_succ, List.getElem_cons_zero]
      try simp only [Act.put, List.setIfInBounds_toArray, List.set_cons_zero, List.set_cons_succ]
      refine wpAnyH_ready (rs := [10]) (by kernel_rfl) (by simp) (AllReadyH.cons rfl (fun K hK => ?_) AllReadyH.nil)
      · refine step_alloc_new rfl 24 rfl #[.int .i64 0, .int .i64 0, .slice none 0 0, .int .i64 0] alloc_rg ?_
        intro gF wn hF hgFb hb
        replace hgFb : w2.heap.size ≤ gF := Nat.le_trans hQ.size hgFb
        replace hQ := keepB hQ hb
        replace hN := keepE hb hN
        clear hb
        have hH := HS.out _ hQ
        refine hK.out _ _ ?_ (fun hHeld => ?_)
        · with_reducible exact hH
        clear hK K hH
        try simp only [List.getElem_toArray, List.getElem_cons_succ, List.getElem_cons_zero]
        try simp only [Act.put, List.setIfInBounds_toArray, List.set_cons_zero, List.set_cons_succ]
        refine wpAnyH_ready (rs := [11]) (by kernel_rfl) (by simp) (AllReadyH.cons rfl (fun K hK => ?_) AllReadyH.nil)
        · obtain ⟨wm, HST, hNew, hbl, hzz, hoth⟩ := rg_store (w2.heap.size) (p) (v) (A') (es.length) (c') ((m : Int)) hF rfl hgFb
          refine step_store_known rfl 24 _ _ rfl ⟨gF, 0, none⟩ (.agg #[.int .i64 (p), .int .i64 (v), .slice (A') (es.length) (c'), .int .i64 ((m : Int))]) (by simp [Act.eval]) (by simp [Act.eval]) HST.out ?_
          replace hQ := hQ.trans hbl
          replace hN := es_store hN hF (by simp) hoth hzz
          replace hF := hNew
          clear HST hNew hbl hzz hoth
          have hH := HS.out _ hQ
          refine hK.out _ _ ?_ (fun hHeld => ?_)
          · with_reducible exact hH
          clear hK K hH
          try simp only [List.getElem_toArray, List.getElem_cons_succ, List.getElem_cons_zero]
          try simp only [Act.put]
          refine wpAnyH_done (by kernel_rfl) ?_ _
          go_wp2_with fail
          go_meet
          case rel => exact ⟨gF, A', c', rfl, hgFb, Lib.hid hF, Lib.hid hN, Lib.hid hQ⟩
    · refine step_alloc_new rfl 24 rfl #[.int .i64 0, .int .i64 0, .slice none 0 0, .int .i64 0] alloc_rg ?_
      intro gF wn hF hgFb hb
      replace hgFb : w2.heap.size ≤ gF := Nat.le_trans hQ.size hgFb
      replace hQ := keepB hQ hb
      clear hb
      have hH := HS.out _ hQ
      refine hK.out _ _ ?_ (fun hHeld => ?_)
      · with_reducible exact hH
      clear hK K hH
      try simp only [List.getElem_toArray, List.getElem_cons_succ, List.getElem_cons_zero]
      try simp only [Act.put, List.setIfInBounds_toArray, List.set_cons_zero, List.set_cons_succ]
      refine wpAnyH_ready (rs := [6]) (by kernel_rfl) (by simp) (AllReadyH.cons rfl (fun K hK => ?_) AllReadyH.nil)
      · obtain ⟨A', c', wm, hr6, hO, hg6, -⟩ := run_append_es (base := 0) (World.ownsRow_nil _ 0 _ 6) (keepE hQ hE2) (Nat.zero_le _) (by omega)
        rw [Nat.zero_add] at hr6 hO
        have hN := own_es (es := es) (by simpa using hO) (by omega)
        have hb := below_grow hg6 (fun q _ e => by simp [Value.ownBlock] at e) (Nat.le_refl _)
        refine step_app_known rfl _ _ 22 22 rfl (.slice none 0 0) (.slice A es.length c) (by simp [Act.eval]) (by simp [Act.eval]) hr6 ?_
        replace hQ := keepB hQ hb
        replace hF := keepH hb hF
        clear hr6 hO hg6 hb
        have hH := HS.out _ hQ
        refine hK.out _ _ ?_ (fun hHeld => ?_)
        · with_reducible exact hH
        clear hK K hH
        try simp only [List.getElem_toArray, List.getElem_cons_succ, List.getElem_cons_zero]
        try simp only [Act.put, List.setIfInBounds_toArray, List.set_cons_zero, List.set_cons_succ]
        refine wpAnyH_take (i := 9) (v := ?_) rfl (by kernel_rfl) (by kernel_rfl) (by kernel_rfl) (fun _ _ _ h => h) (Or.inl ⟨by rfl, ?_⟩) (by assumption) ?_
        rotate_left
        · intro X hX
          go_simp
          try with_reducible rfl
        try simp only [List.getElem_toArray, List.getElem_cons_succ, List.getElem_cons_zero]
        try simp only [Act.put, List.setIfInBounds_toArray, List.set_cons_zero, List.set_cons_succ]
        refine wpAnyH_ready (rs := [11]) (by kernel_rfl) (by simp) (AllReadyH.cons rfl (fun K hK => ?_) AllReadyH.nil)
        · obtain ⟨wm, HST, hNew, hbl, hzz, hoth⟩ := rg_store (w2.heap.size) (p) (v) (A') (es.length) (c') ((m : Int)) hF rfl hgFb
          refine step_store_known rfl 24 _ _ rfl ⟨gF, 0, none⟩ (.agg #[.int .i64 (p), .int .i64 (v), .slice (A') (es.length) (c'), .int .i64 ((m : Int))]) (by simp [Act.eval]) (by simp [Act.eval]) HST.out ?_
          replace hQ := hQ.trans hbl
          replace hN := es_store hN hF (by simp) hoth hzz
          replace hF := hNew
          clear HST hNew hbl hzz hoth
          have hH := HS.out _ hQ
          refine hK.out _ _ ?_ (fun hHeld => ?_)
          · with_reducible exact hH
          clear hK K hH
          try simp only [List.getElem_toArray, List.getElem_cons_succ, List.getElem_cons_zero]
          try simp only [Act.put]
          refine wpAnyH_done (by kernel_rfl) ?_ _
          go_wp2_with fail
          go_meet
          case rel => exact ⟨gF, A', c', rfl, hgFb, Lib.hid hF, Lib.hid hN, Lib.hid hQ⟩
  case rest =>
  obtain ⟨g6, A6, c6, rfl, hgb, hF, hN, hkp⟩ := hcut
  obtain ⟨w4, he⟩ : ∃ W, W = wc := ⟨_, rfl⟩
  subst he
  replace hkp := hkp.out
  have h6 := hF.out
  have e6 := hN.out
  have hg4 := keepH hkp hg2
  have hr4 := keepH hkp hr2
  have hq4 := keepH hkp hq2
  have hE4 := keepE hkp hE2
  have hF4 := keepE hkp hF2
  have hW4 := keepB hW2 hkp
  have hz6 := lt_of_block h6
  clear HS hg2 hr2 hq2 hE2 hF2 hW2 hF hN
  obtain ⟨n0, n1, n2, n3⟩ := box4 hg4
  obtain ⟨m0, m1, m2, m3, m4, m5, m6, m7⟩ := box8 hr4
  obtain ⟨k0, k1, k2, k3⟩ := box4 h6
  have hfl : f ≤ es.length := by rw [← hf.out]; exact frmR_le _ _
  have HF1 : Hid (ep = v → f = es.length) := Lib.hid fun h => by rw [← hf.out]; exact frmR_new h
  have HF2 : Hid (¬ ep = v → f = 0) := Lib.hid fun h => by rw [← hf.out]; exact frmR_old h
  go_upto_if 49 with fail
  go_cut [7] (fun s wx => s = .int .i64 (f : Int) ∧ wx = w4)
  case first =>
    by_cases qv : ep = v
    · have tv : (ep == v) = true := by simp [qv]
      have e := Lib.hid (HF1.out qv)
      clear qv
      go_wp2_with fail
      go_meet
      case rel => exact ⟨by rw [e.out], rfl⟩
    · have tv : (ep == v) = false := by simp [qv]
      have e := Lib.hid (HF2.out qv)
      clear qv
      go_wp2_with fail
      go_meet
      case rel => exact ⟨by rw [e.out]; rfl, rfl⟩
  case rest =>
  obtain ⟨rfl, hw4⟩ := hcut
  replace hw4 := hw4.symm
  subst hw4
  clear HF1 HF2
  have hy := hyes.out
  simp only [not_or] at hy
  obtain ⟨q0, q1, q2, q3⟩ := hy
  have t0 : decide (ep < 1) = false := decide_eq_false q0
  have t1 : decide (ep < p) = false := decide_eq_false q1
  have t2 : decide ((1048576 : Int) < ep) = false := decide_eq_false q2
  clear hyes
  have hfr := Decidable.not_not.1 q3
  have t3 : (fr != (f : Int)) = false := by simp [hfr]
  clear q3
  obtain ⟨ls, hls⟩ : ∃ ls, Hid (es.take f ++ xs = ls) := ⟨_, Lib.hid rfl⟩
  have hls0 := hls.out
  replace hls0 := Lib.hid hls0
  have hll : f + xs.length = ls.length := by rw [← hls.out]; simp; omega
  have hfr' : fr = (frmR ⟨p, v, es, m⟩ ep : Int) := by rw [hf.out]; exact hfr
  have HLG : Hid (logB ls ep = false → Q = (Re.zero, false)) := Lib.hid fun h => hAQ0.out.symm.trans (appQ_2log hmay.out q0 q1 hfr' (by rw [hf.out, hls.out]; exact h))
  have HPR : Hid (pre (es.take m) ls = false → Q = (Re.zero, false)) := Lib.hid fun h => hAQ0.out.symm.trans (appQ_2pre hmay.out q0 q1 hfr' (by rw [hf.out, hls.out]; exact h))
  have HYS : Hid (logB ls ep = true → ¬ (ls.length : Int) < (m : Int) → pre (es.take m) ls = true → Q = (⟨ep, ep, ls, m⟩, true)) := Lib.hid fun h1 h2 h3 => by
    have h := hAQ0.out.symm.trans (appQ_2yes (le := le) (vi := vi) hmay.out q0 q1 q2 hfr' (by rw [hf.out, hls.out]; exact h1) (by rw [hf.out, hls.out]; exact h2) (by rw [hf.out, hls.out]; exact h3))
    rw [hf.out, hls.out] at h
    exact h
  have hca := (es_len hE4).2
  have hcx := (es_len hF4).2
  unfold maxLen at hca hcx
  have hfc : ¬ c < f := by omega
  clear hAQ0 hmay hf q0 q1 q2 hfr' e6
  subst hfr
  have HS : Hid (∀ X : World, Below w4.heap.size w4 X → X.cell? ⟨w.heap.size, 2, none⟩ = some (.slice A es.length c) ∧ X.cell? ⟨w.heap.size + 1, 6, none⟩ = some (.slice XA xs.length xc)) := Lib.hid fun X hX => ⟨(box4 (keepH hX hg4)).2.2.1, (box8 (keepH hX hr4)).2.2.2.2.2.2.1⟩
  go_upto_region 16 with fail
  go_cut [8] (fun u wx => ∃ A' c', u = .slice A' ls.length c' ∧ Hid (EsB wx.heap.size wx (.slice A' ls.length c') ls) ∧ Hid (Below w4.heap.size w4 wx))
  case first =>
    have hQ : Below w4.heap.size w4 w4.drew := (Below.refl _ _).drew
    have hH := HS.out _ hQ
    clear n0 n1 n2 n3 m0 m1 m2 m3 m4 m5 m6 m7 k0 k1 k2 k3 h6 hg4 hr4 hq4 hW4 hkp HLG HPR HYS
    refine wp_region_held_drew (S := fun X => X.cell? ⟨w.heap.size, 2, none⟩ = some (.slice A es.length c) ∧ X.cell? ⟨w.heap.size + 1, 6, none⟩ = some (.slice XA xs.length xc)) (by kernel_rfl) hH (fun hHeld => ?_)
    clear hH
    refine wpAnyH_take (i := 0) (v := ?_) rfl (by kernel_rfl) (by kernel_rfl) (by kernel_rfl) (fun _ _ _ h => h) (Or.inl ⟨by rfl, ?_⟩) (by assumption) ?_
    rotate_left
    · intro X hX
      go_simp
      try with_reducible rfl
    try simp only [List.getElem_toArray, List.getElem_cons_zero]
    try simp only [Act.put, List.setIfInBounds_toArray, List.set_cons_zero, List.set_cons_succ]
    refine wpAnyH_take (i := 1) (v := .slice A es.length c) rfl (by kernel_rfl) (by kernel_rfl) (by kernel_rfl) (fun _ _ _ h => h) (Or.inl ⟨by rfl, ?_⟩) (by assumption) ?_
    · intro X hX
      obtain ⟨s2, s6⟩ := hX
      go_simp
    try simp only [List.getElem_toArray, List.getElem_cons_succ, List.getElem_cons_zero]
    try simp only [Act.put, List.setIfInBounds_toArray, List.set_cons_zero, List.set_cons_succ]
    refine wpAnyH_take (i := 2) (v := ?_) rfl (by kernel_rfl) (by kernel_rfl) (by kernel_rfl) (fun _ _ _ h => h) (Or.inl ⟨by rfl, ?_⟩) (by assumption) ?_
    rotate_left
    · intro X hX
      go_simp
      try with_reducible rfl
    try simp only [List.getElem_toArray, List.getElem_cons_succ, List.getElem_cons_zero]
    try simp only [Act.put, List.setIfInBounds_toArray, List.set_cons_zero, List.set_cons_succ]
    refine wpAnyH_take (i := 3) (v := .slice A f c) rfl (by kernel_rfl) (by kernel_rfl) (by kernel_rfl) (fun _ _ _ h => h) (Or.inl ⟨by rfl, ?_⟩) (by assumption) ?_
    · intro X hX
      go_simp
    try simp only [List.getElem_toArray, List.getElem_cons_succ, List.getElem_cons_zero]
    try simp only [Act.put, List.setIfInBounds_toArray, List.set_cons_zero, List.set_cons_succ]
    refine wpAnyH_take (i := 5) (v := ?_) rfl (by kernel_rfl) (by kernel_rfl) (by kernel_rfl) (fun _ _ _ h => h) (Or.inl ⟨by rfl, ?_⟩) (by assumption) ?_
    rotate_left
    · intro X hX
      go_simp
      try with_reducible rfl
    try simp only [List.getElem_toArray, List.getElem_cons_succ, List.getElem_cons_zero]
    try simp only [Act.put, List.setIfInBounds_toArray, List.set_cons_zero, List.set_cons_succ]
    refine wpAnyH_take (i := 6) (v := .slice XA xs.length xc) rfl (by kernel_rfl) (by kernel_rfl) (by kernel_rfl) (fun _ _ _ h => h) (Or.inl ⟨by rfl, ?_⟩) (by assumption) ?_
    · intro X hX
      obtain ⟨s2, s6⟩ := hX
      go_simp
    try simp only [List.getElem_toArray, List.getElem_cons_succ, List.getElem_cons_zero]
    try simp only [Act.put, List.setIfInBounds_toArray, List.set_cons_zero, List.set_cons_succ]
    refine wpAnyH_ready (rs := [4]) (by kernel_rfl) (by simp) (AllReadyH.cons rfl (fun K hK => ?_) AllReadyH.nil)
    · have hTL : (es.take f).length = f := by simp [Nat.min_eq_left hfl]
      obtain ⟨A4, c4, wm, hr4', hO4, hg4', -⟩ := run_append_es (base := w4.heap.size) (World.ownsRow_nil _ w4.heap.size _ 6) (EsB.take (keepE hQ hE4) hfl) hQ.size (by omega)
      rw [Nat.zero_add, hTL] at hr4' hO4
      have hb := below_grow hg4' (fun q _ e => by simp [Value.ownBlock] at e) (Nat.le_refl _)
      refine step_app_known rfl _ _ 22 22 rfl (.slice none 0 0) (.slice A f c) (by simp [Act.eval]) (by simp [Act.eval]) hr4' ?_
      replace hQ := keepB hQ hb
      clear hr4' hg4' hb
      have hH := HS.out _ hQ
      refine hK.out _ _ ?_ (fun hHeld => ?_)
      · with_reducible exact hH
      clear hK K hH
      try simp only [List.getElem_toArray, List.getElem_cons_succ, List.getElem_cons_zero]
      try simp only [Act.put, List.setIfInBounds_toArray, List.set_cons_zero, List.set_cons_succ]
      refine wpAnyH_ready (rs := [7]) (by kernel_rfl) (by simp) (AllReadyH.cons rfl (fun K hK => ?_) AllReadyH.nil)
      · obtain ⟨A', c', wm, hr7, hO7, hg7, -⟩ := run_append_es hO4 (keepE hQ hF4) hQ.size (by omega)
        rw [hll] at hr7 hO7
        have hN : EsB wm.heap.size wm (.slice A' ls.length c') ls := own_es (by rw [← hls.out, ecs_append, hls.out]; simpa using hO7) (by omega)
        refine step_app_known rfl _ _ 22 22 rfl (.slice A4 f c4) (.slice XA xs.length xc) (by simp [Act.eval]) (by simp [Act.eval]) hr7 ?_
        replace hQ := hQ.trans (below_grow hg7 (fun q h1 e => by have := (World.ownsRow.lt hO4 _ e).1; omega) hQ.size)
        clear hr7 hg7 hO7 hO4
        have hH := HS.out _ hQ
        refine hK.out _ _ ?_ (fun hHeld => ?_)
        · with_reducible exact hH
        clear hK K hH
        try simp only [List.getElem_toArray, List.getElem_cons_succ, List.getElem_cons_zero]
        try simp only [Act.put, List.setIfInBounds_toArray, List.set_cons_zero, List.set_cons_succ]
        refine wpAnyH_take (i := 8) (v := ?_) rfl (by kernel_rfl) (by kernel_rfl) (by kernel_rfl) (fun _ _ _ h => h) (Or.inl ⟨by rfl, ?_⟩) (by assumption) ?_
        rotate_left
        · intro X hX
          go_simp
          try with_reducible rfl
        try simp only [List.getElem_toArray, List.getElem_cons_succ, List.getElem_cons_zero]
        try simp only [Act.put, List.setIfInBounds_toArray, List.set_cons_zero, List.set_cons_succ]
        refine wpAnyH_done (by kernel_rfl) ?_ _
        go_wp2_with fail
        go_meet
        case rel => exact ⟨A', c', rfl, Lib.hid hN, Lib.hid hQ⟩
  case rest =>
  obtain ⟨A5, c5, rfl, hN, hk⟩ := hcut
  obtain ⟨w5, he⟩ : ∃ W, W = wc := ⟨_, rfl⟩
  subst he
  replace hk := hk.out
  have eN := hN.out
  replace h6 := keepH hk h6
  replace hg4 := keepH hk hg4
  replace hr4 := keepH hk hr4
  replace hq4 := keepH hk hq4
  replace hE4 := keepE hk hE4
  replace hW4 := keepB hW4 hk
  have hz5 := hk.size
  clear HS hN hF4 n0 n1 n2 n3 m0 m1 m2 m3 m4 m5 m6 m7 k0 k1 k2 k3 hkp hk hls
  obtain ⟨n0, n1, n2, n3⟩ := box4 hg4
  obtain ⟨m0, m1, m2, m3, m4, m5, m6, m7⟩ := box8 hr4
  have HC := Lib.hid (rlog_any ep w5 eN)
  have hlg := (not_or.1 hlyes.out).1
  have qm := (not_or.1 hlyes.out).2
  rw [hls0.out] at hlg qm
  rw [Bool.not_eq_false] at hlg
  rw [hlg] at HC
  replace hlg := Lib.hid hlg
  clear hlyes HLG
  have tm : decide ((ls.length : Int) < (m : Int)) = false := decide_eq_false qm
  have hmL : m ≤ ls.length := by omega
  have tm' : decide (ls.length < m) = false := decide_eq_false (by omega)
  replace qm := Lib.hid qm
  go_wp2_with fail
  refine (HC.out).mono ?_
  rintro e w6 ⟨rfl, hb6⟩
  replace h6 := keepH hb6 h6
  replace hg4 := keepH hb6 hg4
  replace hr4 := keepH hb6 hr4
  replace hq4 := keepH hb6 hq4
  replace hE4 := keepE hb6 hE4
  replace eN := keepE hb6 eN
  replace hW4 := keepB hW4 hb6
  have hz6' := hb6.size
  clear n0 n1 n2 n3 m0 m1 m2 m3 m4 m5 m6 m7 HC hb6
  obtain ⟨n0, n1, n2, n3⟩ := box4 hg4
  have hlL : ls.length ≤ c5 ∧ c5 ≤ maxLen := (es_len eN).2
  unfold maxLen at hlL
  have HCA := Lib.hid (fun X (hX : Below w6.heap.size w6 X) k (hk : k < ls.length) => EsB.cells (keepE hX eN) hk)
  have HCB := Lib.hid (fun X (hX : Below w6.heap.size w6 X) k (hk : k < es.length) => EsB.cells (keepE hX hE4) hk)
  have hBX := Lib.hid (fun X (hX : Below w6.heap.size w6 X) => keepH hX hg4)
  have hBQ := Lib.hid (fun X (hX : Below w6.heap.size w6 X) => keepH hX hq4)
  have hWX := Lib.hid (fun X (hX : Below w6.heap.size w6 X) => keepB hW4 hX)
  go_wp2_with fail
  go_loopw [9] (fun i wr => ∃ k : Nat, k ≤ m ∧ i = .int .i64 k ∧ Hid (∀ j (h1 : j < es.length) (h2 : j < ls.length), j < k → ls[j] = es[j]) ∧ Below w6.heap.size w6 wr) (fun i _ => m - (intOf i).toNat)
  case atStart => exact ⟨0, Nat.zero_le _, rfl, Lib.hid fun j h1 h2 h => by omega, Below.refl _ _⟩
  case round =>
    clear n0 n1 n2 n3
    obtain ⟨k, hk, rfl, hup, hBr⟩ := hrel
    obtain ⟨n0, n1, n2, n3⟩ := box4 (hBX.out wr hBr)
    by_cases hlt : k < m
    · have hkm : (k : Int) < (m : Int) := by omega
      have hii : (k : Int) < (ls.length : Int) := by omega
      have hjj : (k : Int) < (es.length : Int) := by omega
      have k1 : k < ls.length := by omega
      have k2 : k < es.length := by omega
      obtain ⟨b1, o1, c1, hv1, _, x0, x1, x2, x3, x4, x5⟩ := HCA.out wr hBr k k1
      obtain ⟨b2, o2, c2, hv2, _, y0, y1, y2, y3, y4, y5⟩ := HCB.out wr hBr k k2
      injection hv1 with e1 _ e3
      injection hv2 with e2 _ e4
      subst e1 e2 e3 e4
      have HN : Hid (ls[k] ≠ es[k] → Q = (Re.zero, false)) := Lib.hid fun h => HPR.out (pre_not hml hlt k1 h)
      have HU : Hid (ls[k] = es[k] → ∀ j (h1 : j < es.length) (h2 : j < ls.length), j < k + 1 → ls[j] = es[j]) := Lib.hid fun h j h1 h2 hj => by
        by_cases e : j = k
        · subst e; exact h
        · exact hup.out j h1 h2 (by omega)
      have hq9 := hBQ.out wr hBr
      have hW9 := hWX.out wr hBr
      clear hup HCA HCB hBX hBQ hWX HPR HYS h6 hg4 hr4 hq4 hE4 hW4 eN
      generalize ls[k] = x at *
      generalize es[k] = y at *
      by_cases he : x = y
      · subst he
        have hn := Lib.hid (HU.out rfl)
        clear HU HN k1 k2 hq9 hW9
        obtain ⟨z0, z1, z2, z3, z4, z5⟩ := x
        dsimp only at x0 x1 x2 x3 x4 x5 y0 y1 y2 y3 y4 y5
        go_wp2_with fail
        go_quiet (fail)
        go_wp2_with fail
        go_roundw
        case rel => exact ⟨k + 1, by omega, by go_num, hn, below_drewN hBr _⟩
        case measure => simp [intOf]; omega
      · have hQ := Lib.hid (HN.out he)
        have hp := en_part he
        clear HU HN he k1 k2
        obtain ⟨p0, p1, p2, p3, p4, p5⟩ := x
        obtain ⟨q0, q1, q2, q3, q4, q5⟩ := y
        dsimp only at x0 x1 x2 x3 x4 x5 y0 y1 y2 y3 y4 y5 hp
        rcases hp with h | ⟨rfl, h⟩ | ⟨rfl, rfl, h⟩ | ⟨rfl, rfl, rfl, h⟩ | ⟨rfl, rfl, rfl, rfl, h⟩ | ⟨rfl, rfl, rfl, rfl, rfl, h⟩ <;>
        · have hb := beq_eq_false_iff_ne.2 h
          clear h
          go_wp2_with fail
          go_quiet (fail)
          generalize hX : World.drewN _ _ = wd at *
          have hqd : wd.heap[w.heap.size + 1 + 1]? = some (.cells #[.int .i64 0, .int .i64 0, .slice none 0 0, .int .i64 0] 24 (0, 0)) := by rw [← hX]; exact hq9
          have hWd : Below w.heap.size w wd := by rw [← hX]; exact below_drewN hW9 _
          obtain ⟨wz, HST9, hqz, hblz, -, -⟩ := rg_store w.heap.size 0 0 none 0 0 0 hqd rfl (by omega)
          have hWz := hWd.trans hblz
          clear hblz hWd hqd hX
          go_upto_region 23 with fail
          iterate 4 go_step
          with_reducible refine wpList_store_known (by rfl) 24 _ _ (by rfl) ⟨w.heap.size + 1 + 1, 0, none⟩ _ (by simp [Act.eval]) (by simp [Act.eval]) HST9.out ?_
          iterate 8 go_step
          (try simp only [Exit.inBlock, Exit.then]); refine bodyPost_ret (results_row_tmp rfl _ _ (w.heap.size + 1 + 1) 24 #[.int .i64 0, .int .i64 0, .slice none 0 0, .int .i64 0] (0, 0) _ rfl hqz Tryd.underlying24 rfl (by kernel_rfl)) rfl ?_
          rw [hQ.out]
          exact ⟨none, 0, rfl, es_nil _ _, hWz⟩
    · obtain rfl : k = m := by omega
      have hkm : ¬ (k : Int) < (k : Int) := by omega
      have hQ := Lib.hid (HYS.out hlg.out qm.out (pre_all hml hmL fun j h1 h2 h3 => hup.out j h1 h2 h3))
      have h := keepH hBr h6
      have hrr := keepH hBr hr4
      have hq := keepH hBr hq4
      have hN := keepE hBr eN
      have hW := keepB hW4 hBr
      have hzr := hBr.size
      clear hup HCA HCB hBX hBQ hWX HPR HYS h6 hg4 hr4 hq4 hE4 hW4 eN hBr
      obtain ⟨m0, m1, m2, m3, m4, m5, m6, m7⟩ := box8 hrr
      have HS : Hid (∀ X : World, X.heap[w.heap.size + 1]? = wr.heap[w.heap.size + 1]? → X.cell? ⟨w.heap.size + 1, 2, none⟩ = some (.int .i64 ep)) := Lib.hid fun X h => (box8 (h.trans hrr)).2.2.1
      go_upto_region 24 with fail
      have hgq : wr.drew.heap[w.heap.size + 1]? = wr.heap[w.heap.size + 1]? := rfl
      replace h : wr.drew.heap[g6]? = _ := h
      replace hq : wr.drew.heap[w.heap.size + 1 + 1]? = _ := hq
      replace hN : EsB wr.drew.heap.size wr.drew _ _ := hN
      replace hW : Below w.heap.size w wr.drew := hW.drew
      have hH := HS.out _ hgq
      clear n0 n1 n2 n3 m0 m1 m2 m3 m4 m5 m6 m7 hrr
      refine wp_region_held_drew (S := fun X => X.cell? ⟨w.heap.size + 1, 2, none⟩ = some (.int .i64 ep)) (by kernel_rfl) hH (fun hHeld => ?_)
      clear hH
      refine wpAnyH_take (i := 0) (v := ?_) rfl (by kernel_rfl) (by kernel_rfl) (by kernel_rfl) (fun _ _ _ h => h) (Or.inl ⟨by rfl, ?_⟩) (by assumption) ?_
      rotate_left
      · intro X hX
        go_simp
        try with_reducible rfl
      try simp only [List.getElem_toArray, List.getElem_cons_zero]
      try simp only [Act.put, List.setIfInBounds_toArray, List.set_cons_zero, List.set_cons_succ]
      refine wpAnyH_take (i := 1) (v := .int .i64 ep) rfl (by kernel_rfl) (by kernel_rfl) (by kernel_rfl) (fun _ _ _ h => h) (Or.inl ⟨by rfl, ?_⟩) (by assumption) ?_
      · intro X hX
        obtain s2 := hX
        go_simp
      try simp only [List.getElem_toArray, List.getElem_cons_succ, List.getElem_cons_zero]
      try simp only [Act.put, List.setIfInBounds_toArray, List.set_cons_zero, List.set_cons_succ]
      refine wpAnyH_take (i := 2) (v := ?_) rfl (by kernel_rfl) (by kernel_rfl) (by kernel_rfl) (fun _ _ _ h => h) (Or.inl ⟨by rfl, ?_⟩) (by assumption) ?_
      rotate_left
      · intro X hX
        go_simp
        try with_reducible rfl
      try simp only [List.getElem_toArray, List.getElem_cons_succ, List.getElem_cons_zero]
      try simp only [Act.put, List.setIfInBounds_toArray, List.set_cons_zero, List.set_cons_succ]
      refine wpAnyH_take (i := 3) (v := .int .i64 ep) rfl (by kernel_rfl) (by kernel_rfl) (by kernel_rfl) (fun _ _ _ h => h) (Or.inl ⟨by rfl, ?_⟩) (by assumption) ?_
      · intro X hX
        obtain s2 := hX
        go_simp
      try simp only [List.getElem_toArray, List.getElem_cons_succ, List.getElem_cons_zero]
      try simp only [Act.put, List.setIfInBounds_toArray, List.set_cons_zero, List.set_cons_succ]
      refine wpAnyH_take (i := 4) (v := ?_) rfl (by kernel_rfl) (by kernel_rfl) (by kernel_rfl) (fun _ _ _ h => h) (Or.inl ⟨by rfl, ?_⟩) (by assumption) ?_
      rotate_left
      · intro X hX
        go_simp
        try with_reducible rfl
      try simp only [List.getElem_toArray, List.getElem_cons_succ, List.getElem_cons_zero]
      try simp only [Act.put, List.setIfInBounds_toArray, List.set_cons_zero, List.set_cons_succ]
      refine wpAnyH_take (i := 5) (v := ?_) rfl (by kernel_rfl) (by kernel_rfl) (by kernel_rfl) (fun _ _ _ h => h) (Or.inl ⟨by rfl, ?_⟩) (by assumption) ?_
      rotate_left
      · intro X hX
        go_simp
        try with_reducible rfl
      try simp only [List.getElem_toArray, List.getElem_cons_succ, List.getElem_cons_zero]
      try simp only [Act.put, List.setIfInBounds_toArray, List.set_cons_zero, List.set_cons_succ]
      refine wpAnyH_ready (rs := [6]) (by kernel_rfl) (by simp) (AllReadyH.cons rfl (fun K hK => ?_) AllReadyH.nil)
      · obtain ⟨wm, HST, hNew, hbl, hzz, hoth⟩ := box_set (i := 0) (u := .int .i64 ep) 3 (by kernel_rfl) rfl rfl h (by simp) w.heap.size (by omega)
        refine step_store_known rfl 3 _ _ rfl ⟨g6, 0, none⟩ (.int .i64 ep) (by simp [Act.eval]) (by simp [Act.eval]) HST.out ?_
        replace hgq := (hoth _ (by omega)).trans hgq
        replace hq := (hoth _ (by omega)).trans hq
        replace hN := es_store hN h (by simp) hoth hzz
        replace hW := hW.trans hbl
        replace h : wm.heap[g6]? = some (.cells #[.int .i64 ep, .int .i64 v, .slice A6 es.length c6, .int .i64 (k : Int)] 24 (0, 0)) := by rw [hNew]; rfl
        clear HST hNew hbl hzz hoth
        have hH := HS.out _ hgq
        refine hK.out _ _ ?_ (fun hHeld => ?_)
        · with_reducible exact hH
        clear hK K hH
        try simp only [List.getElem_toArray, List.getElem_cons_succ, List.getElem_cons_zero]
        try simp only [Act.put]
        refine wpAnyH_take (i := 7) (v := ?_) rfl (by kernel_rfl) (by kernel_rfl) (by kernel_rfl) (fun _ _ _ h => h) (Or.inl ⟨by rfl, ?_⟩) (by assumption) ?_
        rotate_left
        · intro X hX
          go_simp
          try with_reducible rfl
        try simp only [List.getElem_toArray, List.getElem_cons_succ, List.getElem_cons_zero]
        try simp only [Act.put, List.setIfInBounds_toArray, List.set_cons_zero, List.set_cons_succ]
        refine wpAnyH_ready (rs := [8]) (by kernel_rfl) (by simp) (AllReadyH.cons rfl (fun K hK => ?_) AllReadyH.nil)
        · obtain ⟨wm, HST, hNew, hbl, hzz, hoth⟩ := box_set (i := 1) (u := .int .i64 ep) 3 (by kernel_rfl) rfl rfl h (by simp) w.heap.size (by omega)
          refine step_store_known rfl 3 _ _ rfl ⟨g6, 1, none⟩ (.int .i64 ep) (by simp [Act.eval]) (by simp [Act.eval]) HST.out ?_
          replace hgq := (hoth _ (by omega)).trans hgq
          replace hq := (hoth _ (by omega)).trans hq
          replace hN := es_store hN h (by simp) hoth hzz
          replace hW := hW.trans hbl
          replace h : wm.heap[g6]? = some (.cells #[.int .i64 ep, .int .i64 ep, .slice A6 es.length c6, .int .i64 (k : Int)] 24 (0, 0)) := by rw [hNew]; rfl
          clear HST hNew hbl hzz hoth
          have hH := HS.out _ hgq
          refine hK.out _ _ ?_ (fun hHeld => ?_)
          · with_reducible exact hH
          clear hK K hH
          try simp only [List.getElem_toArray, List.getElem_cons_succ, List.getElem_cons_zero]
          try simp only [Act.put]
          refine wpAnyH_take (i := 9) (v := ?_) rfl (by kernel_rfl) (by kernel_rfl) (by kernel_rfl) (fun _ _ _ h => h) (Or.inl ⟨by rfl, ?_⟩) (by assumption) ?_
          rotate_left
          · intro X hX
            go_simp
            try with_reducible rfl
          try simp only [List.getElem_toArray, List.getElem_cons_succ, List.getElem_cons_zero]
          try simp only [Act.put, List.setIfInBounds_toArray, List.set_cons_zero, List.set_cons_succ]
          refine wpAnyH_ready (rs := [10]) (by kernel_rfl) (by simp) (AllReadyH.cons rfl (fun K hK => ?_) AllReadyH.nil)
          · obtain ⟨wm, HST, hNew, hbl, hzz, hoth⟩ := box_set (i := 2) (u := .slice A5 ls.length c5) 22 (by kernel_rfl) rfl rfl h (by simp) w.heap.size (by omega)
            refine step_store_known rfl 22 _ _ rfl ⟨g6, 2, none⟩ (.slice A5 ls.length c5) (by simp [Act.eval]) (by simp [Act.eval]) HST.out ?_
            replace hgq := (hoth _ (by omega)).trans hgq
            replace hq := (hoth _ (by omega)).trans hq
            replace hN := es_store hN h (by simp) hoth hzz
            replace hW := hW.trans hbl
            replace h : wm.heap[g6]? = some (.cells #[.int .i64 ep, .int .i64 ep, .slice A5 ls.length c5, .int .i64 (k : Int)] 24 (0, 0)) := by rw [hNew]; rfl
            clear HST hNew hbl hzz hoth
            have hH := HS.out _ hgq
            refine hK.out _ _ ?_ (fun hHeld => ?_)
            · with_reducible exact hH
            clear hK K hH
            try simp only [List.getElem_toArray, List.getElem_cons_succ, List.getElem_cons_zero]
            try simp only [Act.put]
            refine wpAnyH_done (by kernel_rfl) ?_ _
            obtain ⟨n0, n1, n2, n3⟩ := box4 h
            obtain ⟨wz, HST9, hqz, hblz, hzz, hoth⟩ := rg_store w.heap.size ep ep A5 ls.length c5 (k : Int) hq rfl (by omega)
            have hNz := es_store hN hq (by simp) hoth hzz
            have hWz := hW.trans hblz
            clear hblz hzz hoth hN hW hq h
            go_wp2_with (with_reducible refine wpList_store_known (by rfl) 24 _ _ (by rfl) ⟨w.heap.size + 1 + 1, 0, none⟩ _ (by with_unfolding_all rfl) (by with_unfolding_all rfl) HST9.out ?_)
            (try simp only [Exit.inBlock, Exit.then]); refine bodyPost_ret (results_row_tmp rfl _ _ (w.heap.size + 1 + 1) 24 #[.int .i64 ep, .int .i64 ep, .slice A5 ls.length c5, .int .i64 (k : Int)] (0, 0) _ rfl hqz Tryd.underlying24 rfl (by kernel_rfl)) rfl ?_
            rw [hQ.out]
            exact ⟨A5, c5, rfl, hNz, hWz⟩
end Go.Proofs.YtnbhdehpdfojlaaDoor
