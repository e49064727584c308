/-
  RegisterTells: the walk.
-/
import Derived.Test.YtnbhdehpdfojlaaDoorRgRView
import Derived.Test.YtnbhdehpdfojlaaDoorRgLives
namespace Go.Proofs.YtnbhdehpdfojlaaDoor.registerTellsW
open Go.RowKit Go.Sort
/-- A load whose run is known in every world of the class. -/
theorem quiet_load {P : Program} {C : World → Prop} {a : Act} {o : Oper} {K : Act → Prop} (ty : TypeId) (x : Operand) (h : o.op = .load ty x) (ad : Addr) (hx : a.eval x = .pointer (some ad)) (v : Value)
    (hr : ∀ w, C w → (loadVar ty ad).run P w = .ok v w) (hk : K (a.put o.dst v)) : o.quiet P a C K :=
  ⟨v, fun w hw => by
    unfold Oper.quietAt execOp
    simp only [h, hx, Instr.loadAt, Instr.sureAddr, Sem.run_bind, Sem.run_pure, Result.andThen_ok, hr w hw]
    exact ⟨rfl, rfl⟩, hk⟩
theorem load_rg {X : World} {g : Nat} {cs : Array Value} (h : X.heap[g]? = some (.cells cs 24 (0, 0))) (hs : cs.size = 4) : (loadVar 24 ⟨g, 0, none⟩).run Tryd.prog X = .ok (.agg cs) X :=
  run_loadVar_row X g _ _ cs _ _ h Tryd.underlying24 rfl (by rw [hs]; kernel_rfl)
theorem load_rc {X : World} {g : Nat} {cs : Array Value} (h : X.heap[g]? = some (.cells cs 27 (0, 0))) (hs : cs.size = 8) : (loadVar 27 ⟨g, 0, none⟩).run Tryd.prog X = .ok (.agg cs) X :=
  run_loadVar_row X g _ _ cs _ _ h Tryd.underlying27 rfl (by rw [hs]; kernel_rfl)
theorem in_class {W X : World} (h : ∃ p : Regrown, X = grow (redrawn W p.d) p.os) : Below W.heap.size W X := by
  obtain ⟨⟨d, os⟩, rfl⟩ := h
  exact below_regrown W d os
set_option maxRecDepth 100000 in
set_option maxHeartbeats 16000000 in
theorem walk (r : Re) (A : Option Addr) (c : Nat) (e : RcE) (w : World) (hA : Asked w) (ha : EsB w.heap.size w (.slice A r.es.length c) r.es) (hx : EsB w.heap.size w (.slice e.A e.x.es.length e.c) e.x.es) :
    Calls Tryd.prog 3 #[.agg #[.int .i64 r.p, .int .i64 r.v, .slice A r.es.length c, .int .i64 r.m], .agg e.cells.toArray] w (fun e w' => e = .returned (.bool true) ∧ Below w.heap.size w w') := by
  obtain ⟨p, v, es, m⟩ := r
  obtain ⟨⟨ki, ep, vi, fr, le, xs⟩, st, XA, xc, FA, fn, fc⟩ := e
  show Calls Tryd.prog 3 #[.agg #[.int .i64 p, .int .i64 v, .slice A es.length c, .int .i64 m], .agg #[.int .i64 ki, .int .i64 st, .int .i64 ep, .int .i64 vi, .int .i64 fr, .int .i64 le, .slice XA xs.length xc, .slice FA fn fc]] w _
  dsimp only at ha hx
  have HLV := Lib.hid (fun X (hX : Below w.heap.size w X) => lives_any X (hA.keep hX))
  have HAK := Lib.hid (fun X (hX : Below w.heap.size w X) => hA.keep hX)
  obtain ⟨w1, HX1⟩ : ∃ W : World, Hid (W = (w.alloc (.cells #[.int .i64 p, .int .i64 v, .slice A es.length c, .int .i64 m] 24)).alloc (.cells #[.int .i64 ki, .int .i64 st, .int .i64 ep, .int .i64 vi, .int .i64 fr, .int .i64 le, .slice XA xs.length xc, .slice FA fn fc] 27)) := ⟨_, Lib.hid rfl⟩
  obtain ⟨hz1, hb1, hg1, hr1⟩ := two_new HX1.out
  obtain ⟨n0, n1, n2, n3⟩ := box4 hg1
  obtain ⟨m0, m1, m2, m3, m4, m5, m6, m7⟩ := box8 hr1
  have hE1 := keepE hb1 ha
  have hF1 := keepE hb1 hx
  have hcx := (es_len hE1).2
  have hcx' := (es_len hF1).2
  unfold maxLen at hcx hcx'
  clear ha hx hA
  by_cases q1 : (200 : Int) < (es.length : Int)
  · have t1 : decide ((200 : Int) < (es.length : Int)) = true := decide_eq_true q1
    clear hE1 hF1 q1 hg1 hr1
    go_enter Tryd.func3, Tryd.ntmps3
    go_wp2_with (rw [← HX1.out])
    refine (HLV.out w1 hb1).mono ?_
    rintro e w2 ⟨rfl, hb2⟩
    go_wp2_with fail
    go_ret
    exact ⟨rfl, keepB hb1 hb2⟩
  have t1 : decide ((200 : Int) < (es.length : Int)) = false := decide_eq_false q1
  have HG := Lib.hid (great_any ki st ep vi fr le XA FA xs.length xc fn fc w1)
  by_cases q2 : (200 : Int) < (xs.length : Int)
  · rw [decide_eq_true q2] at HG
    clear hE1 hF1 q1 q2 hg1 hr1
    go_enter Tryd.func3, Tryd.ntmps3
    go_wp2_with (rw [← HX1.out])
    refine (HG.out).mono ?_
    rintro e w2 ⟨rfl, hb2⟩
    have hB2 := keepB hb1 hb2
    clear n0 n1 n2 n3 m0 m1 m2 m3 m4 m5 m6 m7 HG hb2
    go_wp2_with fail
    refine (HLV.out w2 hB2).mono ?_
    rintro e w3 ⟨rfl, hb3⟩
    go_wp2_with fail
    go_ret
    exact ⟨rfl, keepB hB2 hb3⟩
  rw [decide_eq_false q2] at HG
  have hl1 : es.length ≤ 200 := by omega
  have hl2 : xs.length ≤ 200 := by omega
  clear q1 q2
  go_enter Tryd.func3, Tryd.ntmps3
  go_wp2_with (rw [← HX1.out])
  refine (HG.out).mono ?_
  rintro e w2 ⟨rfl, hb2⟩
  have hg2 := keepH hb2 hg1
  have hr2 := keepH hb2 hr1
  have hE2 := keepE hb2 hE1
  have hF2 := keepE hb2 hF1
  have hB2 := keepB hb1 hb2
  clear n0 n1 n2 n3 m0 m1 m2 m3 m4 m5 m6 m7 HG hb2 hg1 hr1 hE1 hF1 hb1 t1
  have HS : Hid (∀ X : World, Below w2.heap.size w2 X → X.cell? ⟨w.heap.size, 0, none⟩ = some (.int .i64 p) ∧ X.cell? ⟨w.heap.size, 1, none⟩ = some (.int .i64 v) ∧ X.cell? ⟨w.heap.size, 2, none⟩ = some (.slice A es.length c) ∧ X.cell? ⟨w.heap.size, 3, none⟩ = some (.int .i64 m)) := Lib.hid fun X hX => box4 (keepH hX hg2)
  go_upto_region 3 with fail
  go_cut [5] (fun u wx => ∃ g A' c', u = .pointer (some ⟨g, 0, none⟩) ∧ w2.heap.size ≤ g ∧ Hid (wx.heap[g]? = some (.cells #[.int .i64 p, .int .i64 v, .slice A' es.length c', .int .i64 m] 24 (0, 0))) ∧ Hid (EsB wx.heap.size wx (.slice A' es.length c') es) ∧ Hid (Below w2.heap.size w2 wx))
  case first =>
    have hQ : Below w2.heap.size w2 w2.drew := (Below.refl _ _).drew
    have hH := HS.out _ hQ
    clear hg2 hr2 hF2 hB2 hl2 HLV HAK
    refine wp_region_held_drew (S := fun X => X.cell? ⟨w.heap.size, 0, none⟩ = some (.int .i64 p) ∧ X.cell? ⟨w.heap.size, 1, none⟩ = some (.int .i64 v) ∧ X.cell? ⟨w.heap.size, 2, none⟩ = some (.slice A es.length c) ∧ X.cell? ⟨w.heap.size, 3, none⟩ = some (.int .i64 m)) (by kernel_rfl) hH (fun hHeld => ?_)
    clear hH
    refine wpAnyH_take (i := 0) (v := ?_) rfl (by kernel_rfl) (by kernel_rfl) (by kernel_rfl) (fun _ _ _ h => h) (Or.inl ⟨by rfl, ?_⟩) (by assumption) ?_
    rotate_left
    · intro X hX
      go_simp
      try with_reducible rfl
    try simp only [List.getElem_toArray, List.getElem_cons_zero]
    try simp only [Act.put, List.setIfInBounds_toArray, List.set_cons_zero, List.set_cons_succ]
    refine wpAnyH_take (i := 1) (v := .int .i64 p) rfl (by kernel_rfl) (by kernel_rfl) (by kernel_rfl) (fun _ _ _ h => h) (Or.inl ⟨by rfl, ?_⟩) (by assumption) ?_
    · intro X hX
      obtain ⟨a0, a1, a2, a3⟩ := hX
      go_simp
    try simp only [List.getElem_toArray, List.getElem_cons_succ, List.getElem_cons_zero]
    try simp only [Act.put, List.setIfInBounds_toArray, List.set_cons_zero, List.set_cons_succ]
    refine wpAnyH_take (i := 2) (v := ?_) rfl (by kernel_rfl) (by kernel_rfl) (by kernel_rfl) (fun _ _ _ h => h) (Or.inl ⟨by rfl, ?_⟩) (by assumption) ?_
    rotate_left
    · intro X hX
      go_simp
      try with_reducible rfl
    try simp only [List.getElem_toArray, List.getElem_cons_succ, List.getElem_cons_zero]
    try simp only [Act.put, List.setIfInBounds_toArray, List.set_cons_zero, List.set_cons_succ]
    refine wpAnyH_take (i := 3) (v := .int .i64 v) rfl (by kernel_rfl) (by kernel_rfl) (by kernel_rfl) (fun _ _ _ h => h) (Or.inl ⟨by rfl, ?_⟩) (by assumption) ?_
    · intro X hX
      obtain ⟨a0, a1, a2, a3⟩ := hX
      go_simp
    try simp only [List.getElem_toArray, List.getElem_cons_succ, List.getElem_cons_zero]
    try simp only [Act.put, List.setIfInBounds_toArray, List.set_cons_zero, List.set_cons_succ]
    refine wpAnyH_take (i := 4) (v := ?_) rfl (by kernel_rfl) (by kernel_rfl) (by kernel_rfl) (fun _ _ _ h => h) (Or.inl ⟨by rfl, ?_⟩) (by assumption) ?_
    rotate_left
    · intro X hX
      go_simp
      try with_reducible rfl
    try simp only [List.getElem_toArray, List.getElem_cons_succ, List.getElem_cons_zero]
    try simp only [Act.put, List.setIfInBounds_toArray, List.set_cons_zero, List.set_cons_succ]
    refine wpAnyH_take (i := 5) (v := .slice A es.length c) rfl (by kernel_rfl) (by kernel_rfl) (by kernel_rfl) (fun _ _ _ h => h) (Or.inl ⟨by rfl, ?_⟩) (by assumption) ?_
    · intro X hX
      obtain ⟨a0, a1, a2, a3⟩ := hX
      go_simp
    try simp only [List.getElem_toArray, List.getElem_cons_succ, List.getElem_cons_zero]
    try simp only [Act.put, List.setIfInBounds_toArray, List.set_cons_zero, List.set_cons_succ]
    refine wpAnyH_take (i := 7) (v := ?_) rfl (by kernel_rfl) (by kernel_rfl) (by kernel_rfl) (fun _ _ _ h => h) (Or.inl ⟨by rfl, ?_⟩) (by assumption) ?_
    rotate_left
    · intro X hX
      go_simp
      try with_reducible rfl
    try simp only [List.getElem_toArray, List.getElem_cons_succ, List.getElem_cons_zero]
    try simp only [Act.put, List.setIfInBounds_toArray, List.set_cons_zero, List.set_cons_succ]
    refine wpAnyH_take (i := 8) (v := .int .i64 m) rfl (by kernel_rfl) (by kernel_rfl) (by kernel_rfl) (fun _ _ _ h => h) (Or.inl ⟨by rfl, ?_⟩) (by assumption) ?_
    · intro X hX
      obtain ⟨a0, a1, a2, a3⟩ := hX
      go_simp
    try simp only [List.getElem_toArray, List.getElem_cons_succ, List.getElem_cons_zero]
    try simp only [Act.put, List.setIfInBounds_toArray, List.set_cons_zero, List.set_cons_succ]
    refine wpAnyH_ready (rs := [6,10]) (by kernel_rfl) (by simp) (AllReadyH.cons rfl (fun K hK => ?_) (AllReadyH.cons rfl (fun K hK => ?_) AllReadyH.nil))
    · obtain ⟨A', c', wm, hr6, hO, hg6, -⟩ := run_append_es (base := 0) (World.ownsRow_nil _ 0 _ 6) (keepE hQ hE2) (Nat.zero_le _) (by omega)
      rw [Nat.zero_add] at hr6 hO
      have hN := own_es (es := es) (by simpa using hO) (by omega)
      have hb := below_grow hg6 (fun q _ e => by simp [Value.ownBlock] at e) (Nat.le_refl _)
      refine step_app_known rfl _ _ 22 22 rfl (.slice none 0 0) (.slice A es.length c) (by simp [Act.eval]) (by simp [Act.eval]) hr6 ?_
      replace hQ := keepB hQ hb
      clear hr6 hO hg6 hb
      have hH := HS.out _ hQ
      refine hK.out _ _ ?_ (fun hHeld => ?_)
      · with_reducible exact hH
      clear hK K hH
      try simp only [List.getElem_toArray, List.getElem_cons_succ, List.getElem_cons_zero]
      try simp only [Act.put, List.setIfInBounds_toArray, List.set_cons_zero, List.set_cons_succ]
      refine wpAnyH_take (i := 9) (v := ?_) rfl (by kernel_rfl) (by kernel_rfl) (by kernel_rfl) (fun _ _ _ h => h) (Or.inl ⟨by rfl, ?_⟩) (by assumption) ?_
      rotate_left
      · intro X hX
        go_simp
        try with_reducible rfl
      try simp only [List.getElem_toArray, List.getElem_cons_succ, List.getElem_cons_zero]
      try simp only [Act.put, List.setIfInBounds_toArray, List.set_cons_zero, List.set_cons_succ]
      refine wpAnyH_ready (rs := [10]) (by kernel_rfl) (by simp) (AllReadyH.cons rfl (fun K hK => ?_) AllReadyH.nil)
      · refine step_alloc_new rfl 24 rfl #[.int .i64 0, .int .i64 0, .slice none 0 0, .int .i64 0] alloc_rg ?_
        intro gF wn hF hgFb hb
        replace hgFb : w2.heap.size ≤ gF := Nat.le_trans hQ.size hgFb
        replace hQ := keepB hQ hb
        replace hN := keepE hb hN
        clear hb
        have hH := HS.out _ hQ
        refine hK.out _ _ ?_ (fun hHeld => ?_)
        · with_reducible exact hH
        clear hK K hH
        try simp only [List.getElem_toArray, List.getElem_cons_succ, List.getElem_cons_zero]
        try simp only [Act.put, List.setIfInBounds_toArray, List.set_cons_zero, List.set_cons_succ]
        refine wpAnyH_ready (rs := [11]) (by kernel_rfl) (by simp) (AllReadyH.cons rfl (fun K hK => ?_) AllReadyH.nil)
        · obtain ⟨wm, HST, hNew, hbl, hzz, hoth⟩ := rg_store (w2.heap.size) (p) (v) (A') (es.length) (c') (m) hF rfl hgFb
          refine step_store_known rfl 24 _ _ rfl ⟨gF, 0, none⟩ (.agg #[.int .i64 (p), .int .i64 (v), .slice (A') (es.length) (c'), .int .i64 (m)]) (by simp [Act.eval]) (by simp [Act.eval]) HST.out ?_
          replace hQ := hQ.trans hbl
          replace hN := es_store hN hF (by simp) hoth hzz
          replace hF := hNew
          clear HST hNew hbl hzz hoth
          have hH := HS.out _ hQ
          refine hK.out _ _ ?_ (fun hHeld => ?_)
          · with_reducible exact hH
          clear hK K hH
          try simp only [List.getElem_toArray, List.getElem_cons_succ, List.getElem_cons_zero]
          try simp only [Act.put]
          refine wpAnyH_done (by kernel_rfl) ?_ _
          go_wp2_with fail
          go_meet
          case rel => exact ⟨gF, A', c', rfl, hgFb, Lib.hid hF, Lib.hid hN, Lib.hid hQ⟩
    · refine step_alloc_new rfl 24 rfl #[.int .i64 0, .int .i64 0, .slice none 0 0, .int .i64 0] alloc_rg ?_
      intro gF wn hF hgFb hb
      replace hgFb : w2.heap.size ≤ gF := Nat.le_trans hQ.size hgFb
      replace hQ := keepB hQ hb
      clear hb
      have hH := HS.out _ hQ
      refine hK.out _ _ ?_ (fun hHeld => ?_)
      · with_reducible exact hH
      clear hK K hH
      try simp only [List.getElem_toArray, List.getElem_cons_succ, List.getElem_cons_zero]
      try simp only [Act.put, List.setIfInBounds_toArray, List.set_cons_zero, List.set_cons_succ]
      refine wpAnyH_ready (rs := [6]) (by kernel_rfl) (by simp) (AllReadyH.cons rfl (fun K hK => ?_) AllReadyH.nil)
      · obtain ⟨A', c', wm, hr6, hO, hg6, -⟩ := run_append_es (base := 0) (World.ownsRow_nil _ 0 _ 6) (keepE hQ hE2) (Nat.zero_le _) (by omega)
        rw [Nat.zero_add] at hr6 hO
        have hN := own_es (es := es) (by simpa using hO) (by omega)
        have hb := below_grow hg6 (fun q _ e => by simp [Value.ownBlock] at e) (Nat.le_refl _)
        refine step_app_known rfl _ _ 22 22 rfl (.slice none 0 0) (.slice A es.length c) (by simp [Act.eval]) (by simp [Act.eval]) hr6 ?_
        replace hQ := keepB hQ hb
        replace hF := keepH hb hF
        clear hr6 hO hg6 hb
        have hH := HS.out _ hQ
        refine hK.out _ _ ?_ (fun hHeld => ?_)
        · with_reducible exact hH
        clear hK K hH
        try simp only [List.getElem_toArray, List.getElem_cons_succ, List.getElem_cons_zero]
        try simp only [Act.put, List.setIfInBounds_toArray, List.set_cons_zero, List.set_cons_succ]
        refine wpAnyH_take (i := 9) (v := ?_) rfl (by kernel_rfl) (by kernel_rfl) (by kernel_rfl) (fun _ _ _ h => h) (Or.inl ⟨by rfl, ?_⟩) (by assumption) ?_
        rotate_left
        · intro X hX
          go_simp
          try with_reducible rfl
        try simp only [List.getElem_toArray, List.getElem_cons_succ, List.getElem_cons_zero]
        try simp only [Act.put, List.setIfInBounds_toArray, List.set_cons_zero, List.set_cons_succ]
        refine wpAnyH_ready (rs := [11]) (by kernel_rfl) (by simp) (AllReadyH.cons rfl (fun K hK => ?_) AllReadyH.nil)
        · obtain ⟨wm, HST, hNew, hbl, hzz, hoth⟩ := rg_store (w2.heap.size) (p) (v) (A') (es.length) (c') (m) hF rfl hgFb
          refine step_store_known rfl 24 _ _ rfl ⟨gF, 0, none⟩ (.agg #[.int .i64 (p), .int .i64 (v), .slice (A') (es.length) (c'), .int .i64 (m)]) (by simp [Act.eval]) (by simp [Act.eval]) HST.out ?_
          replace hQ := hQ.trans hbl
          replace hN := es_store hN hF (by simp) hoth hzz
          replace hF := hNew
          clear HST hNew hbl hzz hoth
          have hH := HS.out _ hQ
          refine hK.out _ _ ?_ (fun hHeld => ?_)
          · with_reducible exact hH
          clear hK K hH
          try simp only [List.getElem_toArray, List.getElem_cons_succ, List.getElem_cons_zero]
          try simp only [Act.put]
          refine wpAnyH_done (by kernel_rfl) ?_ _
          go_wp2_with fail
          go_meet
          case rel => exact ⟨gF, A', c', rfl, hgFb, Lib.hid hF, Lib.hid hN, Lib.hid hQ⟩
  case rest =>
  obtain ⟨g5, A5, c5, rfl, hgb, hF, hN, hkp⟩ := hcut
  obtain ⟨w4, he⟩ : ∃ W, W = wc := ⟨_, rfl⟩
  subst he
  replace hkp := hkp.out
  have h5 := hF.out
  have e5 := hN.out
  have hg4 := keepH hkp hg2
  have hr4 := keepH hkp hr2
  have hE4 := keepE hkp hE2
  have hF4 := keepE hkp hF2
  have hB4 := keepB hB2 hkp
  clear HS hg2 hr2 hE2 hF2 hB2 hF hN hkp hgb
  obtain ⟨n0, n1, n2, n3⟩ := box4 h5
  obtain ⟨m0, m1, m2, m3, m4, m5, m6, m7⟩ := box8 hr4
  obtain ⟨Q, hAQ⟩ : ∃ Q, Hid (appQ ⟨p, v, es, m⟩ ⟨ki, ep, vi, fr, le, xs⟩ = Q) := ⟨_, Lib.hid rfl⟩
  obtain ⟨⟨p', v', es', m'⟩, ok⟩ := Q
  have HAP : Hid (Calls Tryd.prog 11 #[.agg #[.int .i64 p, .int .i64 v, .slice A5 es.length c5, .int .i64 m], .agg #[.int .i64 ki, .int .i64 st, .int .i64 ep, .int .i64 vi, .int .i64 fr, .int .i64 le, .slice XA xs.length xc, .slice FA fn fc]] w4 (BehPost (⟨p', v', es', m'⟩, ok) w4)) := Lib.hid (by
    have h := apply_any p v m ki st ep vi fr le es xs A5 XA FA c5 xc fn fc w4 e5 hF4 (HAK.out _ hB4) (by omega)
    rw [hAQ.out] at h
    exact h)
  go_wp2_with fail
  refine (HAP.out).mono ?_
  rintro e w5 ⟨A6, c6, rfl, hN5, hb5⟩
  dsimp only at hN5
  obtain ⟨g6, hg6⟩ : ∃ g, Hid (g = w5.heap.size) := ⟨_, Lib.hid rfl⟩
  obtain ⟨w6, HX6⟩ : ∃ W : World, Hid (W = w5.alloc (.cells #[.int .i64 p', .int .i64 v', .slice A6 es'.length c6, .int .i64 m'] 24)) := ⟨_, Lib.hid rfl⟩
  have hk6 : Below w5.heap.size w5 w6 := by rw [HX6.out]; exact below_new _ _
  have h6 : w6.heap[g6]? = some (.cells #[.int .i64 p', .int .i64 v', .slice A6 es'.length c6, .int .i64 m'] 24 (0, 0)) := by rw [HX6.out, hg6.out]; exact heap_alloc_new _ _
  have hk : Below w4.heap.size w4 w6 := hb5.trans (hk6.mono hb5.size)
  replace h5 := keepH hk h5
  replace e5 := keepE hk e5
  replace hg4 := keepH hk hg4
  replace hr4 := keepH hk hr4
  replace hE4 := keepE hk hE4
  replace hF4 := keepE hk hF4
  replace hB4 := keepB hB4 hk
  have e6 := keepE hk6 hN5
  clear n0 n1 n2 n3 m0 m1 m2 m3 m4 m5 m6 m7 HAP hN5 hb5 hk6 hk
  obtain ⟨n0, n1, n2, n3⟩ := box4 hg4
  obtain ⟨m0, m1, m2, m3, m4, m5, m6, m7⟩ := box8 hr4
  have HAP : Hid (Calls Tryd.prog 12 #[.agg #[.int .i64 p, .int .i64 v, .slice A es.length c, .int .i64 m], .agg #[.int .i64 ki, .int .i64 st, .int .i64 ep, .int .i64 vi, .int .i64 fr, .int .i64 le, .slice XA xs.length xc, .slice FA fn fc]] w6 (BehPost (⟨p', v', es', m'⟩, ok) w6)) := Lib.hid (by
    have h := rapply_any p v m ki st ep vi fr le es xs A XA FA c xc fn fc w6 hE4 hF4 (by omega)
    rw [hAQ.out] at h
    exact h)
  go_wp2_with ((rw [← HX6.out]); try rw [← hg6.out])
  refine (HAP.out).mono ?_
  rintro e w7 ⟨A8, c8, rfl, hN7, hb7⟩
  dsimp only at hN7
  obtain ⟨g8, hg8⟩ : ∃ g, Hid (g = w7.heap.size) := ⟨_, Lib.hid rfl⟩
  obtain ⟨w8, HX8⟩ : ∃ W : World, Hid (W = w7.alloc (.cells #[.int .i64 p', .int .i64 v', .slice A8 es'.length c8, .int .i64 m'] 24)) := ⟨_, Lib.hid rfl⟩
  have hk8 : Below w7.heap.size w7 w8 := by rw [HX8.out]; exact below_new _ _
  have h8 : w8.heap[g8]? = some (.cells #[.int .i64 p', .int .i64 v', .slice A8 es'.length c8, .int .i64 m'] 24 (0, 0)) := by rw [HX8.out, hg8.out]; exact heap_alloc_new _ _
  have hk : Below w6.heap.size w6 w8 := hb7.trans (hk8.mono hb7.size)
  replace h5 := keepH hk h5
  replace e5 := keepE hk e5
  replace h6 := keepH hk h6
  replace e6 := keepE hk e6
  replace hg4 := keepH hk hg4
  replace hr4 := keepH hk hr4
  replace hE4 := keepE hk hE4
  replace hF4 := keepE hk hF4
  replace hB4 := keepB hB4 hk
  have e8 := keepE hk8 hN7
  clear n0 n1 n2 n3 m0 m1 m2 m3 m4 m5 m6 m7 HAP hN7 hb7 hk8 hk HX6 hg6
  obtain ⟨mb, hmb⟩ : ∃ b, Hid ((Re.mk p v es m).may = b) := ⟨_, Lib.hid rfl⟩
  have L5 : Hid (∀ X, (∃ p : Regrown, X = grow (redrawn w8 p.d) p.os) → (loadVar 24 ⟨g5, 0, none⟩).run Tryd.prog X = .ok (.agg #[.int .i64 p, .int .i64 v, .slice A5 es.length c5, .int .i64 m]) X) := Lib.hid fun X hX => load_rg (keepH (in_class hX) h5) rfl
  have L2 : Hid (∀ X, (∃ p : Regrown, X = grow (redrawn w8 p.d) p.os) → (loadVar 24 ⟨w.heap.size, 0, none⟩).run Tryd.prog X = .ok (.agg #[.int .i64 p, .int .i64 v, .slice A es.length c, .int .i64 m]) X) := Lib.hid fun X hX => load_rg (keepH (in_class hX) hg4) rfl
  have L6 : Hid (∀ X, (∃ p : Regrown, X = grow (redrawn w8 p.d) p.os) → (loadVar 24 ⟨g6, 0, none⟩).run Tryd.prog X = .ok (.agg #[.int .i64 p', .int .i64 v', .slice A6 es'.length c6, .int .i64 m']) X) := Lib.hid fun X hX => load_rg (keepH (in_class hX) h6) rfl
  have L8 : Hid (∀ X, (∃ p : Regrown, X = grow (redrawn w8 p.d) p.os) → (loadVar 24 ⟨g8, 0, none⟩).run Tryd.prog X = .ok (.agg #[.int .i64 p', .int .i64 v', .slice A8 es'.length c8, .int .i64 m']) X) := Lib.hid fun X hX => load_rg (keepH (in_class hX) h8) rfl
  have L3 : Hid (∀ X, (∃ p : Regrown, X = grow (redrawn w8 p.d) p.os) → (loadVar 27 ⟨w.heap.size + 1, 0, none⟩).run Tryd.prog X = .ok (.agg #[.int .i64 ki, .int .i64 st, .int .i64 ep, .int .i64 vi, .int .i64 fr, .int .i64 le, .slice XA xs.length xc, .slice FA fn fc]) X) := Lib.hid fun X hX => load_rc (keepH (in_class hX) hr4) rfl
  have C0 : ∀ d os, Calls Tryd.prog 13 #[.agg #[.int .i64 p, .int .i64 v, .slice A5 es.length c5, .int .i64 m]] (grow (redrawn w8 d) os) fun e w'' => e = .returned (.bool mb) ∧ ∃ p : Regrown, w'' = grow (redrawn w8 p.d) p.os := fun d os => by
    have hb := below_regrown w8 d os
    have h := regCheck_any p v m _ (keepE hb e5) (HAK.out _ (keepB hB4 hb))
    rw [hmb.out] at h
    exact Calls.regrown_of (h.mono fun _ _ h => h)
  have C1 : ∀ d os, Calls Tryd.prog 14 #[.agg #[.int .i64 p, .int .i64 v, .slice A es.length c, .int .i64 m]] (grow (redrawn w8 d) os) fun e w'' => e = .returned (.bool mb) ∧ ∃ p : Regrown, w'' = grow (redrawn w8 p.d) p.os := fun d os => by
    have hb := below_regrown w8 d os
    have h := rregCheck_any p v m _ (keepE hb hE4)
    rw [hmb.out] at h
    exact Calls.regrown_of (h.mono fun _ _ h => h)
  have C2 : ∀ d os, Calls Tryd.prog 15 #[.agg #[.int .i64 p, .int .i64 v, .slice A5 es.length c5, .int .i64 m], .agg #[.int .i64 ki, .int .i64 st, .int .i64 ep, .int .i64 vi, .int .i64 fr, .int .i64 le, .slice XA xs.length xc, .slice FA fn fc]] (grow (redrawn w8 d) os) fun e w'' => e = .returned (.bool ok) ∧ ∃ p : Regrown, w'' = grow (redrawn w8 p.d) p.os := fun d os => by
    have hb := below_regrown w8 d os
    have h := may_any p v m ki st ep vi fr le es xs A5 XA FA c5 xc fn fc _ (keepE hb e5) (keepE hb hF4) (HAK.out _ (keepB hB4 hb)) (by omega)
    rw [hAQ.out] at h
    exact Calls.regrown_of (h.mono fun _ _ h => h)
  have C3 : ∀ d os, Calls Tryd.prog 16 #[.agg #[.int .i64 p', .int .i64 v', .slice A6 es'.length c6, .int .i64 m'], .agg #[.int .i64 p', .int .i64 v', .slice A8 es'.length c8, .int .i64 m']] (grow (redrawn w8 d) os) fun e w'' => e = .returned (.bool true) ∧ ∃ p : Regrown, w'' = grow (redrawn w8 p.d) p.os := fun d os => by
    have hb := below_regrown w8 d os
    have h := sameReg_any p' v' m' p' v' m' _ (keepE hb e6) (keepE hb e8)
    rw [decide_eq_true rfl] at h
    exact Calls.regrown_of (h.mono fun _ _ h => h)
  have C4 : ∀ d os, Calls Tryd.prog 16 #[.agg #[.int .i64 p, .int .i64 v, .slice A5 es.length c5, .int .i64 m], .agg #[.int .i64 p, .int .i64 v, .slice A es.length c, .int .i64 m]] (grow (redrawn w8 d) os) fun e w'' => e = .returned (.bool true) ∧ ∃ p : Regrown, w'' = grow (redrawn w8 p.d) p.os := fun d os => by
    have hb := below_regrown w8 d os
    have h := sameReg_any p v m p v m _ (keepE hb e5) (keepE hb hE4)
    rw [decide_eq_true rfl] at h
    exact Calls.regrown_of (h.mono fun _ _ h => h)
  have C5 : ∀ d os, Calls Tryd.prog 10 #[] (grow (redrawn w8 d) os) fun e w'' => e = .returned (.bool true) ∧ ∃ p : Regrown, w'' = grow (redrawn w8 p.d) p.os := fun d os => by
    have hb := below_regrown w8 d os
    have h := HLV.out _ (keepB hB4 hb)
    exact Calls.regrown_of (h.mono fun _ _ h => h)
  clear h5 h6 h8 e5 e6 e8 hg4 hr4 hE4 hF4 HAK HLV hmb hAQ
  go_upto_region 6 with ((rw [← HX8.out]); try rw [← hg8.out])
  refine wp_region_quiet_below (by kernel_rfl) (by kernel_rfl) ?_
  repeat (first
    | (go_big_quiet_want; (with_reducible refine quiet_load 24 _ (by rfl) ⟨g5, 0, none⟩ (by with_unfolding_all rfl) _ L5.out ?_); (try simp only [Act.put, List.setIfInBounds_toArray, List.set_cons_zero, List.set_cons_succ]); go_big_quiet_on)
    | (go_big_quiet_want; (with_reducible refine quiet_load 24 _ (by rfl) ⟨w.heap.size, 0, none⟩ (by with_unfolding_all rfl) _ L2.out ?_); (try simp only [Act.put, List.setIfInBounds_toArray, List.set_cons_zero, List.set_cons_succ]); go_big_quiet_on)
    | (go_big_quiet_want; (with_reducible refine quiet_load 24 _ (by rfl) ⟨g6, 0, none⟩ (by with_unfolding_all rfl) _ L6.out ?_); (try simp only [Act.put, List.setIfInBounds_toArray, List.set_cons_zero, List.set_cons_succ]); go_big_quiet_on)
    | (go_big_quiet_want; (with_reducible refine quiet_load 24 _ (by rfl) ⟨g8, 0, none⟩ (by with_unfolding_all rfl) _ L8.out ?_); (try simp only [Act.put, List.setIfInBounds_toArray, List.set_cons_zero, List.set_cons_succ]); go_big_quiet_on)
    | (go_big_quiet_want; (with_reducible refine quiet_load 27 _ (by rfl) ⟨w.heap.size + 1, 0, none⟩ (by with_unfolding_all rfl) _ L3.out ?_); (try simp only [Act.put, List.setIfInBounds_toArray, List.set_cons_zero, List.set_cons_succ]); go_big_quiet_on)
    | go_big_quiet_step (first | with_reducible exact C0 _ _ | with_reducible exact C1 _ _ | with_reducible exact C2 _ _ | with_reducible exact C3 _ _ | with_reducible exact C4 _ _ | with_reducible exact C5 _ _))
  refine wpQuiet_nil ?_
  intro _ hw'
  have hb9 := in_class hw'
  clear hw'
  go_wp2_with fail
  go_ret
  exact ⟨rfl, keepB hB4 hb9⟩
end Go.Proofs.YtnbhdehpdfojlaaDoor.registerTellsW
