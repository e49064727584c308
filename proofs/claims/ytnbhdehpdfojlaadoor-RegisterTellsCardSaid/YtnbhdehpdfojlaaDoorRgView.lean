/-
  inView of package register: what a RecView makes of a register.
-/
import Derived.Test.YtnbhdehpdfojlaaDoorRgFree
namespace Go.Proofs.YtnbhdehpdfojlaaDoor
open Go.RowKit Go.Sort
/-- What a call leaves that tells a register and whether. -/
def BehPost (q : Re × Bool) (w : World) (e : Ending) (w' : World) : Prop :=
  ∃ A c, e = .returned (.tuple #[.agg #[.int .i64 q.1.p, .int .i64 q.1.v, .slice A q.1.es.length c, .int .i64 q.1.m], .bool q.2]) ∧ EsB w'.heap.size w' (.slice A q.1.es.length c) q.1.es ∧ Below w.heap.size w w'
theorem es_nil (B : Nat) (w : World) : EsB B w (.slice none 0 0) [] := ⟨none, 0, rfl, Nat.le_refl _, Nat.zero_le _, fun _ => ⟨rfl, rfl⟩, fun h => by simp at h⟩
/-- What a RecView makes of it. -/
def viw (r : Re) (x : Rx) : Re × Bool :=
  if x.ep < 1 ∨ x.ep < r.p ∨ x.fr ≠ frm r x.ep then (Re.zero, false)
  else (⟨x.ep, x.ep, r.es.take (frm r x.ep) ++ x.es, r.m⟩, pre (r.es.take r.m.toNat) (r.es.take (frm r x.ep) ++ x.es))
theorem beh_view (r : Re) (x : Rx) (h : x.ki = 2) : beh r x = viw r x := by simp [beh, viw, h]
set_option maxRecDepth 100000 in
set_option maxHeartbeats 4000000 in
theorem view_no (p v m ki st ep vi fr le : Int) (es xs : List En) (A XA FA : Option Addr) (c xc fn fc : Nat) (w : World)
    (hno : ep < 1 ∨ ep < p ∨ fr ≠ frm ⟨p, v, es, m⟩ ep) : Calls Tryd.prog 26 #[.agg #[.int .i64 p, .int .i64 v, .slice A es.length c, .int .i64 m], .agg #[.int .i64 ki, .int .i64 st, .int .i64 ep, .int .i64 vi, .int .i64 fr, .int .i64 le, .slice XA xs.length xc, .slice FA fn fc]] w (BehPost (Re.zero, false) w) := by
  obtain ⟨w1, HX1⟩ : ∃ W : World, Hid (W = ((w.alloc (.cells #[.int .i64 p, .int .i64 v, .slice A es.length c, .int .i64 m] 24)).alloc (.cells #[.int .i64 ki, .int .i64 st, .int .i64 ep, .int .i64 vi, .int .i64 fr, .int .i64 le, .slice XA xs.length xc, .slice FA fn fc] 27)).alloc (.cells #[.int .i64 0, .int .i64 0, .slice none 0 0, .int .i64 0] 24)) := ⟨_, Lib.hid rfl⟩
  obtain ⟨hz1, hb1, hg, hr, hq⟩ := three_new HX1.out
  obtain ⟨n0, n1, n2, n3⟩ := box4 hg
  obtain ⟨m0, m1, m2, m3, m4, m5, m6, m7⟩ := box8 hr
  obtain ⟨w2, HST, hq2, hbl, hzz, hoth⟩ := rg_store w.heap.size 0 0 none 0 0 0 hq rfl (by omega)
  have hfin : BehPost (Re.zero, false) w (.returned (.tuple #[.agg #[.int .i64 0, .int .i64 0, .slice none 0 0, .int .i64 0], .bool false])) w2 := ⟨none, 0, rfl, es_nil _ _, hb1.trans hbl⟩
  replace hfin := Lib.hid hfin
  clear hg hr hq hbl hzz hoth hz1 hb1
  have hfr : frm ⟨p, v, es, m⟩ ep = if v < ep then 0 else es.length := rfl
  rw [hfr] at hno
  clear hfr
  by_cases qv : v < ep
  · have tv : decide (v < ep) = true := decide_eq_true qv
    rw [if_pos qv] at hno
    by_cases q0 : ep < 1
    · have t0 : decide (ep < 1) = true := decide_eq_true q0
      clear hno
      go_enter Tryd.func26, Tryd.ntmps26
      go_wp2_with (first | (rw [← HX1.out]) | (with_reducible refine wpList_store_known (by rfl) 24 _ _ (by rfl) ⟨w.heap.size + 1 + 1, 0, none⟩ _ (by with_unfolding_all rfl) (by with_unfolding_all rfl) HST.out ?_))
      (try simp only [Exit.inBlock, Exit.then]); refine bodyPost_ret (results_row_tmp rfl _ _ (w.heap.size + 1 + 1) 24 #[.int .i64 0, .int .i64 0, .slice none 0 0, .int .i64 0] (0, 0) _ rfl hq2 Tryd.underlying24 rfl (by kernel_rfl)) rfl ?_
      exact hfin.out
    have t0 : decide (ep < 1) = false := decide_eq_false q0
    by_cases q1 : ep < p
    · have t1 : decide (ep < p) = true := decide_eq_true q1
      clear hno
      go_enter Tryd.func26, Tryd.ntmps26
      go_wp2_with (first | (rw [← HX1.out]) | (with_reducible refine wpList_store_known (by rfl) 24 _ _ (by rfl) ⟨w.heap.size + 1 + 1, 0, none⟩ _ (by with_unfolding_all rfl) (by with_unfolding_all rfl) HST.out ?_))
      (try simp only [Exit.inBlock, Exit.then]); refine bodyPost_ret (results_row_tmp rfl _ _ (w.heap.size + 1 + 1) 24 #[.int .i64 0, .int .i64 0, .slice none 0 0, .int .i64 0] (0, 0) _ rfl hq2 Tryd.underlying24 rfl (by kernel_rfl)) rfl ?_
      exact hfin.out
    have t1 : decide (ep < p) = false := decide_eq_false q1
    have t2 : (fr != (0 : Int)) = true := by
      have : fr ≠ (0 : Int) := by
        rcases hno with h | h | h
        · exact absurd h q0
        · exact absurd h q1
        · simpa using h
      simpa using this
    clear hno
    go_enter Tryd.func26, Tryd.ntmps26
    go_wp2_with (first | (rw [← HX1.out]) | (with_reducible refine wpList_store_known (by rfl) 24 _ _ (by rfl) ⟨w.heap.size + 1 + 1, 0, none⟩ _ (by with_unfolding_all rfl) (by with_unfolding_all rfl) HST.out ?_))
    (try simp only [Exit.inBlock, Exit.then]); refine bodyPost_ret (results_row_tmp rfl _ _ (w.heap.size + 1 + 1) 24 #[.int .i64 0, .int .i64 0, .slice none 0 0, .int .i64 0] (0, 0) _ rfl hq2 Tryd.underlying24 rfl (by kernel_rfl)) rfl ?_
    exact hfin.out
  · have tv : decide (v < ep) = false := decide_eq_false qv
    rw [if_neg qv] at hno
    by_cases q0 : ep < 1
    · have t0 : decide (ep < 1) = true := decide_eq_true q0
      clear hno
      go_enter Tryd.func26, Tryd.ntmps26
      go_wp2_with (first | (rw [← HX1.out]) | (with_reducible refine wpList_store_known (by rfl) 24 _ _ (by rfl) ⟨w.heap.size + 1 + 1, 0, none⟩ _ (by with_unfolding_all rfl) (by with_unfolding_all rfl) HST.out ?_))
      (try simp only [Exit.inBlock, Exit.then]); refine bodyPost_ret (results_row_tmp rfl _ _ (w.heap.size + 1 + 1) 24 #[.int .i64 0, .int .i64 0, .slice none 0 0, .int .i64 0] (0, 0) _ rfl hq2 Tryd.underlying24 rfl (by kernel_rfl)) rfl ?_
      exact hfin.out
    have t0 : decide (ep < 1) = false := decide_eq_false q0
    by_cases q1 : ep < p
    · have t1 : decide (ep < p) = true := decide_eq_true q1
      clear hno
      go_enter Tryd.func26, Tryd.ntmps26
      go_wp2_with (first | (rw [← HX1.out]) | (with_reducible refine wpList_store_known (by rfl) 24 _ _ (by rfl) ⟨w.heap.size + 1 + 1, 0, none⟩ _ (by with_unfolding_all rfl) (by with_unfolding_all rfl) HST.out ?_))
      (try simp only [Exit.inBlock, Exit.then]); refine bodyPost_ret (results_row_tmp rfl _ _ (w.heap.size + 1 + 1) 24 #[.int .i64 0, .int .i64 0, .slice none 0 0, .int .i64 0] (0, 0) _ rfl hq2 Tryd.underlying24 rfl (by kernel_rfl)) rfl ?_
      exact hfin.out
    have t1 : decide (ep < p) = false := decide_eq_false q1
    have t2 : (fr != ((es.length : Int) : Int)) = true := by
      have : fr ≠ ((es.length : Int) : Int) := by
        rcases hno with h | h | h
        · exact absurd h q0
        · exact absurd h q1
        · simpa using h
      simpa using this
    clear hno
    go_enter Tryd.func26, Tryd.ntmps26
    go_wp2_with (first | (rw [← HX1.out]) | (with_reducible refine wpList_store_known (by rfl) 24 _ _ (by rfl) ⟨w.heap.size + 1 + 1, 0, none⟩ _ (by with_unfolding_all rfl) (by with_unfolding_all rfl) HST.out ?_))
    (try simp only [Exit.inBlock, Exit.then]); refine bodyPost_ret (results_row_tmp rfl _ _ (w.heap.size + 1 + 1) 24 #[.int .i64 0, .int .i64 0, .slice none 0 0, .int .i64 0] (0, 0) _ rfl hq2 Tryd.underlying24 rfl (by kernel_rfl)) rfl ?_
    exact hfin.out
set_option maxRecDepth 100000 in
set_option maxHeartbeats 8000000 in
theorem view_new (p v : Int) (m : Nat) (ki st ep vi fr le : Int) (es xs : List En) (A XA FA : Option Addr) (c xc fn fc : Nat) (w : World) (ha : EsB w.heap.size w (.slice A es.length c) es) (hx : EsB w.heap.size w (.slice XA xs.length xc) xs) (hm : m ≤ es.length) (hl : es.length ≤ 100000) (hlx : xs.length ≤ 100000)
    (q0 : ¬ ep < 1) (q1 : ¬ ep < p) (qv : v < ep) (q2 : fr = 0) : Calls Tryd.prog 26 #[.agg #[.int .i64 p, .int .i64 v, .slice A es.length c, .int .i64 (m : Int)], .agg #[.int .i64 ki, .int .i64 st, .int .i64 ep, .int .i64 vi, .int .i64 fr, .int .i64 le, .slice XA xs.length xc, .slice FA fn fc]] w
      (BehPost (⟨ep, ep, es.take 0 ++ xs, m⟩, pre (es.take m) (es.take 0 ++ xs)) w) := by
  subst q2
  obtain ⟨bp, hbp⟩ : ∃ b, Hid (pre (es.take m) (es.take 0 ++ xs) = b) := ⟨_, Lib.hid rfl⟩
  obtain ⟨L, hL⟩ : ∃ L : Nat, Hid (L = 0 + xs.length) := ⟨_, Lib.hid rfl⟩
  have t0 : decide (ep < 1) = false := decide_eq_false q0
  have t1 : decide (ep < p) = false := decide_eq_false q1
  have tv : decide (v < ep) = true := decide_eq_true qv
  obtain ⟨w1, HX1⟩ : ∃ W : World, Hid (W = ((w.alloc (.cells #[.int .i64 p, .int .i64 v, .slice A es.length c, .int .i64 (m : Int)] 24)).alloc (.cells #[.int .i64 ki, .int .i64 st, .int .i64 ep, .int .i64 vi, .int .i64 0, .int .i64 le, .slice XA xs.length xc, .slice FA fn fc] 27)).alloc (.cells #[.int .i64 0, .int .i64 0, .slice none 0 0, .int .i64 0] 24)) := ⟨_, Lib.hid rfl⟩
  obtain ⟨hz1, hb1, hg1, hr1, hq1⟩ := three_new HX1.out
  obtain ⟨n0, n1, n2, n3⟩ := box4 hg1
  obtain ⟨m0, m1, m2, m3, m4, m5, m6, m7⟩ := box8 hr1
  have hE1 := keepE hb1 ha
  have hF1 := keepE hb1 hx
  have hca := (es_len ha).2.1
  have hcm := (es_len ha).2.2
  have hcxm := (es_len hx).2.2
  unfold maxLen at hcm hcxm
  have hmc : ¬ c < m := by omega
  have HS6 : Hid (∀ X : World, X.heap[w.heap.size]? = some (.cells #[.int .i64 p, .int .i64 v, .slice A es.length c, .int .i64 (m : Int)] 24 (0, 0)) → X.heap[w.heap.size + 1]? = some (.cells #[.int .i64 ki, .int .i64 st, .int .i64 ep, .int .i64 vi, .int .i64 0, .int .i64 le, .slice XA xs.length xc, .slice FA fn fc] 27 (0, 0)) →
      X.cell? ⟨w.heap.size, 2, none⟩ = some (.slice A es.length c) ∧ X.cell? ⟨w.heap.size + 1, 6, none⟩ = some (.slice XA xs.length xc)) := Lib.hid fun X h1 h2 => ⟨(box4 h1).2.2.1, (box8 h2).2.2.2.2.2.2.1⟩
  clear ha hx q0 q1 qv
  go_enter Tryd.func26, Tryd.ntmps26
  go_wp2_with (rw [← HX1.out])
  go_upto_region 6 with fail
  go_cut [7] (fun u wx => ∃ A' c', u = .slice A' L c' ∧ Hid (EsB wx.heap.size wx (.slice A' L c') (es.take 0 ++ xs)) ∧ Hid (Below w1.heap.size w1 wx))
  case first =>
    have hW : Below w1.heap.size w1 w1.drew := (Below.refl _ _).drew
    have hg : w1.drew.heap[w.heap.size]? = _ := hg1
    have hr : w1.drew.heap[w.heap.size + 1]? = _ := hr1
    have hE : EsB w1.drew.heap.size w1.drew _ _ := hE1
    have hF : EsB w1.drew.heap.size w1.drew _ _ := hF1
    have hH := HS6.out _ hg hr
    clear n0 n1 n2 n3 m0 m1 m2 m3 m4 m5 m6 m7 hg1 hr1 hE1 hF1 hq1 hb1
    refine wp_region_held_drew (S := fun X => X.cell? ⟨w.heap.size, 2, none⟩ = some (.slice A es.length c) ∧ X.cell? ⟨w.heap.size + 1, 6, none⟩ = some (.slice XA xs.length xc)) (by kernel_rfl) hH (fun hHeld => ?_)
    clear hH
    refine wpAnyH_take (i := 0) (v := ?_) rfl (by kernel_rfl) (by kernel_rfl) (by kernel_rfl) (fun _ _ _ h => h) (Or.inl ⟨by rfl, ?_⟩) (by assumption) ?_
    rotate_left
    · intro X hX
      go_simp
      try with_reducible rfl
    try simp only [List.getElem_toArray, List.getElem_cons_zero]
    try simp only [Act.put, List.setIfInBounds_toArray, List.set_cons_zero, List.set_cons_succ]
    refine wpAnyH_take (i := 1) (v := .slice A es.length c) rfl (by kernel_rfl) (by kernel_rfl) (by kernel_rfl) (fun _ _ _ h => h) (Or.inl ⟨by rfl, ?_⟩) (by assumption) ?_
    · intro X hX
      obtain ⟨s2, s6⟩ := hX
      go_simp
    try simp only [List.getElem_toArray, List.getElem_cons_succ, List.getElem_cons_zero]
    try simp only [Act.put, List.setIfInBounds_toArray, List.set_cons_zero, List.set_cons_succ]
    refine wpAnyH_take (i := 2) (v := ?_) rfl (by kernel_rfl) (by kernel_rfl) (by kernel_rfl) (fun _ _ _ h => h) (Or.inl ⟨by rfl, ?_⟩) (by assumption) ?_
    rotate_left
    · intro X hX
      go_simp
      try with_reducible rfl
    try simp only [List.getElem_toArray, List.getElem_cons_succ, List.getElem_cons_zero]
    try simp only [Act.put, List.setIfInBounds_toArray, List.set_cons_zero, List.set_cons_succ]
    refine wpAnyH_take (i := 3) (v := ?_) rfl (by kernel_rfl) (by kernel_rfl) (by kernel_rfl) (fun _ _ _ h => h) (Or.inl ⟨by rfl, ?_⟩) (by assumption) ?_
    rotate_left
    · intro X hX
      go_simp
      try with_reducible rfl
    try simp only [List.getElem_toArray, List.getElem_cons_succ, List.getElem_cons_zero]
    try simp only [Act.put, List.setIfInBounds_toArray, List.set_cons_zero, List.set_cons_succ]
    refine wpAnyH_take (i := 4) (v := .slice A 0 0) rfl (by kernel_rfl) (by kernel_rfl) (by kernel_rfl) (fun _ _ _ h => h) (Or.inl ⟨by rfl, ?_⟩) (by assumption) ?_
    · intro X hX
      go_simp
    try simp only [List.getElem_toArray, List.getElem_cons_succ, List.getElem_cons_zero]
    try simp only [Act.put, List.setIfInBounds_toArray, List.set_cons_zero, List.set_cons_succ]
    refine wpAnyH_take (i := 5) (v := ?_) rfl (by kernel_rfl) (by kernel_rfl) (by kernel_rfl) (fun _ _ _ h => h) (Or.inl ⟨by rfl, ?_⟩) (by assumption) ?_
    rotate_left
    · intro X hX
      go_simp
      try with_reducible rfl
    try simp only [List.getElem_toArray, List.getElem_cons_succ, List.getElem_cons_zero]
    try simp only [Act.put, List.setIfInBounds_toArray, List.set_cons_zero, List.set_cons_succ]
    refine wpAnyH_take (i := 6) (v := .slice XA xs.length xc) rfl (by kernel_rfl) (by kernel_rfl) (by kernel_rfl) (fun _ _ _ h => h) (Or.inl ⟨by rfl, ?_⟩) (by assumption) ?_
    · intro X hX
      obtain ⟨s2, s6⟩ := hX
      go_simp
    try simp only [List.getElem_toArray, List.getElem_cons_succ, List.getElem_cons_zero]
    try simp only [Act.put, List.setIfInBounds_toArray, List.set_cons_zero, List.set_cons_succ]
    refine wpAnyH_ready (rs := [7]) (by kernel_rfl) (by simp) (AllReadyH.cons rfl (fun K hK => ?_) AllReadyH.nil)
    · obtain ⟨A', c', wm, hr7, hN, hb⟩ := run_append_cut (f := 0) hE (by omega) hF (by omega) (by omega)
      rw [← hL.out] at hr7 hN
      refine step_app_known rfl _ _ 22 22 rfl (.slice A 0 0) (.slice XA xs.length xc) (by simp [Act.eval]) (by simp [Act.eval]) hr7 ?_
      replace hg := keepH hb hg
      replace hr := keepH hb hr
      replace hE := keepE hb hE
      replace hF := keepE hb hF
      replace hW := keepB hW hb
      clear hr7 hb
      have hH := HS6.out _ hg hr
      refine hK.out _ _ ?_ (fun hHeld => ?_)
      · with_reducible exact hH
      clear hK K hH
      try simp only [List.getElem_toArray, List.getElem_cons_succ, List.getElem_cons_zero]
      try simp only [Act.put, List.setIfInBounds_toArray, List.set_cons_zero, List.set_cons_succ]
      refine wpAnyH_take (i := 8) (v := ?_) rfl (by kernel_rfl) (by kernel_rfl) (by kernel_rfl) (fun _ _ _ h => h) (Or.inl ⟨by rfl, ?_⟩) (by assumption) ?_
      rotate_left
      · intro X hX
        go_simp
        try with_reducible rfl
      try simp only [List.getElem_toArray, List.getElem_cons_succ, List.getElem_cons_zero]
      try simp only [Act.put, List.setIfInBounds_toArray, List.set_cons_zero, List.set_cons_succ]
      refine wpAnyH_done (by kernel_rfl) ?_ _
      go_wp2_with fail
      go_meet
      case rel => exact ⟨A', c', rfl, Lib.hid hN, Lib.hid hW⟩
  case rest =>
  obtain ⟨A', c', rfl, hN, hWx⟩ := hcut
  replace hWx := hWx.out
  have hgx := keepH hWx hg1
  have hrx := keepH hWx hr1
  have hqx := keepH hWx hq1
  have hEx := keepE hWx hE1
  have hb2 := keepB hb1 hWx
  have hzx := hWx.size
  have hNx := hN.out
  clear n0 n1 n2 n3 m0 m1 m2 m3 m4 m5 m6 m7 hg1 hr1 hq1 hE1 hF1 hb1 hN hWx HS6
  obtain ⟨n0, n1, n2, n3⟩ := box4 hgx
  obtain ⟨m0, m1, m2, m3, m4, m5, m6, m7⟩ := box8 hrx
  obtain ⟨w2, HX2⟩ : ∃ W : World, Hid (W = wc.alloc (.cells #[.int .i64 ep, .int .i64 ep, .slice A' L c', .int .i64 (m : Int)] 24)) := ⟨_, Lib.hid rfl⟩
  have hbx : Below wc.heap.size wc w2 := by rw [HX2.out]; exact below_new _ _
  have hn2 : w2.heap[wc.heap.size]? = some (.cells #[.int .i64 ep, .int .i64 ep, .slice A' L c', .int .i64 (m : Int)] 24 (0, 0)) := by rw [HX2.out]; exact heap_alloc_new _ _
  have hg2 := keepH hbx hgx
  have hq2 := keepH hbx hqx
  have hE2 := keepE hbx hEx
  have hN2 := keepE hbx hNx
  have hW2 := keepB hb2 hbx
  have HS8 : Hid (∀ X : World, X.heap[wc.heap.size]? = some (.cells #[.int .i64 ep, .int .i64 ep, .slice A' L c', .int .i64 (m : Int)] 24 (0, 0)) → X.heap[w.heap.size]? = some (.cells #[.int .i64 p, .int .i64 v, .slice A es.length c, .int .i64 (m : Int)] 24 (0, 0)) →
      X.cell? ⟨wc.heap.size, 0, none⟩ = some (.int .i64 ep) ∧ X.cell? ⟨wc.heap.size, 1, none⟩ = some (.int .i64 ep) ∧ X.cell? ⟨wc.heap.size, 2, none⟩ = some (.slice A' L c') ∧ X.cell? ⟨wc.heap.size, 3, none⟩ = some (.int .i64 (m : Int)) ∧ X.cell? ⟨w.heap.size, 2, none⟩ = some (.slice A es.length c) ∧ X.cell? ⟨w.heap.size, 3, none⟩ = some (.int .i64 (m : Int))) := Lib.hid fun X h1 h2 => ⟨(box4 h1).1, (box4 h1).2.1, (box4 h1).2.2.1, (box4 h1).2.2.2, (box4 h2).2.2.1, (box4 h2).2.2.2⟩
  clear hbx hgx hrx hqx hEx hNx hb2
  go_upto_region 8 with (rw [← HX2.out])
  have hn : w2.drew.heap[wc.heap.size]? = _ := hn2
  have hg : w2.drew.heap[w.heap.size]? = _ := hg2
  have hq : w2.drew.heap[w.heap.size + 1 + 1]? = _ := hq2
  have hE : EsB w2.drew.heap.size w2.drew _ _ := hE2
  have hN : EsB w2.drew.heap.size w2.drew _ _ := hN2
  have hW : Below w.heap.size w w2.drew := hW2.drew
  have hH := HS8.out _ hn hg
  clear n0 n1 n2 n3 m0 m1 m2 m3 m4 m5 m6 m7 hg2 hn2 hq2 hE2 hN2 hW2
  refine wp_region_held_drew (S := fun X => X.cell? ⟨wc.heap.size, 0, none⟩ = some (.int .i64 ep) ∧ X.cell? ⟨wc.heap.size, 1, none⟩ = some (.int .i64 ep) ∧ X.cell? ⟨wc.heap.size, 2, none⟩ = some (.slice A' L c') ∧ X.cell? ⟨wc.heap.size, 3, none⟩ = some (.int .i64 (m : Int)) ∧ X.cell? ⟨w.heap.size, 2, none⟩ = some (.slice A es.length c) ∧ X.cell? ⟨w.heap.size, 3, none⟩ = some (.int .i64 (m : Int))) (by kernel_rfl) hH (fun hHeld => ?_)
  clear hH
  refine wpAnyH_take (i := 0) (v := .agg #[.int .i64 ep, .int .i64 ep, .slice A' L c', .int .i64 (m : Int)]) rfl (by kernel_rfl) (by kernel_rfl) (by kernel_rfl) (fun _ _ _ h => h) (Or.inl ⟨by rfl, ?_⟩) (by assumption) ?_
  · intro X hX
    obtain ⟨a0, a1, a2, a3, s2, s3⟩ := hX
    go_simp
  try simp only [List.getElem_toArray, List.getElem_cons_zero]
  try simp only [Act.put, List.setIfInBounds_toArray, List.set_cons_zero, List.set_cons_succ]
  refine wpAnyH_take (i := 1) (v := ?_) rfl (by kernel_rfl) (by kernel_rfl) (by kernel_rfl) (fun _ _ _ h => h) (Or.inl ⟨by rfl, ?_⟩) (by assumption) ?_
  rotate_left
  · intro X hX
    go_simp
    try with_reducible rfl
  try simp only [List.getElem_toArray, List.getElem_cons_succ, List.getElem_cons_zero]
  try simp only [Act.put, List.setIfInBounds_toArray, List.set_cons_zero, List.set_cons_succ]
  refine wpAnyH_take (i := 2) (v := .slice A es.length c) rfl (by kernel_rfl) (by kernel_rfl) (by kernel_rfl) (fun _ _ _ h => h) (Or.inl ⟨by rfl, ?_⟩) (by assumption) ?_
  · intro X hX
    obtain ⟨a0, a1, a2, a3, s2, s3⟩ := hX
    go_simp
  try simp only [List.getElem_toArray, List.getElem_cons_succ, List.getElem_cons_zero]
  try simp only [Act.put, List.setIfInBounds_toArray, List.set_cons_zero, List.set_cons_succ]
  refine wpAnyH_take (i := 3) (v := ?_) rfl (by kernel_rfl) (by kernel_rfl) (by kernel_rfl) (fun _ _ _ h => h) (Or.inl ⟨by rfl, ?_⟩) (by assumption) ?_
  rotate_left
  · intro X hX
    go_simp
    try with_reducible rfl
  try simp only [List.getElem_toArray, List.getElem_cons_succ, List.getElem_cons_zero]
  try simp only [Act.put, List.setIfInBounds_toArray, List.set_cons_zero, List.set_cons_succ]
  refine wpAnyH_take (i := 4) (v := .int .i64 (m : Int)) rfl (by kernel_rfl) (by kernel_rfl) (by kernel_rfl) (fun _ _ _ h => h) (Or.inl ⟨by rfl, ?_⟩) (by assumption) ?_
  · intro X hX
    obtain ⟨a0, a1, a2, a3, s2, s3⟩ := hX
    go_simp
  try simp only [List.getElem_toArray, List.getElem_cons_succ, List.getElem_cons_zero]
  try simp only [Act.put, List.setIfInBounds_toArray, List.set_cons_zero, List.set_cons_succ]
  refine wpAnyH_take (i := 5) (v := .slice A m c) rfl (by kernel_rfl) (by kernel_rfl) (by kernel_rfl) (fun _ _ _ h => h) (Or.inl ⟨by rfl, ?_⟩) (by assumption) ?_
  · intro X hX
    go_simp
  try simp only [List.getElem_toArray, List.getElem_cons_succ, List.getElem_cons_zero]
  try simp only [Act.put, List.setIfInBounds_toArray, List.set_cons_zero, List.set_cons_succ]
  refine wpAnyH_take (i := 6) (v := ?_) rfl (by kernel_rfl) (by kernel_rfl) (by kernel_rfl) (fun _ _ _ h => h) (Or.inl ⟨by rfl, ?_⟩) (by assumption) ?_
  rotate_left
  · intro X hX
    go_simp
    try with_reducible rfl
  try simp only [List.getElem_toArray, List.getElem_cons_succ, List.getElem_cons_zero]
  try simp only [Act.put, List.setIfInBounds_toArray, List.set_cons_zero, List.set_cons_succ]
  refine wpAnyH_ready (rs := [7]) (by kernel_rfl) (by simp) (AllReadyH.cons rfl (fun K hK => ?_) AllReadyH.nil)
  · go_simp
    refine ((by have h := prefix_any (EsB.take hE hm) hN; rw [hbp.out] at h; exact h : Calls Tryd.prog 30 #[.slice A m c, .slice A' L c'] _ (NumPost (.bool bp) _))).mono ?_
    rintro e wm ⟨rfl, hb⟩
    replace hn := keepH hb hn
    replace hg := keepH hb hg
    replace hq := keepH hb hq
    replace hE := keepE hb hE
    replace hN := keepE hb hN
    replace hW := keepB hW hb
    clear hb
    have hH := HS8.out _ hn hg
    go_wp2_with fail
    refine hK.out _ _ ?_ (fun hHeld => ?_)
    · with_reducible exact hH
    clear hK K hH
    try simp only [List.getElem_toArray, List.getElem_cons_succ, List.getElem_cons_zero]
    try simp only [Act.put, List.setIfInBounds_toArray, List.set_cons_zero, List.set_cons_succ]
    refine wpAnyH_ready (rs := [8]) (by kernel_rfl) (by simp) (AllReadyH.cons rfl (fun K hK => ?_) AllReadyH.nil)
    · obtain ⟨wm, HST, hNew, hbl, hzz, hoth⟩ := rg_store (w.heap.size) (ep) (ep) (A') (L) (c') ((m : Int)) hq rfl (by omega)
      refine step_store_known rfl 24 _ _ rfl ⟨w.heap.size + 1 + 1, 0, none⟩ (.agg #[.int .i64 (ep), .int .i64 (ep), .slice (A') (L) (c'), .int .i64 ((m : Int))]) (by simp [Act.eval]) (by simp [Act.eval]) HST.out ?_
      replace hn := (hoth _ (by omega)).trans hn
      replace hg := (hoth _ (by omega)).trans hg
      replace hE := es_store hE hq (by decide) hoth hzz
      replace hN := es_store hN hq (by decide) hoth hzz
      replace hW := hW.trans hbl
      replace hq := hNew
      clear HST hNew hbl hzz hoth
      have hH := HS8.out _ hn hg
      refine hK.out _ _ ?_ (fun hHeld => ?_)
      · with_reducible exact hH
      clear hK K hH
      try simp only [List.getElem_toArray, List.getElem_cons_succ, List.getElem_cons_zero]
      try simp only [Act.put]
      refine wpAnyH_take (i := 9) (v := ?_) rfl (by kernel_rfl) (by kernel_rfl) (by kernel_rfl) (fun _ _ _ h => h) (Or.inl ⟨by rfl, ?_⟩) (by assumption) ?_
      rotate_left
      · intro X hX
        go_simp
        try with_reducible rfl
      try simp only [List.getElem_toArray, List.getElem_cons_succ, List.getElem_cons_zero]
      try simp only [Act.put, List.setIfInBounds_toArray, List.set_cons_zero, List.set_cons_succ]
      refine wpAnyH_done (by kernel_rfl) ?_ _
      go_wp2_with fail
      (try simp only [Exit.inBlock, Exit.then]); refine bodyPost_ret (results_row_tmp rfl _ _ (w.heap.size + 1 + 1) 24 #[.int .i64 ep, .int .i64 ep, .slice A' L c', .int .i64 (m : Int)] (0, 0) _ rfl hq Tryd.underlying24 rfl (by kernel_rfl)) rfl ?_
      have hll : (es.take 0 ++ xs).length = L := by rw [hL.out]; simp
      exact ⟨A', c', by rw [hll, hbp.out]; rfl, by rw [hll]; exact hN, hW⟩
set_option maxRecDepth 100000 in
set_option maxHeartbeats 8000000 in
theorem view_old (p v : Int) (m : Nat) (ki st ep vi fr le : Int) (es xs : List En) (A XA FA : Option Addr) (c xc fn fc : Nat) (w : World) (ha : EsB w.heap.size w (.slice A es.length c) es) (hx : EsB w.heap.size w (.slice XA xs.length xc) xs) (hm : m ≤ es.length) (hl : es.length ≤ 100000) (hlx : xs.length ≤ 100000)
    (q0 : ¬ ep < 1) (q1 : ¬ ep < p) (qv : ¬ v < ep) (q2 : fr = (es.length : Int)) : Calls Tryd.prog 26 #[.agg #[.int .i64 p, .int .i64 v, .slice A es.length c, .int .i64 (m : Int)], .agg #[.int .i64 ki, .int .i64 st, .int .i64 ep, .int .i64 vi, .int .i64 fr, .int .i64 le, .slice XA xs.length xc, .slice FA fn fc]] w
      (BehPost (⟨ep, ep, es.take es.length ++ xs, m⟩, pre (es.take m) (es.take es.length ++ xs)) w) := by
  subst q2
  obtain ⟨bp, hbp⟩ : ∃ b, Hid (pre (es.take m) (es.take es.length ++ xs) = b) := ⟨_, Lib.hid rfl⟩
  obtain ⟨L, hL⟩ : ∃ L : Nat, Hid (L = es.length + xs.length) := ⟨_, Lib.hid rfl⟩
  have t0 : decide (ep < 1) = false := decide_eq_false q0
  have t1 : decide (ep < p) = false := decide_eq_false q1
  have tv : decide (v < ep) = false := decide_eq_false qv
  obtain ⟨w1, HX1⟩ : ∃ W : World, Hid (W = ((w.alloc (.cells #[.int .i64 p, .int .i64 v, .slice A es.length c, .int .i64 (m : Int)] 24)).alloc (.cells #[.int .i64 ki, .int .i64 st, .int .i64 ep, .int .i64 vi, .int .i64 (es.length : Int), .int .i64 le, .slice XA xs.length xc, .slice FA fn fc] 27)).alloc (.cells #[.int .i64 0, .int .i64 0, .slice none 0 0, .int .i64 0] 24)) := ⟨_, Lib.hid rfl⟩
  obtain ⟨hz1, hb1, hg1, hr1, hq1⟩ := three_new HX1.out
  obtain ⟨n0, n1, n2, n3⟩ := box4 hg1
  obtain ⟨m0, m1, m2, m3, m4, m5, m6, m7⟩ := box8 hr1
  have hE1 := keepE hb1 ha
  have hF1 := keepE hb1 hx
  have hca := (es_len ha).2.1
  have hcm := (es_len ha).2.2
  have hcxm := (es_len hx).2.2
  unfold maxLen at hcm hcxm
  have hmc : ¬ c < m := by omega
  have HS6 : Hid (∀ X : World, X.heap[w.heap.size]? = some (.cells #[.int .i64 p, .int .i64 v, .slice A es.length c, .int .i64 (m : Int)] 24 (0, 0)) → X.heap[w.heap.size + 1]? = some (.cells #[.int .i64 ki, .int .i64 st, .int .i64 ep, .int .i64 vi, .int .i64 (es.length : Int), .int .i64 le, .slice XA xs.length xc, .slice FA fn fc] 27 (0, 0)) →
      X.cell? ⟨w.heap.size, 2, none⟩ = some (.slice A es.length c) ∧ X.cell? ⟨w.heap.size + 1, 6, none⟩ = some (.slice XA xs.length xc)) := Lib.hid fun X h1 h2 => ⟨(box4 h1).2.2.1, (box8 h2).2.2.2.2.2.2.1⟩
  clear ha hx q0 q1 qv
  go_enter Tryd.func26, Tryd.ntmps26
  go_wp2_with (rw [← HX1.out])
  go_upto_region 6 with fail
  go_cut [7] (fun u wx => ∃ A' c', u = .slice A' L c' ∧ Hid (EsB wx.heap.size wx (.slice A' L c') (es.take es.length ++ xs)) ∧ Hid (Below w1.heap.size w1 wx))
  case first =>
    have hW : Below w1.heap.size w1 w1.drew := (Below.refl _ _).drew
    have hg : w1.drew.heap[w.heap.size]? = _ := hg1
    have hr : w1.drew.heap[w.heap.size + 1]? = _ := hr1
    have hE : EsB w1.drew.heap.size w1.drew _ _ := hE1
    have hF : EsB w1.drew.heap.size w1.drew _ _ := hF1
    have hH := HS6.out _ hg hr
    clear n0 n1 n2 n3 m0 m1 m2 m3 m4 m5 m6 m7 hg1 hr1 hE1 hF1 hq1 hb1
    refine wp_region_held_drew (S := fun X => X.cell? ⟨w.heap.size, 2, none⟩ = some (.slice A es.length c) ∧ X.cell? ⟨w.heap.size + 1, 6, none⟩ = some (.slice XA xs.length xc)) (by kernel_rfl) hH (fun hHeld => ?_)
    clear hH
    refine wpAnyH_take (i := 0) (v := ?_) rfl (by kernel_rfl) (by kernel_rfl) (by kernel_rfl) (fun _ _ _ h => h) (Or.inl ⟨by rfl, ?_⟩) (by assumption) ?_
    rotate_left
    · intro X hX
      go_simp
      try with_reducible rfl
    try simp only [List.getElem_toArray, List.getElem_cons_zero]
    try simp only [Act.put, List.setIfInBounds_toArray, List.set_cons_zero, List.set_cons_succ]
    refine wpAnyH_take (i := 1) (v := .slice A es.length c) rfl (by kernel_rfl) (by kernel_rfl) (by kernel_rfl) (fun _ _ _ h => h) (Or.inl ⟨by rfl, ?_⟩) (by assumption) ?_
    · intro X hX
      obtain ⟨s2, s6⟩ := hX
      go_simp
    try simp only [List.getElem_toArray, List.getElem_cons_succ, List.getElem_cons_zero]
    try simp only [Act.put, List.setIfInBounds_toArray, List.set_cons_zero, List.set_cons_succ]
    refine wpAnyH_take (i := 2) (v := ?_) rfl (by kernel_rfl) (by kernel_rfl) (by kernel_rfl) (fun _ _ _ h => h) (Or.inl ⟨by rfl, ?_⟩) (by assumption) ?_
    rotate_left
    · intro X hX
      go_simp
      try with_reducible rfl
    try simp only [List.getElem_toArray, List.getElem_cons_succ, List.getElem_cons_zero]
    try simp only [Act.put, List.setIfInBounds_toArray, List.set_cons_zero, List.set_cons_succ]
    refine wpAnyH_take (i := 3) (v := ?_) rfl (by kernel_rfl) (by kernel_rfl) (by kernel_rfl) (fun _ _ _ h => h) (Or.inl ⟨by rfl, ?_⟩) (by assumption) ?_
    rotate_left
    · intro X hX
      go_simp
      try with_reducible rfl
    try simp only [List.getElem_toArray, List.getElem_cons_succ, List.getElem_cons_zero]
    try simp only [Act.put, List.setIfInBounds_toArray, List.set_cons_zero, List.set_cons_succ]
    refine wpAnyH_take (i := 4) (v := .slice A es.length es.length) rfl (by kernel_rfl) (by kernel_rfl) (by kernel_rfl) (fun _ _ _ h => h) (Or.inl ⟨by rfl, ?_⟩) (by assumption) ?_
    · intro X hX
      go_simp
    try simp only [List.getElem_toArray, List.getElem_cons_succ, List.getElem_cons_zero]
    try simp only [Act.put, List.setIfInBounds_toArray, List.set_cons_zero, List.set_cons_succ]
    refine wpAnyH_take (i := 5) (v := ?_) rfl (by kernel_rfl) (by kernel_rfl) (by kernel_rfl) (fun _ _ _ h => h) (Or.inl ⟨by rfl, ?_⟩) (by assumption) ?_
    rotate_left
    · intro X hX
      go_simp
      try with_reducible rfl
    try simp only [List.getElem_toArray, List.getElem_cons_succ, List.getElem_cons_zero]
    try simp only [Act.put, List.setIfInBounds_toArray, List.set_cons_zero, List.set_cons_succ]
    refine wpAnyH_take (i := 6) (v := .slice XA xs.length xc) rfl (by kernel_rfl) (by kernel_rfl) (by kernel_rfl) (fun _ _ _ h => h) (Or.inl ⟨by rfl, ?_⟩) (by assumption) ?_
    · intro X hX
      obtain ⟨s2, s6⟩ := hX
      go_simp
    try simp only [List.getElem_toArray, List.getElem_cons_succ, List.getElem_cons_zero]
    try simp only [Act.put, List.setIfInBounds_toArray, List.set_cons_zero, List.set_cons_succ]
    refine wpAnyH_ready (rs := [7]) (by kernel_rfl) (by simp) (AllReadyH.cons rfl (fun K hK => ?_) AllReadyH.nil)
    · obtain ⟨A', c', wm, hr7, hN, hb⟩ := run_append_cut (f := es.length) hE (by omega) hF (by omega) (by omega)
      rw [← hL.out] at hr7 hN
      refine step_app_known rfl _ _ 22 22 rfl (.slice A es.length es.length) (.slice XA xs.length xc) (by simp [Act.eval]) (by simp [Act.eval]) hr7 ?_
      replace hg := keepH hb hg
      replace hr := keepH hb hr
      replace hE := keepE hb hE
      replace hF := keepE hb hF
      replace hW := keepB hW hb
      clear hr7 hb
      have hH := HS6.out _ hg hr
      refine hK.out _ _ ?_ (fun hHeld => ?_)
      · with_reducible exact hH
      clear hK K hH
      try simp only [List.getElem_toArray, List.getElem_cons_succ, List.getElem_cons_zero]
      try simp only [Act.put, List.setIfInBounds_toArray, List.set_cons_zero, List.set_cons_succ]
      refine wpAnyH_take (i := 8) (v := ?_) rfl (by kernel_rfl) (by kernel_rfl) (by kernel_rfl) (fun _ _ _ h => h) (Or.inl ⟨by rfl, ?_⟩) (by assumption) ?_
      rotate_left
      · intro X hX
        go_simp
        try with_reducible rfl
      try simp only [List.getElem_toArray, List.getElem_cons_succ, List.getElem_cons_zero]
      try simp only [Act.put, List.setIfInBounds_toArray, List.set_cons_zero, List.set_cons_succ]
      refine wpAnyH_done (by kernel_rfl) ?_ _
      go_wp2_with fail
      go_meet
      case rel => exact ⟨A', c', rfl, Lib.hid hN, Lib.hid hW⟩
  case rest =>
  obtain ⟨A', c', rfl, hN, hWx⟩ := hcut
  replace hWx := hWx.out
  have hgx := keepH hWx hg1
  have hrx := keepH hWx hr1
  have hqx := keepH hWx hq1
  have hEx := keepE hWx hE1
  have hb2 := keepB hb1 hWx
  have hzx := hWx.size
  have hNx := hN.out
  clear n0 n1 n2 n3 m0 m1 m2 m3 m4 m5 m6 m7 hg1 hr1 hq1 hE1 hF1 hb1 hN hWx HS6
  obtain ⟨n0, n1, n2, n3⟩ := box4 hgx
  obtain ⟨m0, m1, m2, m3, m4, m5, m6, m7⟩ := box8 hrx
  obtain ⟨w2, HX2⟩ : ∃ W : World, Hid (W = wc.alloc (.cells #[.int .i64 ep, .int .i64 ep, .slice A' L c', .int .i64 (m : Int)] 24)) := ⟨_, Lib.hid rfl⟩
  have hbx : Below wc.heap.size wc w2 := by rw [HX2.out]; exact below_new _ _
  have hn2 : w2.heap[wc.heap.size]? = some (.cells #[.int .i64 ep, .int .i64 ep, .slice A' L c', .int .i64 (m : Int)] 24 (0, 0)) := by rw [HX2.out]; exact heap_alloc_new _ _
  have hg2 := keepH hbx hgx
  have hq2 := keepH hbx hqx
  have hE2 := keepE hbx hEx
  have hN2 := keepE hbx hNx
  have hW2 := keepB hb2 hbx
  have HS8 : Hid (∀ X : World, X.heap[wc.heap.size]? = some (.cells #[.int .i64 ep, .int .i64 ep, .slice A' L c', .int .i64 (m : Int)] 24 (0, 0)) → X.heap[w.heap.size]? = some (.cells #[.int .i64 p, .int .i64 v, .slice A es.length c, .int .i64 (m : Int)] 24 (0, 0)) →
      X.cell? ⟨wc.heap.size, 0, none⟩ = some (.int .i64 ep) ∧ X.cell? ⟨wc.heap.size, 1, none⟩ = some (.int .i64 ep) ∧ X.cell? ⟨wc.heap.size, 2, none⟩ = some (.slice A' L c') ∧ X.cell? ⟨wc.heap.size, 3, none⟩ = some (.int .i64 (m : Int)) ∧ X.cell? ⟨w.heap.size, 2, none⟩ = some (.slice A es.length c) ∧ X.cell? ⟨w.heap.size, 3, none⟩ = some (.int .i64 (m : Int))) := Lib.hid fun X h1 h2 => ⟨(box4 h1).1, (box4 h1).2.1, (box4 h1).2.2.1, (box4 h1).2.2.2, (box4 h2).2.2.1, (box4 h2).2.2.2⟩
  clear hbx hgx hrx hqx hEx hNx hb2
  go_upto_region 8 with (rw [← HX2.out])
  have hn : w2.drew.heap[wc.heap.size]? = _ := hn2
  have hg : w2.drew.heap[w.heap.size]? = _ := hg2
  have hq : w2.drew.heap[w.heap.size + 1 + 1]? = _ := hq2
  have hE : EsB w2.drew.heap.size w2.drew _ _ := hE2
  have hN : EsB w2.drew.heap.size w2.drew _ _ := hN2
  have hW : Below w.heap.size w w2.drew := hW2.drew
  have hH := HS8.out _ hn hg
  clear n0 n1 n2 n3 m0 m1 m2 m3 m4 m5 m6 m7 hg2 hn2 hq2 hE2 hN2 hW2
  refine wp_region_held_drew (S := fun X => X.cell? ⟨wc.heap.size, 0, none⟩ = some (.int .i64 ep) ∧ X.cell? ⟨wc.heap.size, 1, none⟩ = some (.int .i64 ep) ∧ X.cell? ⟨wc.heap.size, 2, none⟩ = some (.slice A' L c') ∧ X.cell? ⟨wc.heap.size, 3, none⟩ = some (.int .i64 (m : Int)) ∧ X.cell? ⟨w.heap.size, 2, none⟩ = some (.slice A es.length c) ∧ X.cell? ⟨w.heap.size, 3, none⟩ = some (.int .i64 (m : Int))) (by kernel_rfl) hH (fun hHeld => ?_)
  clear hH
  refine wpAnyH_take (i := 0) (v := .agg #[.int .i64 ep, .int .i64 ep, .slice A' L c', .int .i64 (m : Int)]) rfl (by kernel_rfl) (by kernel_rfl) (by kernel_rfl) (fun _ _ _ h => h) (Or.inl ⟨by rfl, ?_⟩) (by assumption) ?_
  · intro X hX
    obtain ⟨a0, a1, a2, a3, s2, s3⟩ := hX
    go_simp
  try simp only [List.getElem_toArray, List.getElem_cons_zero]
  try simp only [Act.put, List.setIfInBounds_toArray, List.set_cons_zero, List.set_cons_succ]
  refine wpAnyH_take (i := 1) (v := ?_) rfl (by kernel_rfl) (by kernel_rfl) (by kernel_rfl) (fun _ _ _ h => h) (Or.inl ⟨by rfl, ?_⟩) (by assumption) ?_
  rotate_left
  · intro X hX
    go_simp
    try with_reducible rfl
  try simp only [List.getElem_toArray, List.getElem_cons_succ, List.getElem_cons_zero]
  try simp only [Act.put, List.setIfInBounds_toArray, List.set_cons_zero, List.set_cons_succ]
  refine wpAnyH_take (i := 2) (v := .slice A es.length c) rfl (by kernel_rfl) (by kernel_rfl) (by kernel_rfl) (fun _ _ _ h => h) (Or.inl ⟨by rfl, ?_⟩) (by assumption) ?_
  · intro X hX
    obtain ⟨a0, a1, a2, a3, s2, s3⟩ := hX
    go_simp
  try simp only [List.getElem_toArray, List.getElem_cons_succ, List.getElem_cons_zero]
  try simp only [Act.put, List.setIfInBounds_toArray, List.set_cons_zero, List.set_cons_succ]
  refine wpAnyH_take (i := 3) (v := ?_) rfl (by kernel_rfl) (by kernel_rfl) (by kernel_rfl) (fun _ _ _ h => h) (Or.inl ⟨by rfl, ?_⟩) (by assumption) ?_
  rotate_left
  · intro X hX
    go_simp
    try with_reducible rfl
  try simp only [List.getElem_toArray, List.getElem_cons_succ, List.getElem_cons_zero]
  try simp only [Act.put, List.setIfInBounds_toArray, List.set_cons_zero, List.set_cons_succ]
  refine wpAnyH_take (i := 4) (v := .int .i64 (m : Int)) rfl (by kernel_rfl) (by kernel_rfl) (by kernel_rfl) (fun _ _ _ h => h) (Or.inl ⟨by rfl, ?_⟩) (by assumption) ?_
  · intro X hX
    obtain ⟨a0, a1, a2, a3, s2, s3⟩ := hX
    go_simp
  try simp only [List.getElem_toArray, List.getElem_cons_succ, List.getElem_cons_zero]
  try simp only [Act.put, List.setIfInBounds_toArray, List.set_cons_zero, List.set_cons_succ]
  refine wpAnyH_take (i := 5) (v := .slice A m c) rfl (by kernel_rfl) (by kernel_rfl) (by kernel_rfl) (fun _ _ _ h => h) (Or.inl ⟨by rfl, ?_⟩) (by assumption) ?_
  · intro X hX
    go_simp
  try simp only [List.getElem_toArray, List.getElem_cons_succ, List.getElem_cons_zero]
  try simp only [Act.put, List.setIfInBounds_toArray, List.set_cons_zero, List.set_cons_succ]
  refine wpAnyH_take (i := 6) (v := ?_) rfl (by kernel_rfl) (by kernel_rfl) (by kernel_rfl) (fun _ _ _ h => h) (Or.inl ⟨by rfl, ?_⟩) (by assumption) ?_
  rotate_left
  · intro X hX
    go_simp
    try with_reducible rfl
  try simp only [List.getElem_toArray, List.getElem_cons_succ, List.getElem_cons_zero]
  try simp only [Act.put, List.setIfInBounds_toArray, List.set_cons_zero, List.set_cons_succ]
  refine wpAnyH_ready (rs := [7]) (by kernel_rfl) (by simp) (AllReadyH.cons rfl (fun K hK => ?_) AllReadyH.nil)
  · go_simp
    refine ((by have h := prefix_any (EsB.take hE hm) hN; rw [hbp.out] at h; exact h : Calls Tryd.prog 30 #[.slice A m c, .slice A' L c'] _ (NumPost (.bool bp) _))).mono ?_
    rintro e wm ⟨rfl, hb⟩
    replace hn := keepH hb hn
    replace hg := keepH hb hg
    replace hq := keepH hb hq
    replace hE := keepE hb hE
    replace hN := keepE hb hN
    replace hW := keepB hW hb
    clear hb
    have hH := HS8.out _ hn hg
    go_wp2_with fail
    refine hK.out _ _ ?_ (fun hHeld => ?_)
    · with_reducible exact hH
    clear hK K hH
    try simp only [List.getElem_toArray, List.getElem_cons_succ, List.getElem_cons_zero]
    try simp only [Act.put, List.setIfInBounds_toArray, List.set_cons_zero, List.set_cons_succ]
    refine wpAnyH_ready (rs := [8]) (by kernel_rfl) (by simp) (AllReadyH.cons rfl (fun K hK => ?_) AllReadyH.nil)
    · obtain ⟨wm, HST, hNew, hbl, hzz, hoth⟩ := rg_store (w.heap.size) (ep) (ep) (A') (L) (c') ((m : Int)) hq rfl (by omega)
      refine step_store_known rfl 24 _ _ rfl ⟨w.heap.size + 1 + 1, 0, none⟩ (.agg #[.int .i64 (ep), .int .i64 (ep), .slice (A') (L) (c'), .int .i64 ((m : Int))]) (by simp [Act.eval]) (by simp [Act.eval]) HST.out ?_
      replace hn := (hoth _ (by omega)).trans hn
      replace hg := (hoth _ (by omega)).trans hg
      replace hE := es_store hE hq (by decide) hoth hzz
      replace hN := es_store hN hq (by decide) hoth hzz
      replace hW := hW.trans hbl
      replace hq := hNew
      clear HST hNew hbl hzz hoth
      have hH := HS8.out _ hn hg
      refine hK.out _ _ ?_ (fun hHeld => ?_)
      · with_reducible exact hH
      clear hK K hH
      try simp only [List.getElem_toArray, List.getElem_cons_succ, List.getElem_cons_zero]
      try simp only [Act.put]
      refine wpAnyH_take (i := 9) (v := ?_) rfl (by kernel_rfl) (by kernel_rfl) (by kernel_rfl) (fun _ _ _ h => h) (Or.inl ⟨by rfl, ?_⟩) (by assumption) ?_
      rotate_left
      · intro X hX
        go_simp
        try with_reducible rfl
      try simp only [List.getElem_toArray, List.getElem_cons_succ, List.getElem_cons_zero]
      try simp only [Act.put, List.setIfInBounds_toArray, List.set_cons_zero, List.set_cons_succ]
      refine wpAnyH_done (by kernel_rfl) ?_ _
      go_wp2_with fail
      (try simp only [Exit.inBlock, Exit.then]); refine bodyPost_ret (results_row_tmp rfl _ _ (w.heap.size + 1 + 1) 24 #[.int .i64 ep, .int .i64 ep, .slice A' L c', .int .i64 (m : Int)] (0, 0) _ rfl hq Tryd.underlying24 rfl (by kernel_rfl)) rfl ?_
      have hll : (es.take es.length ++ xs).length = L := by rw [hL.out]; simp
      exact ⟨A', c', by rw [hll, hbp.out]; rfl, by rw [hll]; exact hN, hW⟩
theorem inView_any (p v : Int) (m : Nat) (ki st ep vi fr le : Int) (es xs : List En) (A XA FA : Option Addr) (c xc fn fc : Nat) (w : World) (ha : EsB w.heap.size w (.slice A es.length c) es) (hx : EsB w.heap.size w (.slice XA xs.length xc) xs) (hm : m ≤ es.length) (hl : es.length ≤ 100000) (hlx : xs.length ≤ 100000) :
    Calls Tryd.prog 26 #[.agg #[.int .i64 p, .int .i64 v, .slice A es.length c, .int .i64 (m : Int)], .agg #[.int .i64 ki, .int .i64 st, .int .i64 ep, .int .i64 vi, .int .i64 fr, .int .i64 le, .slice XA xs.length xc, .slice FA fn fc]] w (BehPost (viw ⟨p, v, es, m⟩ ⟨ki, ep, vi, fr, le, xs⟩) w) := by
  unfold viw
  dsimp only
  by_cases h : ep < 1 ∨ ep < p ∨ fr ≠ frm ⟨p, v, es, m⟩ ep
  · rw [if_pos h]
    exact view_no p v m ki st ep vi fr le es xs A XA FA c xc fn fc w h
  · rw [if_neg h]
    have hfr : frm ⟨p, v, es, m⟩ ep = if v < ep then 0 else es.length := rfl
    rw [hfr] at h ⊢
    simp only [not_or, ne_eq, Decidable.not_not] at h
    obtain ⟨h0, h1, h2⟩ := h
    by_cases qv : v < ep
    · rw [if_pos qv] at h2 ⊢
      exact view_new p v m ki st ep vi fr le es xs A XA FA c xc fn fc w ha hx hm hl hlx h0 h1 qv (by simpa using h2)
    · rw [if_neg qv] at h2 ⊢
      exact view_old p v m ki st ep vi fr le es xs A XA FA c xc fn fc w ha hx hm hl hlx h0 h1 qv h2
end Go.Proofs.YtnbhdehpdfojlaaDoor
