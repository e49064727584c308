/-
  Apply, May and Base of package register.
-/
import Derived.Test.YtnbhdehpdfojlaaDoorRgBeh
namespace Go.Proofs.YtnbhdehpdfojlaaDoor
open Go.RowKit Go.Sort
/-- What Apply tells. -/
def appQ (r : Re) (x : Rx) : Re × Bool := ((app r x).getD Re.zero, (app r x).isSome)
theorem appQ_no {r : Re} {x : Rx} (h : r.may = false) : appQ r x = (Re.zero, false) := by simp [appQ, app, h]
theorem appQ_beh {r : Re} {x : Rx} (h : (beh r x).2 = false) : appQ r x = (Re.zero, false) := by simp [appQ, app, h]
theorem appQ_not {r : Re} {x : Rx} (h : (beh r x).1.may = false) : appQ r x = (Re.zero, false) := by simp [appQ, app, h]
theorem appQ_yes {r : Re} {x : Rx} (h1 : r.may = true) (h2 : (beh r x).2 = true) (h3 : (beh r x).1.may = true) : appQ r x = ((beh r x).1, true) := by simp [appQ, app, h1, h2, h3]
theorem may_len {r : Re} (h : r.may = true) : r.es.length ≤ 64 ∧ 0 ≤ r.m ∧ r.m ≤ r.es.length := by
  have := (Re.may_iff r).1 h
  exact ⟨logB_le this.2.2.2.1, this.2.2.2.2.1, this.2.2.2.2.2⟩
set_option maxRecDepth 100000 in
set_option maxHeartbeats 4000000 in
theorem apply_any (p v m ki st ep vi fr le : Int) (es xs : List En) (A XA FA : Option Addr) (c xc fn fc : Nat) (w : World) (ha : EsB w.heap.size w (.slice A es.length c) es) (hx : EsB w.heap.size w (.slice XA xs.length xc) xs) (hA : Asked w) (hlx : xs.length ≤ 100000) : Calls Tryd.prog 11 #[.agg #[.int .i64 p, .int .i64 v, .slice A es.length c, .int .i64 m], .agg #[.int .i64 ki, .int .i64 st, .int .i64 ep, .int .i64 vi, .int .i64 fr, .int .i64 le, .slice XA xs.length xc, .slice FA fn fc]] w (BehPost (appQ ⟨p, v, es, m⟩ ⟨ki, ep, vi, fr, le, xs⟩) w) := by
  obtain ⟨w1, HX1⟩ : ∃ W : World, Hid (W = ((w.alloc (.cells #[.int .i64 p, .int .i64 v, .slice A es.length c, .int .i64 m] 24)).alloc (.cells #[.int .i64 ki, .int .i64 st, .int .i64 ep, .int .i64 vi, .int .i64 fr, .int .i64 le, .slice XA xs.length xc, .slice FA fn fc] 27)).alloc (.cells #[.int .i64 0, .int .i64 0, .slice none 0 0, .int .i64 0] 24)) := ⟨_, Lib.hid rfl⟩
  obtain ⟨hz1, hb1, hg1, hr1, hq1⟩ := three_new HX1.out
  obtain ⟨n0, n1, n2, n3⟩ := box4 hg1
  obtain ⟨m0, m1, m2, m3, m4, m5, m6, m7⟩ := box8 hr1
  have HC := Lib.hid (regCheck_any p v m w1 (keepE hb1 ha) (hA.keep hb1))
  have hE1 := keepE hb1 ha
  have hF1 := keepE hb1 hx
  have hA1 := hA.keep hb1
  clear ha hx hA
  cases hmay : (Re.mk p v es m).may with
  | false =>
    rw [hmay] at HC
    rw [appQ_no hmay]
    clear hE1 hF1 hA1 hmay
    go_enter Tryd.func11, Tryd.ntmps11
    go_wp2_with (rw [← HX1.out])
    refine (HC.out).mono ?_
    rintro e w2 ⟨rfl, hb2⟩
    obtain ⟨w3, HST, hq, hbl, -, -⟩ := rg_store w.heap.size 0 0 none 0 0 0 (keepH hb2 hq1) rfl (by omega)
    have hW := (keepB hb1 hb2).trans hbl
    clear n0 n1 n2 n3 m0 m1 m2 m3 m4 m5 m6 m7 HC hb2 hbl hg1 hr1 hq1 hb1
    go_wp2_with (with_reducible refine wpList_store_known (by rfl) 24 _ _ (by rfl) ⟨w.heap.size + 1 + 1, 0, none⟩ _ (by with_unfolding_all rfl) (by with_unfolding_all rfl) HST.out ?_)
    (try simp only [Exit.inBlock, Exit.then]); refine bodyPost_ret (results_row_tmp rfl _ _ (w.heap.size + 1 + 1) 24 #[.int .i64 0, .int .i64 0, .slice none 0 0, .int .i64 0] (0, 0) _ rfl hq Tryd.underlying24 rfl (by kernel_rfl)) rfl ?_
    exact ⟨none, 0, rfl, es_nil _ _, hW⟩
  | true =>
    rw [hmay] at HC
    obtain ⟨hl64, hm0, hml⟩ := may_len hmay
    dsimp only at hl64 hm0 hml
    obtain ⟨mn, rfl⟩ := Int.eq_ofNat_of_zero_le hm0
    replace hml : mn ≤ es.length := by omega
    have HQ := Lib.hid (show appQ ⟨p, v, es, mn⟩ ⟨ki, ep, vi, fr, le, xs⟩ = appQ ⟨p, v, es, mn⟩ ⟨ki, ep, vi, fr, le, xs⟩ from rfl)
    have H1 : Hid ((beh ⟨p, v, es, mn⟩ ⟨ki, ep, vi, fr, le, xs⟩).2 = false → appQ ⟨p, v, es, mn⟩ ⟨ki, ep, vi, fr, le, xs⟩ = (Re.zero, false)) := Lib.hid appQ_beh
    have H2 : Hid ((beh ⟨p, v, es, mn⟩ ⟨ki, ep, vi, fr, le, xs⟩).1.may = false → appQ ⟨p, v, es, mn⟩ ⟨ki, ep, vi, fr, le, xs⟩ = (Re.zero, false)) := Lib.hid appQ_not
    have H3 : Hid ((beh ⟨p, v, es, mn⟩ ⟨ki, ep, vi, fr, le, xs⟩).2 = true → (beh ⟨p, v, es, mn⟩ ⟨ki, ep, vi, fr, le, xs⟩).1.may = true → appQ ⟨p, v, es, mn⟩ ⟨ki, ep, vi, fr, le, xs⟩ = ((beh ⟨p, v, es, mn⟩ ⟨ki, ep, vi, fr, le, xs⟩).1, true)) := Lib.hid (appQ_yes hmay)
    have HV := Lib.hid (fun X (hX : EsB X.heap.size X (.slice A es.length c) es) (hY : EsB X.heap.size X (.slice XA xs.length xc) xs) => behind_any p v mn ki st ep vi fr le es xs A XA FA c xc fn fc X hX hY hml (by omega) hlx)
    clear hmay HQ hm0
    generalize appQ ⟨p, v, es, mn⟩ ⟨ki, ep, vi, fr, le, xs⟩ = Q at *
    generalize beh ⟨p, v, es, mn⟩ ⟨ki, ep, vi, fr, le, xs⟩ = q at *
    obtain ⟨⟨p', v', es', m'⟩, ok⟩ := q
    dsimp only at H1 H2 H3
    go_enter Tryd.func11, Tryd.ntmps11
    go_wp2_with (rw [← HX1.out])
    refine (HC.out).mono ?_
    rintro e w2 ⟨rfl, hb2⟩
    have hg2 := keepH hb2 hg1
    have hr2 := keepH hb2 hr1
    have hq2 := keepH hb2 hq1
    have hE2 := keepE hb2 hE1
    have hF2 := keepE hb2 hF1
    have hA2 := hA1.keep hb2
    have hW2 := keepB hb1 hb2
    clear n0 n1 n2 n3 m0 m1 m2 m3 m4 m5 m6 m7 HC hg1 hr1 hq1 hb1 hE1 hF1 hA1 hb2
    obtain ⟨n0, n1, n2, n3⟩ := box4 hg2
    obtain ⟨m0, m1, m2, m3, m4, m5, m6, m7⟩ := box8 hr2
    go_wp2_with fail
    refine (HV.out w2 hE2 hF2).mono ?_
    rintro e w3 ⟨A', c', rfl, hN3, hb3⟩
    dsimp only at hN3
    have hq3 := keepH hb3 hq2
    have hA3 := hA2.keep hb3
    have hW3 := keepB hW2 hb3
    clear n0 n1 n2 n3 m0 m1 m2 m3 m4 m5 m6 m7 HV hg2 hr2 hq2 hE2 hF2 hA2 hW2 hb3
    obtain ⟨w4, HX4⟩ : ∃ W : World, Hid (W = w3.alloc (.cells #[.int .i64 p', .int .i64 v', .slice A' es'.length c', .int .i64 m'] 24)) := ⟨_, Lib.hid rfl⟩
    have hb4 : Below w3.heap.size w3 w4 := by rw [HX4.out]; exact below_new _ _
    have hn4 : w4.heap[w3.heap.size]? = some (.cells #[.int .i64 p', .int .i64 v', .slice A' es'.length c', .int .i64 m'] 24 (0, 0)) := by rw [HX4.out]; exact heap_alloc_new _ _
    have hq4 := keepH hb4 hq3
    have hN4 := keepE hb4 hN3
    have hA4 := hA3.keep hb4
    have hW4 := keepB hW3 hb4
    have hw3 := lt_of_block hq3
    clear hq3 hA3 hW3 hb4 hN3
    obtain ⟨k0, k1, k2, k3⟩ := box4 hn4
    cases ok with
    | false =>
      have hQ := Lib.hid (H1.out rfl)
      obtain ⟨w5, HST, hq, hbl, -, -⟩ := rg_store w.heap.size 0 0 none 0 0 0 hq4 rfl (by omega)
      have hW := hW4.trans hbl
      clear H1 H2 H3 hbl hq4 hW4 hA4 hN4
      go_wp2_with (first | (rw [← HX4.out]) | (with_reducible refine wpList_store_known (by rfl) 24 _ _ (by rfl) ⟨w.heap.size + 1 + 1, 0, none⟩ _ (by with_unfolding_all rfl) (by with_unfolding_all rfl) HST.out ?_))
      (try simp only [Exit.inBlock, Exit.then]); refine bodyPost_ret (results_row_tmp rfl _ _ (w.heap.size + 1 + 1) 24 #[.int .i64 0, .int .i64 0, .slice none 0 0, .int .i64 0] (0, 0) _ rfl hq Tryd.underlying24 rfl (by kernel_rfl)) rfl ?_
      rw [hQ.out]
      exact ⟨none, 0, rfl, es_nil _ _, hW⟩
    | true =>
      have HC := Lib.hid (regCheck_any p' v' m' w4 hN4 hA4)
      cases hmay : (Re.mk p' v' es' m').may with
      | false =>
        rw [hmay] at HC
        have hQ := Lib.hid (H2.out hmay)
        clear H1 H2 H3 hmay
        go_wp2_with (rw [← HX4.out])
        refine (HC.out).mono ?_
        rintro e w5 ⟨rfl, hb5⟩
        obtain ⟨w6, HST, hq, hbl, -, -⟩ := rg_store w.heap.size 0 0 none 0 0 0 (keepH hb5 hq4) rfl (by omega)
        have hW := (keepB hW4 hb5).trans hbl
        clear hbl hq4 hW4 hA4 hN4 HC hb5 k0 k1 k2 k3
        go_wp2_with (with_reducible refine wpList_store_known (by rfl) 24 _ _ (by rfl) ⟨w.heap.size + 1 + 1, 0, none⟩ _ (by with_unfolding_all rfl) (by with_unfolding_all rfl) HST.out ?_)
        (try simp only [Exit.inBlock, Exit.then]); refine bodyPost_ret (results_row_tmp rfl _ _ (w.heap.size + 1 + 1) 24 #[.int .i64 0, .int .i64 0, .slice none 0 0, .int .i64 0] (0, 0) _ rfl hq Tryd.underlying24 rfl (by kernel_rfl)) rfl ?_
        rw [hQ.out]
        exact ⟨none, 0, rfl, es_nil _ _, hW⟩
      | true =>
        rw [hmay] at HC
        have hl' := (may_len hmay).1
        dsimp only at hl'
        have hQ := Lib.hid (H3.out rfl hmay)
        clear H1 H2 H3 hmay
        go_wp2_with (rw [← HX4.out])
        refine (HC.out).mono ?_
        rintro e w5 ⟨rfl, hb5⟩
        have hn5 := keepH hb5 hn4
        have hq5 := keepH hb5 hq4
        have HL := Lib.hid (clone_any p' v' m' w5 (keepE hb5 hN4) (by omega))
        have hW5 := keepB hW4 hb5
        clear k0 k1 k2 k3 hb5 hn4 hq4 hN4 hA4 hW4 HC
        obtain ⟨k0, k1, k2, k3⟩ := box4 hn5
        go_wp2_with fail
        refine (HL.out).mono ?_
        rintro e w6 ⟨A2, c2, rfl, hN6, -, hb6⟩
        obtain ⟨w7, HST, hq, hbl, hzz, hoth⟩ := rg_store w.heap.size p' v' A2 es'.length c2 m' (keepH hb6 hq5) rfl (by omega)
        have hN7 := es_store hN6 (keepH hb6 hq5) (by simp) hoth hzz
        have hW := (keepB hW5 hb6).trans hbl
        clear k0 k1 k2 k3 hbl hzz hoth HL hN6 hn5 hq5 hW5 hb6
        go_wp2_with (with_reducible refine wpList_store_known (by rfl) 24 _ _ (by rfl) ⟨w.heap.size + 1 + 1, 0, none⟩ _ (by with_unfolding_all rfl) (by with_unfolding_all rfl) HST.out ?_)
        (try simp only [Exit.inBlock, Exit.then]); refine bodyPost_ret (results_row_tmp rfl _ _ (w.heap.size + 1 + 1) 24 #[.int .i64 p', .int .i64 v', .slice A2 es'.length c2, .int .i64 m'] (0, 0) _ rfl hq Tryd.underlying24 rfl (by kernel_rfl)) rfl ?_
        rw [hQ.out]
        exact ⟨A2, c2, rfl, hN7, hW⟩
set_option maxRecDepth 100000 in
set_option maxHeartbeats 4000000 in
theorem may_any (p v m ki st ep vi fr le : Int) (es xs : List En) (A XA FA : Option Addr) (c xc fn fc : Nat) (w : World) (ha : EsB w.heap.size w (.slice A es.length c) es) (hx : EsB w.heap.size w (.slice XA xs.length xc) xs) (hA : Asked w) (hlx : xs.length ≤ 100000) : Calls Tryd.prog 15 #[.agg #[.int .i64 p, .int .i64 v, .slice A es.length c, .int .i64 m], .agg #[.int .i64 ki, .int .i64 st, .int .i64 ep, .int .i64 vi, .int .i64 fr, .int .i64 le, .slice XA xs.length xc, .slice FA fn fc]] w (NumPost (.bool (appQ ⟨p, v, es, m⟩ ⟨ki, ep, vi, fr, le, xs⟩).2) w) := by
  obtain ⟨w1, HX1⟩ : ∃ W : World, Hid (W = (w.alloc (.cells #[.int .i64 p, .int .i64 v, .slice A es.length c, .int .i64 m] 24)).alloc (.cells #[.int .i64 ki, .int .i64 st, .int .i64 ep, .int .i64 vi, .int .i64 fr, .int .i64 le, .slice XA xs.length xc, .slice FA fn fc] 27)) := ⟨_, Lib.hid rfl⟩
  obtain ⟨hz1, hb1, hg1, hr1⟩ := two_new HX1.out
  obtain ⟨n0, n1, n2, n3⟩ := box4 hg1
  obtain ⟨m0, m1, m2, m3, m4, m5, m6, m7⟩ := box8 hr1
  have HC := Lib.hid (apply_any p v m ki st ep vi fr le es xs A XA FA c xc fn fc w1 (keepE hb1 ha) (keepE hb1 hx) (hA.keep hb1) hlx)
  generalize appQ ⟨p, v, es, m⟩ ⟨ki, ep, vi, fr, le, xs⟩ = q at *
  obtain ⟨⟨p', v', es', m'⟩, ok⟩ := q
  clear ha hx hA hg1 hr1 hz1
  go_enter Tryd.func15, Tryd.ntmps15
  go_wp2_with (rw [← HX1.out])
  refine (HC.out).mono ?_
  rintro e w2 ⟨A', c', rfl, -, hb2⟩
  have hW := keepB hb1 hb2
  clear n0 n1 n2 n3 m0 m1 m2 m3 m4 m5 m6 m7 HC hb1 hb2
  go_wp2_with fail
  go_ret
  exact ⟨rfl, keepB hW (below_new _ _)⟩
/-- What Base leaves. -/
def BasePost (st p v : Int) (es : List En) (m : Int) (w : World) (e : Ending) (w' : World) : Prop :=
  ∃ A c, e = .returned (.agg #[.int .i64 4, .int .i64 st, .int .i64 p, .int .i64 v, .int .i64 0, .int .i64 m, .slice A es.length c, .slice none 0 0]) ∧ EsB w'.heap.size w' (.slice A es.length c) es ∧ Hid (OwnEs w.heap.size w' (.slice A es.length c) es) ∧ Below w.heap.size w w'
theorem own_less {a b : Nat} {w : World} {v : Value} {es : List En} (h : OwnEs b w v es) (hab : a ≤ b) : OwnEs a w v es := by
  refine ⟨h.1, ?_⟩
  rcases h.2 with h | ⟨g, cap, cur, h, hg, hr⟩
  · exact .inl h
  · exact .inr ⟨g, cap, cur, h, by omega, hr⟩
set_option maxRecDepth 100000 in
set_option maxHeartbeats 4000000 in
theorem base_any (st p v m : Int) {es : List En} {A : Option Addr} {c : Nat} (w : World) (ha : EsB w.heap.size w (.slice A es.length c) es) (hn : es.length ≤ 100000) : Calls Tryd.prog 20 #[.int .i64 st, .agg #[.int .i64 p, .int .i64 v, .slice A es.length c, .int .i64 m]] w (BasePost st p v es m w) := by
  obtain ⟨w1, HX1⟩ : ∃ W : World, Hid (W = (w.alloc (.cells #[.int .i64 p, .int .i64 v, .slice A es.length c, .int .i64 m] 24)).alloc (.cells #[.int .i64 0, .int .i64 0, .int .i64 0, .int .i64 0, .int .i64 0, .int .i64 0, .slice none 0 0, .slice none 0 0] 27)) := ⟨_, Lib.hid rfl⟩
  obtain ⟨hz1, hb1, hg1, hr1⟩ := two_new HX1.out
  obtain ⟨n0, n1, n2, n3⟩ := box4 hg1
  have HC := Lib.hid (clone_any p v m w1 (keepE hb1 ha) hn)
  clear ha hg1
  go_enter Tryd.func20, Tryd.ntmps20
  go_wp2_with (rw [← HX1.out])
  refine (HC.out).mono ?_
  rintro e w2 ⟨A2, c2, rfl, hN2, hO2, hb2⟩
  have hr2 := keepH hb2 hr1
  have hl2 := lt_of_block hr2
  obtain ⟨w3, HX3⟩ : ∃ W : World, Hid (W = w2.alloc (.cells #[.int .i64 p, .int .i64 v, .slice A2 es.length c2, .int .i64 m] 24)) := ⟨_, Lib.hid rfl⟩
  have hb3 : Below w2.heap.size w2 w3 := by rw [HX3.out]; exact below_new _ _
  have hn3 : w3.heap[w2.heap.size]? = some (.cells #[.int .i64 p, .int .i64 v, .slice A2 es.length c2, .int .i64 m] 24 (0, 0)) := by rw [HX3.out]; exact heap_alloc_new _ _
  obtain ⟨k0, k1, k2, k3⟩ := box4 hn3
  have hr3 := keepH hb3 hr2
  have hN3 := keepE hb3 hN2
  have hO3 := keepR hb3 hO2.out
  have hW3 := keepB (keepB hb1 hb2) hb3
  obtain ⟨w4, HST, hq, hbl, hzz, hoth⟩ := rc_store w.heap.size 4 st p v 0 m A2 es.length c2 none 0 0 hr3 rfl (by omega)
  have hN4 := es_wide hO3 (by omega) (by omega) hoth hbl
  have hO4 : Hid (OwnEs w.heap.size w4 (.slice A2 es.length c2) es) := Lib.hid (own_less hN4.1 (by omega))
  have hW := hW3.trans hbl
  have hE4 := Lib.hid hN4.2
  clear n0 n1 n2 n3 HC hb1 hr1 hN2 hO2 hb2 hr2 hb3 hn3 hr3 hN3 hO3 hW3 hbl hzz hoth hN4
  go_wp2_with (first | (rw [← HX3.out]) | (with_reducible refine wpList_store_known (by rfl) 27 _ _ (by rfl) ⟨w.heap.size + 1, 0, none⟩ _ (by with_unfolding_all rfl) (by with_unfolding_all rfl) HST.out ?_))
  refine bodyPost_ret (results_cell_row rfl _ _ (w.heap.size + 1) 27 #[.int .i64 4, .int .i64 st, .int .i64 p, .int .i64 v, .int .i64 0, .int .i64 m, .slice A2 es.length c2, .slice none 0 0] (0, 0) _ rfl hq Tryd.underlying27 rfl (by kernel_rfl)) rfl ?_
  exact ⟨A2, c2, rfl, hE4.out, hO4, hW⟩
end Go.Proofs.YtnbhdehpdfojlaaDoor
