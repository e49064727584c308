/-
  Rows of the call's own that are written over; Apply of package register, whose log is a row of its own.
-/
import Derived.Test.YtnbhdehpdfojlaaDoorFoot
import Derived.Test.YtnbhdehpdfojlaaDoorRgPure
import Derived.Deep.MidRow
namespace Go.Proofs.YtnbhdehpdfojlaaDoor
open Go.RowKit Go.Sort
theorem setCells_foot (b : Nat) : ∀ (vs : List Value) (o : Nat) (w : World), Foot (fun j => j = b) w (w.setCells b o vs)
  | [], _, w => by unfold World.setCells; exact Foot.refl _ _
  | v :: r, o, w => by
    unfold World.setCells
    exact (Foot.set (fun j => j = b) w ⟨b, o, none⟩ v rfl).trans (setCells_foot b r (o + 1) _) fun _ _ h => h
/-- A row of the call's own, whatever stands in it. -/
def RowT (w : World) (base : Nat) (t : TypeId) (size : Nat) (A : Option Addr) (n c : Nat) : Prop := ∃ xs, w.ownsRow base t size (.slice A n c) n xs
theorem RowT.stores {base n c size g : Nat} {t : TypeId} : ∀ (vs : List Value) (o : Nat) (w : World), RowT w base t size (some ⟨g, 0, none⟩) n c → RowT (w.setCells g o vs) base t size (some ⟨g, 0, none⟩) n c
  | [], _, _, h => h
  | v :: r, o, w, h => by
    obtain ⟨xs, ho⟩ := h
    unfold World.setCells
    exact RowT.stores r (o + 1) _ ⟨_, (World.ownsRow.stored ho o v).1⟩
theorem RowT.at_ {w : World} {base n c size k : Nat} {t : TypeId} {A : Option Addr} (h : RowT w base t size A n c) (hk : k < n) :
    ∃ g, A = some ⟨g, 0, none⟩ ∧ base ≤ g ∧ g < w.heap.size ∧ w.there g (k * size) size := by
  obtain ⟨xs, ho⟩ := h
  have ho' := ho
  rcases ho.2 with ⟨h1, h2⟩ | ⟨g, cap, cur, h1, h2, h3, _⟩
  · omega
  · injection h1 with h1 _ h3'
    subst h1 h3'
    refine ⟨g, rfl, h2, lt_of_block h3, fun j hj => ?_⟩
    have hl := ho.1
    have hx : k * size + j < n * size := by
      have := Nat.mul_le_mul_right size (show k + 1 ≤ n from hk)
      rw [Nat.succ_mul] at this
      omega
    have hc := World.ownsRow.cellAt ho' (k * size + j) hx
    rw [List.getElem?_eq_getElem (by omega)] at hc
    exact ⟨by rw [hc]; rfl, World.ownsRow.frozenAt ho' _⟩
theorem own_nil (b : Nat) (w : World) : OwnEs b w (.slice none 0 0) [] := World.ownsRow_nil w b _ 6
/-- A row of one's own between two sizes of memory stays, if nothing between them is written. -/
theorem own_mid {lo : Nat} {W Y : World} {v : Value} {es : List En} (h : OwnEs lo W v es) (hl : es.length ≤ 1000000) (hs : ∀ k, lo ≤ k → k < W.heap.size → Y.heap[k]? = W.heap[k]?) : OwnEs lo Y v es ∧ EsB Y.heap.size Y v es := by
  have h' : OwnEs lo Y v es := by
    refine ⟨h.1, ?_⟩
    rcases h.2 with h | ⟨g, cap, cur, h, hg, hh, hr⟩
    · exact .inl h
    · exact .inr ⟨g, cap, cur, h, hg, (hs g hg (lt_of_block hh)).trans hh, hr⟩
  exact ⟨h', own_es h' hl⟩
theorem own_rowT {lo : Nat} {W : World} {A : Option Addr} {c : Nat} {es : List En} (h : OwnEs lo W (.slice A es.length c) es) : RowT W lo 44 6 A es.length c := ⟨_, h⟩
theorem RowT.foot {w w' : World} {base n c size : Nat} {t : TypeId} {A : Option Addr} {S : Nat → Prop} (h : RowT w base t size A n c) (hf : Foot S w w') (hn : ∀ k, Value.ownBlock (.slice A n c) = some k → ¬ S k) : RowT w' base t size A n c := by
  obtain ⟨xs, ho⟩ := h
  exact ⟨xs, owns_foot ho hf hn⟩
/-- What Apply leaves: the log that is told is a row of its own. -/
def OwnPost (q : Re × Bool) (w : World) (e : Ending) (w' : World) : Prop :=
  ∃ A c, e = .returned (.tuple #[.agg #[.int .i64 q.1.p, .int .i64 q.1.v, .slice A q.1.es.length c, .int .i64 q.1.m], .bool q.2]) ∧ EsB w'.heap.size w' (.slice A q.1.es.length c) q.1.es ∧ Hid (OwnEs w.heap.size w' (.slice A q.1.es.length c) q.1.es) ∧ Below w.heap.size w w'
set_option maxRecDepth 100000 in
set_option maxHeartbeats 4000000 in
theorem apply_own (p v m ki st ep vi fr le : Int) (es xs : List En) (A XA FA : Option Addr) (c xc fn fc : Nat) (w : World) (ha : EsB w.heap.size w (.slice A es.length c) es) (hx : EsB w.heap.size w (.slice XA xs.length xc) xs) (hA : Asked w) (hlx : xs.length ≤ 100000) : Calls Tryd.prog 11 #[.agg #[.int .i64 p, .int .i64 v, .slice A es.length c, .int .i64 m], .agg #[.int .i64 ki, .int .i64 st, .int .i64 ep, .int .i64 vi, .int .i64 fr, .int .i64 le, .slice XA xs.length xc, .slice FA fn fc]] w (OwnPost (appQ ⟨p, v, es, m⟩ ⟨ki, ep, vi, fr, le, xs⟩) w) := by
  obtain ⟨w1, HX1⟩ : ∃ W : World, Hid (W = ((w.alloc (.cells #[.int .i64 p, .int .i64 v, .slice A es.length c, .int .i64 m] 24)).alloc (.cells #[.int .i64 ki, .int .i64 st, .int .i64 ep, .int .i64 vi, .int .i64 fr, .int .i64 le, .slice XA xs.length xc, .slice FA fn fc] 27)).alloc (.cells #[.int .i64 0, .int .i64 0, .slice none 0 0, .int .i64 0] 24)) := ⟨_, Lib.hid rfl⟩
  obtain ⟨hz1, hb1, hg1, hr1, hq1⟩ := three_new HX1.out
  obtain ⟨n0, n1, n2, n3⟩ := box4 hg1
  obtain ⟨m0, m1, m2, m3, m4, m5, m6, m7⟩ := box8 hr1
  have HC := Lib.hid (regCheck_any p v m w1 (keepE hb1 ha) (hA.keep hb1))
  have hE1 := keepE hb1 ha
  have hF1 := keepE hb1 hx
  have hA1 := hA.keep hb1
  clear ha hx hA
  cases hmay : (Re.mk p v es m).may with
  | false =>
    rw [hmay] at HC
    rw [appQ_no hmay]
    clear hE1 hF1 hA1 hmay
    go_enter Tryd.func11, Tryd.ntmps11
    go_wp2_with (rw [← HX1.out])
    refine (HC.out).mono ?_
    rintro e w2 ⟨rfl, hb2⟩
    obtain ⟨w3, HST, hq, hbl, -, -⟩ := rg_store w.heap.size 0 0 none 0 0 0 (keepH hb2 hq1) rfl (by omega)
    have hW := (keepB hb1 hb2).trans hbl
    clear n0 n1 n2 n3 m0 m1 m2 m3 m4 m5 m6 m7 HC hb2 hbl hg1 hr1 hq1 hb1
    go_wp2_with (with_reducible refine wpList_store_known (by rfl) 24 _ _ (by rfl) ⟨w.heap.size + 1 + 1, 0, none⟩ _ (by with_unfolding_all rfl) (by with_unfolding_all rfl) HST.out ?_)
    (try simp only [Exit.inBlock, Exit.then]); refine bodyPost_ret (results_row_tmp rfl _ _ (w.heap.size + 1 + 1) 24 #[.int .i64 0, .int .i64 0, .slice none 0 0, .int .i64 0] (0, 0) _ rfl hq Tryd.underlying24 rfl (by kernel_rfl)) rfl ?_
    exact ⟨none, 0, rfl, es_nil _ _, Lib.hid (own_nil _ _), hW⟩
  | true =>
    rw [hmay] at HC
    obtain ⟨hl64, hm0, hml⟩ := may_len hmay
    dsimp only at hl64 hm0 hml
    obtain ⟨mn, rfl⟩ := Int.eq_ofNat_of_zero_le hm0
    replace hml : mn ≤ es.length := by omega
    have HQ := Lib.hid (show appQ ⟨p, v, es, mn⟩ ⟨ki, ep, vi, fr, le, xs⟩ = appQ ⟨p, v, es, mn⟩ ⟨ki, ep, vi, fr, le, xs⟩ from rfl)
    have H1 : Hid ((beh ⟨p, v, es, mn⟩ ⟨ki, ep, vi, fr, le, xs⟩).2 = false → appQ ⟨p, v, es, mn⟩ ⟨ki, ep, vi, fr, le, xs⟩ = (Re.zero, false)) := Lib.hid appQ_beh
    have H2 : Hid ((beh ⟨p, v, es, mn⟩ ⟨ki, ep, vi, fr, le, xs⟩).1.may = false → appQ ⟨p, v, es, mn⟩ ⟨ki, ep, vi, fr, le, xs⟩ = (Re.zero, false)) := Lib.hid appQ_not
    have H3 : Hid ((beh ⟨p, v, es, mn⟩ ⟨ki, ep, vi, fr, le, xs⟩).2 = true → (beh ⟨p, v, es, mn⟩ ⟨ki, ep, vi, fr, le, xs⟩).1.may = true → appQ ⟨p, v, es, mn⟩ ⟨ki, ep, vi, fr, le, xs⟩ = ((beh ⟨p, v, es, mn⟩ ⟨ki, ep, vi, fr, le, xs⟩).1, true)) := Lib.hid (appQ_yes hmay)
    have HV := Lib.hid (fun X (hX : EsB X.heap.size X (.slice A es.length c) es) (hY : EsB X.heap.size X (.slice XA xs.length xc) xs) => behind_any p v mn ki st ep vi fr le es xs A XA FA c xc fn fc X hX hY hml (by omega) hlx)
    clear hmay HQ hm0
    generalize appQ ⟨p, v, es, mn⟩ ⟨ki, ep, vi, fr, le, xs⟩ = Q at *
    generalize beh ⟨p, v, es, mn⟩ ⟨ki, ep, vi, fr, le, xs⟩ = q at *
    obtain ⟨⟨p', v', es', m'⟩, ok⟩ := q
    dsimp only at H1 H2 H3
    go_enter Tryd.func11, Tryd.ntmps11
    go_wp2_with (rw [← HX1.out])
    refine (HC.out).mono ?_
    rintro e w2 ⟨rfl, hb2⟩
    have hg2 := keepH hb2 hg1
    have hr2 := keepH hb2 hr1
    have hq2 := keepH hb2 hq1
    have hE2 := keepE hb2 hE1
    have hF2 := keepE hb2 hF1
    have hA2 := hA1.keep hb2
    have hW2 := keepB hb1 hb2
    clear n0 n1 n2 n3 m0 m1 m2 m3 m4 m5 m6 m7 HC hg1 hr1 hq1 hb1 hE1 hF1 hA1 hb2
    obtain ⟨n0, n1, n2, n3⟩ := box4 hg2
    obtain ⟨m0, m1, m2, m3, m4, m5, m6, m7⟩ := box8 hr2
    go_wp2_with fail
    refine (HV.out w2 hE2 hF2).mono ?_
    rintro e w3 ⟨A', c', rfl, hN3, hb3⟩
    dsimp only at hN3
    have hq3 := keepH hb3 hq2
    have hA3 := hA2.keep hb3
    have hW3 := keepB hW2 hb3
    clear n0 n1 n2 n3 m0 m1 m2 m3 m4 m5 m6 m7 HV hg2 hr2 hq2 hE2 hF2 hA2 hW2 hb3
    obtain ⟨w4, HX4⟩ : ∃ W : World, Hid (W = w3.alloc (.cells #[.int .i64 p', .int .i64 v', .slice A' es'.length c', .int .i64 m'] 24)) := ⟨_, Lib.hid rfl⟩
    have hb4 : Below w3.heap.size w3 w4 := by rw [HX4.out]; exact below_new _ _
    have hn4 : w4.heap[w3.heap.size]? = some (.cells #[.int .i64 p', .int .i64 v', .slice A' es'.length c', .int .i64 m'] 24 (0, 0)) := by rw [HX4.out]; exact heap_alloc_new _ _
    have hq4 := keepH hb4 hq3
    have hN4 := keepE hb4 hN3
    have hA4 := hA3.keep hb4
    have hW4 := keepB hW3 hb4
    have hw3 := lt_of_block hq3
    clear hq3 hA3 hW3 hb4 hN3
    obtain ⟨k0, k1, k2, k3⟩ := box4 hn4
    cases ok with
    | false =>
      have hQ := Lib.hid (H1.out rfl)
      obtain ⟨w5, HST, hq, hbl, -, -⟩ := rg_store w.heap.size 0 0 none 0 0 0 hq4 rfl (by omega)
      have hW := hW4.trans hbl
      clear H1 H2 H3 hbl hq4 hW4 hA4 hN4
      go_wp2_with (first | (rw [← HX4.out]) | (with_reducible refine wpList_store_known (by rfl) 24 _ _ (by rfl) ⟨w.heap.size + 1 + 1, 0, none⟩ _ (by with_unfolding_all rfl) (by with_unfolding_all rfl) HST.out ?_))
      (try simp only [Exit.inBlock, Exit.then]); refine bodyPost_ret (results_row_tmp rfl _ _ (w.heap.size + 1 + 1) 24 #[.int .i64 0, .int .i64 0, .slice none 0 0, .int .i64 0] (0, 0) _ rfl hq Tryd.underlying24 rfl (by kernel_rfl)) rfl ?_
      rw [hQ.out]
      exact ⟨none, 0, rfl, es_nil _ _, Lib.hid (own_nil _ _), hW⟩
    | true =>
      have HC := Lib.hid (regCheck_any p' v' m' w4 hN4 hA4)
      cases hmay : (Re.mk p' v' es' m').may with
      | false =>
        rw [hmay] at HC
        have hQ := Lib.hid (H2.out hmay)
        clear H1 H2 H3 hmay
        go_wp2_with (rw [← HX4.out])
        refine (HC.out).mono ?_
        rintro e w5 ⟨rfl, hb5⟩
        obtain ⟨w6, HST, hq, hbl, -, -⟩ := rg_store w.heap.size 0 0 none 0 0 0 (keepH hb5 hq4) rfl (by omega)
        have hW := (keepB hW4 hb5).trans hbl
        clear hbl hq4 hW4 hA4 hN4 HC hb5 k0 k1 k2 k3
        go_wp2_with (with_reducible refine wpList_store_known (by rfl) 24 _ _ (by rfl) ⟨w.heap.size + 1 + 1, 0, none⟩ _ (by with_unfolding_all rfl) (by with_unfolding_all rfl) HST.out ?_)
        (try simp only [Exit.inBlock, Exit.then]); refine bodyPost_ret (results_row_tmp rfl _ _ (w.heap.size + 1 + 1) 24 #[.int .i64 0, .int .i64 0, .slice none 0 0, .int .i64 0] (0, 0) _ rfl hq Tryd.underlying24 rfl (by kernel_rfl)) rfl ?_
        rw [hQ.out]
        exact ⟨none, 0, rfl, es_nil _ _, Lib.hid (own_nil _ _), hW⟩
      | true =>
        rw [hmay] at HC
        have hl' := (may_len hmay).1
        dsimp only at hl'
        have hQ := Lib.hid (H3.out rfl hmay)
        clear H1 H2 H3 hmay
        go_wp2_with (rw [← HX4.out])
        refine (HC.out).mono ?_
        rintro e w5 ⟨rfl, hb5⟩
        have hn5 := keepH hb5 hn4
        have hq5 := keepH hb5 hq4
        have HL := Lib.hid (clone_any p' v' m' w5 (keepE hb5 hN4) (by omega))
        have hW5 := keepB hW4 hb5
        clear k0 k1 k2 k3 hb5 hn4 hq4 hN4 hA4 hW4 HC
        obtain ⟨k0, k1, k2, k3⟩ := box4 hn5
        go_wp2_with fail
        refine (HL.out).mono ?_
        rintro e w6 ⟨A2, c2, rfl, hN6, hO6, hb6⟩
        have hw5 := lt_of_block hq5
        obtain ⟨w7, HST, hq, hbl, hzz, hoth⟩ := rg_store w.heap.size p' v' A2 es'.length c2 m' (keepH hb6 hq5) rfl (by omega)
        have hN7 := es_store hN6 (keepH hb6 hq5) (by simp) hoth hzz
        have hO7 : Hid (OwnEs w.heap.size w7 (.slice A2 es'.length c2) es') := Lib.hid (own_less (es_wide hO6.out (by omega) hw5 hoth hbl).1 hW5.size)
        have hW := (keepB hW5 hb6).trans hbl
        clear k0 k1 k2 k3 hbl hzz hoth HL hN6 hO6 hn5 hq5 hW5 hb6
        go_wp2_with (with_reducible refine wpList_store_known (by rfl) 24 _ _ (by rfl) ⟨w.heap.size + 1 + 1, 0, none⟩ _ (by with_unfolding_all rfl) (by with_unfolding_all rfl) HST.out ?_)
        (try simp only [Exit.inBlock, Exit.then]); refine bodyPost_ret (results_row_tmp rfl _ _ (w.heap.size + 1 + 1) 24 #[.int .i64 p', .int .i64 v', .slice A2 es'.length c2, .int .i64 m'] (0, 0) _ rfl hq Tryd.underlying24 rfl (by kernel_rfl)) rfl ?_
        rw [hQ.out]
        exact ⟨A2, c2, rfl, hN7, hO7, hW⟩
end Go.Proofs.YtnbhdehpdfojlaaDoor
