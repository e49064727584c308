/-
  RegisterBase: the walk.
-/
import Derived.Test.YtnbhdehpdfojlaaDoorRgOwn
import Derived.Test.YtnbhdehpdfojlaaDoorRgLives
namespace Go.Proofs.YtnbhdehpdfojlaaDoor.registerBaseW
open Go.RowKit Go.Sort
set_option maxRecDepth 100000 in
set_option maxHeartbeats 16000000 in
theorem walk (A : Option Addr) (c : Nat) (l : List RcE) (st : Int) (w : World) (hA : Asked w) (h : RcsB w.heap.size w (.slice A l.length c) l) (_ : (Lit.int .i64 st).wf) : Calls Tryd.prog 6 #[.slice A l.length c, .int .i64 st] w (fun e w' => e = .returned (.bool true) ∧ Below w.heap.size w w') := by
  have HBY := Lib.hid (beyond_any h)
  have HLV := Lib.hid (fun X (hX : Below w.heap.size w X) => lives_any X (hA.keep hX))
  cases hb : beyB l with
  | true =>
    rw [hb] at HBY
    clear hb h hA
    go_enter Tryd.func6, Tryd.ntmps6
    go_wp2_with fail
    refine (HBY.out).mono ?_
    rintro e w1 ⟨rfl, hb1⟩
    go_wp2_with fail
    refine (HLV.out w1 hb1).mono ?_
    rintro e w2 ⟨rfl, hb2⟩
    go_wp2_with fail
    go_ret
    exact ⟨rfl, keepB hb1 hb2⟩
  | false =>
    rw [hb] at HBY
    obtain ⟨-, hl100⟩ := beyB_no hb
    have HBH := Lib.hid (fun X (hX : Below w.heap.size w X) => bhd_any (h.keep hX) (hA.keep hX) hl100)
    have hmay := upR_may l l.length
    have HAK := Lib.hid (fun X (hX : Below w.heap.size w X) => hA.keep hX)
    generalize upR l l.length = r at *
    obtain ⟨p, v, es, m⟩ := r
    have hmy := may_len hmay
    dsimp only at hmy
    have HQ : Hid (appQ ⟨0, 0, [], 0⟩ ⟨4, p, v, 0, m, es⟩ = (⟨p, v, es, m⟩, true)) := Lib.hid (appQ_base hmay)
    have HNO : Hid (p ≠ 0 → (appQ ⟨p, v, es, m⟩ ⟨4, p, v, 0, m, es⟩).2 = false) := Lib.hid fun hp => appQ_base_not hp rfl
    replace hmay := Lib.hid hmay
    clear h hA hb hl100
    go_enter Tryd.func6, Tryd.ntmps6
    go_wp2_with fail
    refine (HBY.out).mono ?_
    rintro e w1 ⟨rfl, hb1⟩
    go_wp2_with fail
    refine (HBH.out w1 hb1).mono ?_
    rintro e w2 ⟨A2, c2, rfl, hN2, hb2⟩
    dsimp only at hN2
    have hB2 := keepB hb1 hb2
    clear HBY HBH hb1 hb2
    obtain ⟨g5, hg5⟩ : ∃ g, Hid (g = w2.heap.size) := ⟨_, Lib.hid rfl⟩
    obtain ⟨w3, HXw3⟩ : ∃ W : World, Hid (W = w2.alloc (.cells #[.int .i64 p, .int .i64 v, .slice A2 es.length c2, .int .i64 m] 24)) := ⟨_, Lib.hid rfl⟩
    have hkw3 : Below w2.heap.size w2 w3 := by rw [HXw3.out]; exact below_new _ _
    have h5 : w3.heap[g5]? = some (.cells #[.int .i64 p, .int .i64 v, .slice A2 es.length c2, .int .i64 m] 24 (0, 0)) := by rw [HXw3.out, hg5.out]; exact heap_alloc_new _ _
    have hzw3 : w3.heap.size = w2.heap.size + 1 := by rw [HXw3.out]; simp
    have heg5 : g5 = w2.heap.size := hg5.out
    replace heg5 := Lib.hid heg5
    have hR3 := keepE hkw3 hN2
    have hB3 := keepB hB2 hkw3
    obtain ⟨n0, n1, n2, n3⟩ := box4 h5
    have HBS := Lib.hid (base_any st p v m w3 hR3 (by omega))
    clear hN2 hB2
    go_wp2_with ((rw [← HXw3.out]); try rw [← hg5.out])
    refine (HBS.out).mono ?_
    rintro e w4 ⟨A3, c3, rfl, hN4, hO4, hb4⟩
    obtain ⟨g6, hg6⟩ : ∃ g, Hid (g = w4.heap.size) := ⟨_, Lib.hid rfl⟩
    obtain ⟨w5, HXw5⟩ : ∃ W : World, Hid (W = w4.alloc (.cells #[.int .i64 4, .int .i64 st, .int .i64 p, .int .i64 v, .int .i64 0, .int .i64 m, .slice A3 es.length c3, .slice none 0 0] 27)) := ⟨_, Lib.hid rfl⟩
    have hkw5 : Below w4.heap.size w4 w5 := by rw [HXw5.out]; exact below_new _ _
    have h6 : w5.heap[g6]? = some (.cells #[.int .i64 4, .int .i64 st, .int .i64 p, .int .i64 v, .int .i64 0, .int .i64 m, .slice A3 es.length c3, .slice none 0 0] 27 (0, 0)) := by rw [HXw5.out, hg6.out]; exact heap_alloc_new _ _
    have hzw5 : w5.heap.size = w4.heap.size + 1 := by rw [HXw5.out]; simp
    have heg6 : g6 = w4.heap.size := hg6.out
    replace heg6 := Lib.hid heg6
    have hz4 := hb4.size
    have hk35 : Below w3.heap.size w3 w5 := hb4.trans (hkw5.mono hz4)
    have hN5 := keepE hkw5 hN4
    have hO5 := keepR hkw5 hO4.out
    have hB5 := keepB hB3 hk35
    have HAP : Hid (Calls Tryd.prog 11 #[.agg #[.int .i64 0, .int .i64 0, .slice none 0 0, .int .i64 0], .agg #[.int .i64 4, .int .i64 st, .int .i64 p, .int .i64 v, .int .i64 0, .int .i64 m, .slice A3 es.length c3, .slice none 0 0]] w5 (OwnPost (⟨p, v, es, m⟩, true) w5)) := Lib.hid (by
      have h := apply_own 0 0 0 4 st p v 0 m [] es none A3 none 0 c3 0 0 w5 (es_nil _ _) hN5 (HAK.out _ hB5) (by omega)
      rw [HQ.out] at h
      exact h)
    obtain ⟨m0, m1, m2, m3, m4, m5, m6, m7⟩ := box8 h6
    clear HBS n0 n1 n2 n3 hN4 hO4 hN5
    go_wp2_with ((rw [← HXw5.out]); try rw [← hg6.out])
    refine (HAP.out).mono ?_
    rintro e w6 ⟨A4, c4, rfl, hN6, hO6, hb6⟩
    dsimp only at hN6 hO6
    obtain ⟨g7, hg7⟩ : ∃ g, Hid (g = w6.heap.size) := ⟨_, Lib.hid rfl⟩
    obtain ⟨w7, HXw7⟩ : ∃ W : World, Hid (W = w6.alloc (.cells #[.int .i64 p, .int .i64 v, .slice A4 es.length c4, .int .i64 m] 24)) := ⟨_, Lib.hid rfl⟩
    have hkw7 : Below w6.heap.size w6 w7 := by rw [HXw7.out]; exact below_new _ _
    have h7 : w7.heap[g7]? = some (.cells #[.int .i64 p, .int .i64 v, .slice A4 es.length c4, .int .i64 m] 24 (0, 0)) := by rw [HXw7.out, hg7.out]; exact heap_alloc_new _ _
    have hzw7 : w7.heap.size = w6.heap.size + 1 := by rw [HXw7.out]; simp
    have heg7 : g7 = w6.heap.size := hg7.out
    replace heg7 := Lib.hid heg7
    have hz6 := hb6.size
    have hk57 : Below w5.heap.size w5 w7 := hb6.trans (hkw7.mono hz6)
    have hk37 := keepB hk35 hk57
    have hO7 := keepR hkw7 hO6.out
    have hO57 := keepR hk57 hO5
    have h57 := keepH hk37 h5
    have h67 := keepH hk57 h6
    have HCL := Lib.hid (clone_any p v m w7 (keepE hk37 hR3) (by omega))
    clear HAP m0 m1 m2 m3 m4 m5 m6 m7 hN6 hO6
    obtain ⟨n0, n1, n2, n3⟩ := box4 h57
    go_wp2_with ((rw [← HXw7.out]); try rw [← hg7.out])
    refine (HCL.out).mono ?_
    rintro e w8 ⟨A5, c5, rfl, hN8, hO8, hb8⟩
    obtain ⟨g9, hg9⟩ : ∃ g, Hid (g = w8.heap.size) := ⟨_, Lib.hid rfl⟩
    obtain ⟨w9, HXw9⟩ : ∃ W : World, Hid (W = w8.alloc (.cells #[.int .i64 p, .int .i64 v, .slice A5 es.length c5, .int .i64 m] 24)) := ⟨_, Lib.hid rfl⟩
    have hkw9 : Below w8.heap.size w8 w9 := by rw [HXw9.out]; exact below_new _ _
    have h9 : w9.heap[g9]? = some (.cells #[.int .i64 p, .int .i64 v, .slice A5 es.length c5, .int .i64 m] 24 (0, 0)) := by rw [HXw9.out, hg9.out]; exact heap_alloc_new _ _
    have hzw9 : w9.heap.size = w8.heap.size + 1 := by rw [HXw9.out]; simp
    have heg9 : g9 = w8.heap.size := hg9.out
    replace heg9 := Lib.hid heg9
    have hz8 := hb8.size
    have hk79 : Below w7.heap.size w7 w9 := hb8.trans (hkw9.mono hz8)
    have hk39 := keepB hk37 hk79
    have T3 : RowT w9 w3.heap.size 44 6 A3 es.length c3 := own_rowT (keepR hk79 hO57)
    have T5 : RowT w9 w7.heap.size 44 6 A5 es.length c5 := own_rowT (keepR hkw9 hO8.out)
    have NS : ∀ j, (Value.ownBlock (.slice A3 es.length c3) = some j ∨ Value.ownBlock (.slice A5 es.length c5) = some j) → (w3.heap.size ≤ j ∧ j < w5.heap.size - 1) ∨ (w7.heap.size ≤ j ∧ j < w8.heap.size) := by
      intro j hj
      rcases hj with hj | hj
      · left
        have h1 := (World.ownsRow.lt hO5 _ hj)
        rcases hO5.2 with ⟨e, _⟩ | ⟨q, cap, cur, e, hq, hh, _⟩
        · rw [e] at hj; cases hj
        · rw [e] at hj
          have e' : q = j := by simpa [Value.ownBlock] using hj
          subst e'
          refine ⟨hq, ?_⟩
          rcases Nat.lt_or_ge q w4.heap.size with hlt | hge
          · omega
          · exfalso
            have hqe : q = g6 := by have := heg6.out; omega
            subst hqe
            rw [h6] at hh
            simp at hh
      · right; exact World.ownsRow.lt hO8.out _ hj
    replace NS := Lib.hid NS
    have hg3 : w2.heap.size + 1 ≤ w3.heap.size := by omega
    have h59 := keepH hk79 h57
    have h69 := keepH hk79 h67
    have h79 := keepH hk79 h7
    obtain ⟨S, hS⟩ : ∃ S : Nat → Prop, Hid (S = fun j => Value.ownBlock (.slice A3 es.length c3) = some j ∨ Value.ownBlock (.slice A5 es.length c5) = some j) := ⟨_, Lib.hid rfl⟩
    have hS3 : ∀ j, Value.ownBlock (.slice A3 es.length c3) = some j → S j := by rw [hS.out]; exact fun j h => .inl h
    have hS5 : ∀ j, Value.ownBlock (.slice A5 es.length c5) = some j → S j := by rw [hS.out]; exact fun j h => .inr h
    have hSb : ∀ j, S j → (w3.heap.size ≤ j ∧ j < w5.heap.size - 1) ∨ (w7.heap.size ≤ j ∧ j < w8.heap.size) := by rw [hS.out]; exact NS.out
    have ne5 : ¬ S g5 := fun h => by have := hSb _ h; have := heg5.out; omega
    have ne6 : ¬ S g6 := fun h => by have := hSb _ h; have := heg6.out; omega
    have ne7 : ¬ S g7 := fun h => by have := hSb _ h; have := heg7.out; omega
    have ne9 : ¬ S g9 := fun h => by have := hSb _ h; have := heg9.out; omega
    have ne35 : ∀ j, Value.ownBlock (.slice A3 es.length c3) = some j → Value.ownBlock (.slice A5 es.length c5) ≠ some j := fun j h1 h2 => by
      have e1 : w3.heap.size ≤ j ∧ j < w5.heap.size := World.ownsRow.lt hO5 _ h1
      have e2 : w7.heap.size ≤ j ∧ j < w8.heap.size := World.ownsRow.lt hO8.out _ h2
      have := hk57.size
      omega
    replace hS3 := Lib.hid hS3
    replace hS5 := Lib.hid hS5
    replace hSb := Lib.hid hSb
    replace ne35 := Lib.hid ne35
    replace ne5 := Lib.hid ne5
    replace ne6 := Lib.hid ne6
    replace ne7 := Lib.hid ne7
    replace ne9 := Lib.hid ne9
    clear HCL n0 n1 n2 n3 NS hN8 hO8 hO57 hO5 h57 h67 h7 h5 h6 hb8 hb6 hb4
    have hlen : es.length ≤ 64 := hmy.1
    have hcc5 : es.length ≤ c5 ∧ es.length ≤ c3 := by
      obtain ⟨_, t1⟩ := T5
      obtain ⟨_, t3⟩ := T3
      obtain ⟨A', c', e1, h1⟩ := own_is_slice t1
      obtain ⟨A'', c'', e2, h2⟩ := own_is_slice t3
      injection e1 with _ _ e1
      injection e2 with _ _ e2
      omega
    go_wp2_with ((rw [← HXw9.out]); try rw [← hg9.out])
    go_loopw [10] (fun i wr => ∃ k : Nat, k ≤ es.length ∧ i = .int .i64 k ∧ Hid (Foot S w9 wr) ∧ RowT wr w3.heap.size 44 6 A3 es.length c3 ∧ RowT wr w7.heap.size 44 6 A5 es.length c5) (fun i _ => es.length - (intOf i).toNat)
    case atStart => exact ⟨0, Nat.zero_le _, rfl, Lib.hid (Foot.refl _ _), T3, T5⟩
    case round =>
      clear T3 T5
      obtain ⟨k, hk, rfl, hFT, T3, T5⟩ := hrel
      by_cases hlt : k < es.length
      · obtain ⟨r5, rfl, hr5b, hr5l, ht5⟩ := T5.at_ hlt
        obtain ⟨r3, rfl, hr3b, hr3l, ht3⟩ := T3.at_ hlt
        have hii : (k : Int) < (es.length : Int) := by omega
        have hne : r3 ≠ r5 := fun e => ne35.out r3 rfl (by rw [e]; rfl)
        have b9 := hFT.out.kept h9 ne9.out
        have b6 := hFT.out.kept h69 ne6.out
        have s1 := Lib.hid (run_storeVar_mid (P := Tryd.prog) wr r5 (k * 6) 44 #[.int .i64 0, .int .i64 0, .int .i64 0, .int .i64 0, .int .i64 0, .int .i64 0] ht5 (by kernel_rfl) (by simp [Value.oneCell']))
        obtain ⟨w10, HX10⟩ : ∃ W : World, Hid (W = wr.setCells r5 (k * 6) (#[.int .i64 0, .int .i64 0, .int .i64 0, .int .i64 0, .int .i64 0, .int .i64 0]).toList) := ⟨_, Lib.hid rfl⟩
        rw [← HX10.out] at s1
        have f1 : Foot (fun j => j = r5) wr w10 := by rw [HX10.out]; exact setCells_foot r5 _ _ _
        have t3' : RowT w10 w3.heap.size 44 6 (some ⟨r3, 0, none⟩) es.length c3 := T3.foot f1 (fun j hj e => hne ((by simpa [Value.ownBlock] using hj : r3 = j).trans e))
        have t5' : RowT w10 w7.heap.size 44 6 (some ⟨r5, 0, none⟩) es.length c5 := by rw [HX10.out]; exact T5.stores _ _ _
        have b6' := f1.kept b6 (fun e => ne6.out (hS5.out _ (by rw [e]; rfl)))
        obtain ⟨r3', e3, -, -, ht3'⟩ := t3'.at_ hlt
        injection e3 with e3
        injection e3 with e3
        subst e3
        have s2 := Lib.hid (run_storeVar_mid (P := Tryd.prog) w10 r3 (k * 6) 44 #[.int .i64 0, .int .i64 0, .int .i64 0, .int .i64 0, .int .i64 0, .int .i64 0] ht3' (by kernel_rfl) (by simp [Value.oneCell']))
        obtain ⟨w11, HX11⟩ : ∃ W : World, Hid (W = w10.setCells r3 (k * 6) (#[.int .i64 0, .int .i64 0, .int .i64 0, .int .i64 0, .int .i64 0, .int .i64 0]).toList) := ⟨_, Lib.hid rfl⟩
        rw [← HX11.out] at s2
        have f2 : Foot (fun j => j = r3) w10 w11 := by rw [HX11.out]; exact setCells_foot r3 _ _ _
        have t3'' : RowT w11 w3.heap.size 44 6 (some ⟨r3, 0, none⟩) es.length c3 := by rw [HX11.out]; exact t3'.stores _ _ _
        have t5'' : RowT w11 w7.heap.size 44 6 (some ⟨r5, 0, none⟩) es.length c5 := t5'.foot f2 (fun j hj e => hne ((by simpa [Value.ownBlock] using hj : r5 = j).trans e).symm)
        have HFT : Hid (Foot S w9 w11) := Lib.hid ((hFT.out.trans f1 (fun j _ e => hS5.out _ (by rw [e]; rfl))).trans f2 (fun j _ e => hS3.out _ (by rw [e]; rfl)))
        obtain ⟨n0, n1, n2, n3⟩ := box4 b9
        obtain ⟨m0, m1, m2, m3, m4, m5, m6, m7⟩ := box8 b6'
        clear T3 T5 f1 f2 t3' t5' ht3 ht5 ht3' b9 b6 b6' hFT HX10 HX11
        go_wp2_with (first
          | (with_reducible refine wpList_store_known (by rfl) 44 _ _ (by rfl) ⟨r5, k * 6, none⟩ (.agg #[.int .i64 0, .int .i64 0, .int .i64 0, .int .i64 0, .int .i64 0, .int .i64 0]) (by with_unfolding_all rfl) (by with_unfolding_all rfl) s1.out ?_)
          | (with_reducible refine wpList_store_known (by rfl) 44 _ _ (by rfl) ⟨r3, k * 6, none⟩ (.agg #[.int .i64 0, .int .i64 0, .int .i64 0, .int .i64 0, .int .i64 0, .int .i64 0]) (by with_unfolding_all rfl) (by with_unfolding_all rfl) s2.out ?_))
        go_roundw
        case rel => exact ⟨k + 1, by omega, by go_num, HFT, t3'', t5''⟩
        case measure => simp [intOf]; omega
      · obtain rfl : k = es.length := by omega
        have hii : ¬ (es.length : Int) < (es.length : Int) := by omega
        have b9 := hFT.out.kept h9 ne9.out
        have b5 := hFT.out.kept h59 ne5.out
        have b6 := hFT.out.kept h69 ne6.out
        have b7 := hFT.out.kept h79 ne7.out
        have hk3r : Below w3.heap.size w3 wr := hk39.trans (hFT.out.below fun j hj => ⟨by have := hk39.size; omega, fun e => by have := hSb.out _ e; have := hk57.size; have := hk35.size; omega⟩)
        have hRr := keepE hk3r hR3
        have hN4r := (own_mid (Y := wr) hO7 (by omega) (fun j h1 h2 => by
          refine (hFT.out.block j (Nat.lt_of_lt_of_le h2 hk79.size) (fun e => ?_)).trans (hk79.block j h2)
          have := hSb.out _ e
          omega)).2
        have hBr := keepB hB3 hk3r
        have HBS := Lib.hid (base_any st p v m wr hRr (by omega))
        obtain ⟨n0, n1, n2, n3⟩ := box4 b9
        obtain ⟨k0, k1, k2, k3⟩ := box4 b5
        clear T3 T5 hFT hS3 hS5 hSb ne35 ne5 ne6 ne7 ne9 h9 h59 h69 h79 hk39 hk79 hk37 hk57 hk35 hkw3 hkw5 hkw7 hkw9 hO7 hR3 b9
        go_wp2_with fail
        refine (HBS.out).mono ?_
        rintro e w10 ⟨A6, c6, rfl, hN10, -, hb10⟩
        obtain ⟨g11, hg11⟩ : ∃ g, Hid (g = w10.heap.size) := ⟨_, Lib.hid rfl⟩
        obtain ⟨w11, HXw11⟩ : ∃ W : World, Hid (W = w10.alloc (.cells #[.int .i64 4, .int .i64 st, .int .i64 p, .int .i64 v, .int .i64 0, .int .i64 m, .slice A6 es.length c6, .slice none 0 0] 27)) := ⟨_, Lib.hid rfl⟩
        have hkw11 : Below w10.heap.size w10 w11 := by rw [HXw11.out]; exact below_new _ _
        have h11 : w11.heap[g11]? = some (.cells #[.int .i64 4, .int .i64 st, .int .i64 p, .int .i64 v, .int .i64 0, .int .i64 m, .slice A6 es.length c6, .slice none 0 0] 27 (0, 0)) := by rw [HXw11.out, hg11.out]; exact heap_alloc_new _ _
        have hzw11 : w11.heap.size = w10.heap.size + 1 := by rw [HXw11.out]; simp
        have heg11 : g11 = w10.heap.size := hg11.out
        replace heg11 := Lib.hid heg11
        have hk : Below wr.heap.size wr w11 := hb10.trans (hkw11.mono hb10.size)
        have x5 := keepH hk b5
        have x6 := keepH hk b6
        have x7 := keepH hk b7
        have hR := keepE hk hRr
        have hN4 := keepE hk hN4r
        have hN6 := keepE hkw11 hN10
        have hB := keepB hBr hk
        clear HBS n0 n1 n2 n3 k0 k1 k2 k3 b5 b6 b7 hRr hN4r hN10 hk hb10 hkw11 hBr
        obtain ⟨n0, n1, n2, n3⟩ := box4 x5
        obtain ⟨k0, k1, k2, k3⟩ := box4 x7
        obtain ⟨m0, m1, m2, m3, m4, m5, m6, m7⟩ := box8 x6
        have HS1 := Lib.hid (sameReg_any p v m p v m w11 hN4 hR)
        rw [show decide (Re.mk p v es m = Re.mk p v es m) = true by simp] at HS1
        go_wp2_with ((rw [← HXw11.out]); try rw [← hg11.out])
        refine (HS1.out).mono ?_
        rintro e w12 ⟨rfl, hk⟩
        replace x5 := keepH hk x5
        replace h11 := keepH hk h11
        replace hR := keepE hk hR
        replace hN6 := keepE hk hN6
        replace hB := keepB hB hk
        clear HS1 n0 n1 n2 n3 k0 k1 k2 k3 m0 m1 m2 m3 m4 m5 m6 m7 hk x6 x7 hN4
        obtain ⟨n0, n1, n2, n3⟩ := box4 x5
        obtain ⟨m0, m1, m2, m3, m4, m5, m6, m7⟩ := box8 h11
        have HS2 := Lib.hid (sameEn_any hN6 hR)
        rw [show decide (es = es) = true by simp] at HS2
        go_wp2_with fail
        refine (HS2.out).mono ?_
        rintro e w13 ⟨rfl, hk⟩
        replace x5 := keepH hk x5
        replace h11 := keepH hk h11
        replace hR := keepE hk hR
        replace hN6 := keepE hk hN6
        replace hB := keepB hB hk
        clear HS2 n0 n1 n2 n3 m0 m1 m2 m3 m4 m5 m6 m7 hk
        obtain ⟨n0, n1, n2, n3⟩ := box4 x5
        obtain ⟨m0, m1, m2, m3, m4, m5, m6, m7⟩ := box8 h11
        by_cases hp : p = 0
        · subst hp
          clear HNO HQ
          have HC := Lib.hid (regCheck_any 0 v m w13 hR (HAK.out _ hB))
          rw [hmay.out] at HC
          go_wp2_with fail
          refine (HC.out).mono ?_
          rintro e w15 ⟨rfl, hk⟩
          replace hB := keepB hB hk
          clear HC n0 n1 n2 n3 m0 m1 m2 m3 m4 m5 m6 m7 hk
          go_wp2_with fail
          refine (HLV.out w15 hB).mono ?_
          rintro e w16 ⟨rfl, hk⟩
          go_wp2_with fail
          go_ret
          exact ⟨rfl, keepB hB hk⟩
        have tp : (p == 0) = false := by simp [hp]
        replace hp := Lib.hid hp
        have HM := Lib.hid (may_any p v m 4 st p v 0 m es es A2 A6 none c2 c6 0 0 w13 hR hN6 (HAK.out _ hB) (by omega))
        rw [HNO.out hp.out] at HM
        go_wp2_with fail
        refine (HM.out).mono ?_
        rintro e w14 ⟨rfl, hk⟩
        replace x5 := keepH hk x5
        replace h11 := keepH hk h11
        replace hR := keepE hk hR
        replace hB := keepB hB hk
        clear HM n0 n1 n2 n3 m0 m1 m2 m3 m4 m5 m6 m7 hk hN6
        obtain ⟨n0, n1, n2, n3⟩ := box4 x5
        obtain ⟨m0, m1, m2, m3, m4, m5, m6, m7⟩ := box8 h11
        have HC := Lib.hid (regCheck_any p v m w14 hR (HAK.out _ hB))
        rw [hmay.out] at HC
        go_wp2_with fail
        refine (HC.out).mono ?_
        rintro e w15 ⟨rfl, hk⟩
        replace hB := keepB hB hk
        clear HC n0 n1 n2 n3 m0 m1 m2 m3 m4 m5 m6 m7 hk
        go_wp2_with fail
        refine (HLV.out w15 hB).mono ?_
        rintro e w16 ⟨rfl, hk⟩
        go_wp2_with fail
        go_ret
        exact ⟨rfl, keepB hB hk⟩
end Go.Proofs.YtnbhdehpdfojlaaDoor.registerBaseW
