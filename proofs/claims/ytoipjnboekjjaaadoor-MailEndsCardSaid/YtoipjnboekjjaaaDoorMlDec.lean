/-
  Decode of package mail.
-/
import Derived.Test.YtoipjnboekjjaaaDoorMlMof
namespace Go.Proofs.YtoipjnboekjjaaaDoor
open Go.RowKit
def MlDecPost (l : List UInt8) (n : Int) (w : World) (e : Ending) (w' : World) : Prop := Below w.heap.size w w' ∧
  ((∃ (m : Ml) (A : Option Addr) (c : Nat), m.may n = true ∧ m.enc = l ∧ e = .returned (.tuple #[m.v (.slice A m.es.length c), .int .i64 0]) ∧ OwnE w' w.heap.size (.slice A m.es.length c) m.es) ∨
    ((∀ m : Ml, m.may n = true → m.enc ≠ l) ∧ e = .returned (.tuple #[ml0.v (.slice none 0 0), .int .i64 30])))
set_option maxRecDepth 100000 in
set_option maxHeartbeats 8000000 in
theorem mlDecode_any (s : ByteArray) (hs : s.size ≤ 1000000) (n : Int) {w : World} (hA : AskM w) : Calls Tryd.prog 26 #[.string s, .int .i64 n] w (MlDecPost (bytesOf s) n w) := by
  obtain ⟨w0, HW0⟩ : ∃ w0, Hid (w.alloc (.cells (ml0.cells (.slice none 0 0)).toArray 45) = w0) := ⟨_, Lib.hid rfl⟩
  have hb0 : Below w.heap.size w w0 := by rw [← HW0.out]; exact (Below.refl _ _).alloc (Nat.le_refl _) _
  have X0 : MlBox w0 w.heap.size ml0 (.slice none 0 0) := by rw [← HW0.out]; exact MlBox.new _ _ _
  have hs0 : w0.heap.size = w.heap.size + 1 := by rw [← HW0.out]; simp
  have HB0 := Lib.hid hb0
  have HX0 := Lib.hid X0
  have HAK := Lib.hid (fun X (hX : Below w.heap.size w X) => hA.keep hX)
  have HZ : Hid ((ml0.cells (.slice none 0 0)).toArray = #[.int .i64 0, .int .i64 0, .int .i64 0, .int .i64 0, .int .i64 0, .int .i64 0, .int .i64 0, .int .i64 0, .int .i64 0, .slice none 0 0, .int .i64 0, .int .i64 0, .int .i64 0, .int .i64 0, .int .i64 0, .int .i64 0, .int .i64 0, .int .i64 0]) := rfl
  -- what a way that fails leaves
  have HFAIL : Hid (∀ (W : World), MlBox W w.heap.size ml0 (.slice none 0 0) → Below w.heap.size w W → (∀ m : Ml, m.may n = true → m.enc ≠ bytesOf s) →
      ∃ W', (storeVar 45 ⟨w.heap.size, 0, none⟩ (.agg #[.int .i64 0, .int .i64 0, .int .i64 0, .int .i64 0, .int .i64 0, .int .i64 0, .int .i64 0, .int .i64 0, .int .i64 0, .slice none 0 0, .int .i64 0, .int .i64 0, .int .i64 0, .int .i64 0, .int .i64 0, .int .i64 0, .int .i64 0, .int .i64 0])).run Tryd.prog W = .ok () W' ∧
        W'.heap[w.heap.size]? = some (.cells #[.int .i64 0, .int .i64 0, .int .i64 0, .int .i64 0, .int .i64 0, .int .i64 0, .int .i64 0, .int .i64 0, .int .i64 0, .slice none 0 0, .int .i64 0, .int .i64 0, .int .i64 0, .int .i64 0, .int .i64 0, .int .i64 0, .int .i64 0, .int .i64 0] 45 (0, 0)) ∧
        MlDecPost (bytesOf s) n w (.returned (.tuple #[.agg #[.int .i64 0, .int .i64 0, .int .i64 0, .int .i64 0, .int .i64 0, .int .i64 0, .int .i64 0, .int .i64 0, .int .i64 0, .slice none 0 0, .int .i64 0, .int .i64 0, .int .i64 0, .int .i64 0, .int .i64 0, .int .i64 0, .int .i64 0, .int .i64 0], .int .i64 30])) W') := fun W hX hB hno => by
    obtain ⟨q1, q2⟩ := hX.store (m := ml0) (A := none) (n := 0) (c := 0)
    exact ⟨_, q1, q2, below_setRow hB (Nat.le_refl _) _, .inr ⟨hno, rfl⟩⟩
  have G1 := Lib.hid (unmark_any s hs w0)
  rw [HZ.out] at HW0
  clear hb0 X0 hA
  go_enter Tryd.func26, Tryd.ntmps26
  go_wp2_with (rw [HW0.out])
  refine (G1.out).mono ?_
  rintro e w1 ⟨hb1, h⟩
  have HX1 := Lib.hid (HX0.out.bel hb1 (by omega))
  have HB1 := Lib.hid (HB0.out.trans (hb1.mono (by omega)))
  have hw1 : w.heap.size < w1.heap.size := by have := hb1.size; omega
  clear hb1 G1
  rcases h with ⟨ns, A, c, hi, hm, hl, rfl, hown⟩ | ⟨hno, rfl⟩
  · have HNS := Lib.hid (And.intro hi (And.intro hm hl))
    have G2 := Lib.hid (mailOf_any hown)
    clear hi hm hl hown hs0
    go_wp2_with fail
    refine (G2.out).mono ?_
    rintro e w2 ⟨hb2, h⟩
    have HX2 := Lib.hid (HX1.out.bel hb2 hw1)
    have HB2 := Lib.hid (HB1.out.trans (hb2.mono (by omega)))
    have hw2 : w.heap.size < w2.heap.size := by have := hb2.size; omega
    clear hb2 G2
    obtain ⟨w3, HW3⟩ : ∃ w3, Hid (w2.alloc (.cells #[.int .i64 0, .int .i64 0, .int .i64 0, .int .i64 0, .int .i64 0, .int .i64 0, .int .i64 0, .int .i64 0, .int .i64 0, .slice none 0 0, .int .i64 0, .int .i64 0, .int .i64 0, .int .i64 0, .int .i64 0, .int .i64 0, .int .i64 0, .int .i64 0] 45) = w3) := ⟨_, Lib.hid rfl⟩
    have hb3 : Below w2.heap.size w2 w3 := by rw [← HW3.out]; exact (Below.refl _ _).alloc (Nat.le_refl _) _
    have X3 : MlBox w3 w2.heap.size ml0 (.slice none 0 0) := by rw [← HW3.out]; exact heap_alloc_new _ _
    have HX3 := Lib.hid (HX2.out.bel hb3 hw2)
    have HB3 := Lib.hid (HB2.out.trans (hb3.mono (by omega)))
    have hs3 : w3.heap.size = w2.heap.size + 1 := by rw [← HW3.out]; simp
    have HB23 := Lib.hid hb3
    rcases h with ⟨m, A', c', hml, hm64, rfl, hown⟩ | ⟨hno, rfl⟩
    · obtain ⟨q1, q2⟩ := X3.store (m := m) (A := A') (n := m.es.length) (c := c')
      obtain ⟨w4, HW4⟩ : ∃ w4, Hid (w3.setRow w2.heap.size (m.cells (.slice A' m.es.length c')).toArray = w4) := ⟨_, Lib.hid rfl⟩
      rw [HW4.out] at q1 q2
      have hf4 : Foot (fun j => j = w2.heap.size) w3 w4 := by rw [← HW4.out]; exact Foot.row (fun j => j = w2.heap.size) _ _ _ rfl
      have HST := Lib.hid q1
      have HX24 := Lib.hid q2
      have hb4 : Below w2.heap.size w2 w4 := hb3.trans (hf4.below (B := w2.heap.size) fun j hj => ⟨by omega, by omega⟩)
      have HX4 := Lib.hid (HX2.out.bel hb4 hw2)
      have HB4 := Lib.hid (HB2.out.trans (hb4.mono (by omega)))
      have HOW4 := Lib.hid (OwnE.below hown hb4)
      have hd4 := q2.load
      have hsz4 : w2.heap.size < w4.heap.size := q2.lt
      have G3 := Lib.hid (mlCheck_any m n A' c' (HAK.out w4 HB4.out) HOW4.out.es (Nat.le_refl _) (by omega))
      have HML : Hid (m.enc = bytesOf s) := by show _ = _; rw [Ml.enc, hml]; exact HNS.out.2.1
      have HINT : Hid (IntsOk m.l) := by show IntsOk _; rw [hml]; exact HNS.out.1
      simp only [Ml.v] at hd4 G3 ⊢
      clear q1 q2 hb3 hb4 hf4 X3 hown hs3 HX3 HB3 HNS hml
      rcases hmay : m.may n with _ | _
      · rw [show m.err n = 2 by unfold Ml.err; rw [hmay]; rfl] at G3
        have HNO : Hid (∀ x : Ml, x.may n = true → x.enc ≠ bytesOf s) := fun x hx he => by
          have hxi := Ml.ints_l (Ml.may_ints hx) (by have := Ml.may_es hx; omega)
          obtain rfl := Ml.enc_inj hxi HINT.out (he.trans HML.out.symm)
          rw [hmay] at hx
          cases hx
        clear hmay
        go_wp2_with (first | rw [HW3.out] | (refine wpList_store_known rfl 45 _ _ rfl ⟨w2.heap.size, 0, none⟩ _ rfl rfl HST.out ?_) | (refine wpList_load_want (by kernel_rfl) 45 _ rfl ⟨w2.heap.size, 0, none⟩ rfl hd4 ?_))
        refine (G3.out).mono ?_
        rintro e w5 ⟨rfl, hb5⟩
        obtain ⟨W', q1, q2, q3⟩ := HFAIL.out w5 (HX4.out.bel hb5 (by omega)) (HB4.out.trans (hb5.mono HB4.out.size)) HNO.out
        have HST := Lib.hid q1
        have HGW := Lib.hid q2
        have HP := Lib.hid q3
        clear q1 q2 q3 HFAIL hd4 hb5
        go_wp2_with (refine wpList_store_known rfl 45 _ _ rfl ⟨w.heap.size, 0, none⟩ _ rfl rfl HST.out ?_)
        (try simp only [Exit.inBlock, Exit.then]); refine bodyPost_ret (v := .tuple #[.agg #[.int .i64 0, .int .i64 0, .int .i64 0, .int .i64 0, .int .i64 0, .int .i64 0, .int .i64 0, .int .i64 0, .int .i64 0, .slice none 0 0, .int .i64 0, .int .i64 0, .int .i64 0, .int .i64 0, .int .i64 0, .int .i64 0, .int .i64 0, .int .i64 0], .int .i64 30]) (by rw [results_row_one (u := 5) rfl _ _ w.heap.size 45 _ (0, 0) _ rfl HGW.out Tryd.underlying45 rfl (by kernel_rfl)]; rfl) rfl HP.out
      · rw [show m.err n = 0 by unfold Ml.err; rw [hmay]; rfl] at G3
        have HMAY := Lib.hid hmay
        clear hmay
        go_wp2_with (first | rw [HW3.out] | (refine wpList_store_known rfl 45 _ _ rfl ⟨w2.heap.size, 0, none⟩ _ rfl rfl HST.out ?_) | (refine wpList_load_want (by kernel_rfl) 45 _ rfl ⟨w2.heap.size, 0, none⟩ rfl hd4 ?_))
        refine (G3.out).mono ?_
        rintro e w5 ⟨rfl, hb5⟩
        have hx5 := HX4.out.bel hb5 (by omega)
        have hd5 := (HX24.out.bel hb5 hsz4).load
        simp only [Ml.v] at hd5
        have HB5 := Lib.hid (HB4.out.trans (hb5.mono HB4.out.size))
        have ho5 := OwnE.below HOW4.out hb5
        have HST2 := Lib.hid (hx5.store (m := m) (A := A') (n := m.es.length) (c := c'))
        have HOF : Hid (OwnE (w5.setRow w.heap.size (m.cells (.slice A' m.es.length c')).toArray) w.heap.size (.slice A' m.es.length c') m.es) := owns_weaken (ho5.foot (Foot.row (fun j => j = w.heap.size) _ _ _ rfl) (fun j hj e => by have := (ho5.lt hj).1; omega)) (by omega)
        have HBF : Hid (Below w.heap.size w (w5.setRow w.heap.size (m.cells (.slice A' m.es.length c')).toArray)) := below_setRow HB5.out (Nat.le_refl _) _
        clear hx5 ho5 hb5 hd4 HFAIL
        go_wp2_with (first | (refine wpList_load_run rfl 45 _ rfl ⟨w2.heap.size, 0, none⟩ rfl hd5 ?_) | (refine wpList_store_known rfl 45 _ _ rfl ⟨w.heap.size, 0, none⟩ _ rfl rfl HST2.out.1 ?_))
        (try simp only [Exit.inBlock, Exit.then]); refine bodyPost_ret (v := .tuple #[.agg (m.cells (.slice A' m.es.length c')).toArray, .int .i64 0]) (by rw [results_row_one (u := 5) rfl _ _ w.heap.size 45 _ (0, 0) _ rfl HST2.out.2 Tryd.underlying45 rfl (by kernel_rfl)]; rfl) rfl ?_
        exact ⟨HBF.out, .inl ⟨m, A', c', HMAY.out, HML.out, rfl, HOF.out⟩⟩
    · obtain ⟨q1, q2⟩ := X3.store (m := ml0) (A := none) (n := 0) (c := 0)
      obtain ⟨w4, HW4⟩ : ∃ w4, Hid (w3.setRow w2.heap.size (ml0.cells (.slice none 0 0)).toArray = w4) := ⟨_, Lib.hid rfl⟩
      rw [HW4.out] at q1 q2
      have hf4 : Foot (fun j => j = w2.heap.size) w3 w4 := by rw [← HW4.out]; exact Foot.row (fun j => j = w2.heap.size) _ _ _ rfl
      have hb4 : Below w2.heap.size w2 w4 := hb3.trans (hf4.below (B := w2.heap.size) fun j hj => ⟨by omega, by omega⟩)
      have HST0 := Lib.hid q1
      obtain ⟨W', q3, q4, q5⟩ := HFAIL.out w4 (HX2.out.bel hb4 hw2) (HB2.out.trans (hb4.mono (by omega))) (fun x hx he => by
        have hxi := Ml.ints_l (Ml.may_ints hx) (by have := Ml.may_es hx; omega)
        have h1 := hno x (markL_inj hxi HNS.out.1 (he.trans HNS.out.2.1.symm))
        have h2 := Ml.may_es hx
        omega)
      have HST := Lib.hid q3
      have HGW := Lib.hid q4
      have HP := Lib.hid q5
      simp only [Ml.v]
      rw [HZ.out] at HST0 ⊢
      clear q1 q2 q3 q4 q5 hf4 hb4 hno HFAIL X3 hb3 hs3 HX3 HB3 HW4 HZ
      go_wp2_with (first | rw [HW3.out] | (refine wpList_store_known rfl 45 _ _ rfl ⟨w2.heap.size, 0, none⟩ _ rfl rfl HST0.out ?_) | (refine wpList_store_known rfl 45 _ _ rfl ⟨w.heap.size, 0, none⟩ _ rfl rfl HST.out ?_))
      (try simp only [Exit.inBlock, Exit.then]); refine bodyPost_ret (v := .tuple #[.agg #[.int .i64 0, .int .i64 0, .int .i64 0, .int .i64 0, .int .i64 0, .int .i64 0, .int .i64 0, .int .i64 0, .int .i64 0, .slice none 0 0, .int .i64 0, .int .i64 0, .int .i64 0, .int .i64 0, .int .i64 0, .int .i64 0, .int .i64 0, .int .i64 0], .int .i64 30]) (by rw [results_row_one (u := 5) rfl _ _ w.heap.size 45 _ (0, 0) _ rfl HGW.out Tryd.underlying45 rfl (by kernel_rfl)]; rfl) rfl HP.out
  · obtain ⟨W', q1, q2, q3⟩ := HFAIL.out w1 HX1.out HB1.out (fun m hm he => by
      have h1 := hno m.l (Ml.ints_l (Ml.may_ints hm) (by have := Ml.may_es hm; omega)) he
      have h2 := Ml.may_es hm
      rw [Ml.l_len] at h1
      omega)
    have HST := Lib.hid q1
    have HGW := Lib.hid q2
    have HP := Lib.hid q3
    clear q1 q2 q3 hno HFAIL
    go_wp2_with (refine wpList_store_known rfl 45 _ _ rfl ⟨w.heap.size, 0, none⟩ _ rfl rfl HST.out ?_)
    (try simp only [Exit.inBlock, Exit.then]); refine bodyPost_ret (v := .tuple #[.agg #[.int .i64 0, .int .i64 0, .int .i64 0, .int .i64 0, .int .i64 0, .int .i64 0, .int .i64 0, .int .i64 0, .int .i64 0, .slice none 0 0, .int .i64 0, .int .i64 0, .int .i64 0, .int .i64 0, .int .i64 0, .int .i64 0, .int .i64 0, .int .i64 0], .int .i64 30]) (by rw [results_row_one (u := 5) rfl _ _ w.heap.size 45 _ (0, 0) _ rfl HGW.out Tryd.underlying45 rfl (by kernel_rfl)]; rfl) rfl HP.out
end Go.Proofs.YtoipjnboekjjaaaDoor
