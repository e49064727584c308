/-
  SameMail of the statements of nets, at two messages that read alike. Decode of package mail. works() of the statements of mail: the chapter's examples.
-/
import Derived.Test.YtkdnhfeamibmdaaDoorMlMem
import Derived.Test.YtkdnhfeamibmdaaDoorRcSame
import Derived.Test.YtkdnhfeamibmdaaDoorMlMof
import Derived.Test.YtkdnhfeamibmdaaDoorRcWorks
import Derived.Deep.DeepCutAuto
namespace Go.Proofs.YtkdnhfeamibmdaaDoor
open Go.RowKit
set_option maxRecDepth 100000 in
set_option maxHeartbeats 4000000 in
theorem sameMail_any (m : Ml) {A A' : Option Addr} {c c' B1 B2 : Nat} {w : World} (ha : EsB B1 w (.slice A m.es.length c) m.es) (hb : EsB B2 w (.slice A' m.es.length c') m.es) (h1 : B1 ≤ w.heap.size) (h2 : B2 ≤ w.heap.size) :
    Calls Tryd.prog 20 #[m.v (.slice A m.es.length c), m.v (.slice A' m.es.length c')] w (NumPost (.bool true) w) := by
  obtain ⟨w0, HW0⟩ : ∃ w0, Hid (w.alloc (.cells (m.cells (.slice A m.es.length c)).toArray 45) = w0) := ⟨_, Lib.hid rfl⟩
  obtain ⟨w1, HW1⟩ : ∃ w1, Hid (w0.alloc (.cells (m.cells (.slice A' m.es.length c')).toArray 45) = w1) := ⟨_, Lib.hid rfl⟩
  have hb0 : Below w.heap.size w w0 := by rw [← HW0.out]; exact (Below.refl _ _).alloc (Nat.le_refl _) _
  have hs0 : w0.heap.size = w.heap.size + 1 := by rw [← HW0.out]; simp
  have hb01 : Below w0.heap.size w0 w1 := by rw [← HW1.out]; exact (Below.refl _ _).alloc (Nat.le_refl _) _
  have hb1 : Below w.heap.size w w1 := hb0.trans (hb01.mono (by omega))
  have hs1 : w1.heap.size = w.heap.size + 2 := by rw [← HW1.out]; simp [hs0]
  have k0 := (show MlBox w0 w.heap.size m (.slice A m.es.length c) by rw [← HW0.out]; exact MlBox.new _ _ _).cell 0
  have X0 : MlBox w1 w.heap.size m (.slice A m.es.length c) := (show MlBox w0 w.heap.size m (.slice A m.es.length c) by rw [← HW0.out]; exact MlBox.new _ _ _).bel hb01 (by omega)
  have X1 : MlBox w1 (w.heap.size + 1) m (.slice A' m.es.length c') := by rw [← HW1.out, ← hs0]; exact MlBox.new _ _ _
  have HC := Lib.hid (fun Y (h : Below w1.heap.size w1 Y) => And.intro (X0.bel h (by omega)) (X1.bel h (by omega)))
  have HSE := Lib.hid (sameEs_any (RdB.below ha hb1 h1 : EsB B1 w1 _ m.es) (RdB.below hb hb1 h2 : EsB B2 w1 _ m.es))
  have HB1 := Lib.hid hb1
  rw [← HW0.out] at HW1
  have hsz : (w.alloc (.cells (m.cells (.slice A m.es.length c)).toArray 45)).heap.size = w.heap.size + 1 := by simp
  clear ha hb hb0 hb01 hb1 X0 X1 hs0 HW0 k0
  obtain ⟨p, q⟩ := HC.out w1 (Below.refl _ _)
  obtain ⟨ki, fr, tt, st, ep, vi, ba, le, sp, es, ⟨oi, os, ox, ok, oa⟩, ai, ac, av⟩ := m
  dsimp only [Ml.v, Ml.cells] at *
  generalize es.length = n at *
  have p0 := p.cell 0
  have p1 := p.cell 1
  have p2 := p.cell 2
  have p3 := p.cell 3
  have p4 := p.cell 4
  have p5 := p.cell 5
  have p6 := p.cell 6
  have p7 := p.cell 7
  have p8 := p.cell 8
  have p9 := p.cell 9
  have q0 := q.cell 0
  have q1 := q.cell 1
  have q2 := q.cell 2
  have q3 := q.cell 3
  have q4 := q.cell 4
  have q5 := q.cell 5
  have q6 := q.cell 6
  have q7 := q.cell 7
  have q8 := q.cell 8
  have q9 := q.cell 9
  simp only [Ml.cells, List.getElem?_cons_zero, List.getElem?_cons_succ] at p0 p1 p2 p3 p4 p5 p6 p7 p8 p9 q0 q1 q2 q3 q4 q5 q6 q7 q8 q9
  clear p q
  go_enter Tryd.func20, Tryd.ntmps20
  go_wp2_with (first | rw [HW1.out] | rw [hsz])
  refine HSE.out.mono ?_
  rintro e w2 ⟨rfl, hb2⟩
  have HB2 := Lib.hid (HB1.out.trans (hb2.mono HB1.out.size))
  obtain ⟨p, q⟩ := HC.out w2 hb2
  have r0 := p.cell 10
  have r1 := p.cell 11
  have r2 := p.cell 12
  have r3 := p.cell 13
  have r4 := p.cell 14
  have r5 := p.cell 15
  have r6 := p.cell 16
  have r7 := p.cell 17
  have s0 := q.cell 10
  have s1 := q.cell 11
  have s2 := q.cell 12
  have s3 := q.cell 13
  have s4 := q.cell 14
  have s5 := q.cell 15
  have s6 := q.cell 16
  have s7 := q.cell 17
  clear p q p0 p1 p2 p3 p4 p5 p6 p7 p8 p9 q0 q1 q2 q3 q4 q5 q6 q7 q8 q9 hb2
  simp only [Ml.cells, List.getElem?_cons_zero, List.getElem?_cons_succ] at r0 r1 r2 r3 r4 r5 r6 r7 s0 s1 s2 s3 s4 s5 s6 s7
  go_wp2_with fail
  go_ret
  exact ⟨rfl, HB2.out⟩
end Go.Proofs.YtkdnhfeamibmdaaDoor
namespace Go.Proofs.YtkdnhfeamibmdaaDoor
open Go.RowKit
def MlDecPost (l : List UInt8) (n : Int) (w : World) (e : Ending) (w' : World) : Prop := Below w.heap.size w w' ∧
  ((∃ (m : Ml) (A : Option Addr) (c : Nat), m.may n = true ∧ m.enc = l ∧ e = .returned (.tuple #[m.v (.slice A m.es.length c), .int .i64 0]) ∧ OwnE w' w.heap.size (.slice A m.es.length c) m.es) ∨
    ((∀ m : Ml, m.may n = true → m.enc ≠ l) ∧ e = .returned (.tuple #[ml0.v (.slice none 0 0), .int .i64 30])))
set_option maxRecDepth 100000 in
set_option maxHeartbeats 8000000 in
theorem mlDecode_any (s : ByteArray) (hs : s.size ≤ 1000000) (n : Int) {w : World} (hA : AskM w) : Calls Tryd.prog 22 #[.string s, .int .i64 n] w (MlDecPost (bytesOf s) n w) := by
  obtain ⟨w0, HW0⟩ : ∃ w0, Hid (w.alloc (.cells (ml0.cells (.slice none 0 0)).toArray 45) = w0) := ⟨_, Lib.hid rfl⟩
  have hb0 : Below w.heap.size w w0 := by rw [← HW0.out]; exact (Below.refl _ _).alloc (Nat.le_refl _) _
  have X0 : MlBox w0 w.heap.size ml0 (.slice none 0 0) := by rw [← HW0.out]; exact MlBox.new _ _ _
  have hs0 : w0.heap.size = w.heap.size + 1 := by rw [← HW0.out]; simp
  have HB0 := Lib.hid hb0
  have HX0 := Lib.hid X0
  have HAK := Lib.hid (fun X (hX : Below w.heap.size w X) => hA.keep hX)
  have HZ : Hid ((ml0.cells (.slice none 0 0)).toArray = #[.int .i64 0, .int .i64 0, .int .i64 0, .int .i64 0, .int .i64 0, .int .i64 0, .int .i64 0, .int .i64 0, .int .i64 0, .slice none 0 0, .int .i64 0, .int .i64 0, .int .i64 0, .int .i64 0, .int .i64 0, .int .i64 0, .int .i64 0, .int .i64 0]) := rfl
  -- what a way that fails leaves
  have HFAIL : Hid (∀ (W : World), MlBox W w.heap.size ml0 (.slice none 0 0) → Below w.heap.size w W → (∀ m : Ml, m.may n = true → m.enc ≠ bytesOf s) →
      ∃ W', (storeVar 45 ⟨w.heap.size, 0, none⟩ (.agg #[.int .i64 0, .int .i64 0, .int .i64 0, .int .i64 0, .int .i64 0, .int .i64 0, .int .i64 0, .int .i64 0, .int .i64 0, .slice none 0 0, .int .i64 0, .int .i64 0, .int .i64 0, .int .i64 0, .int .i64 0, .int .i64 0, .int .i64 0, .int .i64 0])).run Tryd.prog W = .ok () W' ∧
        W'.heap[w.heap.size]? = some (.cells #[.int .i64 0, .int .i64 0, .int .i64 0, .int .i64 0, .int .i64 0, .int .i64 0, .int .i64 0, .int .i64 0, .int .i64 0, .slice none 0 0, .int .i64 0, .int .i64 0, .int .i64 0, .int .i64 0, .int .i64 0, .int .i64 0, .int .i64 0, .int .i64 0] 45 (0, 0)) ∧
        MlDecPost (bytesOf s) n w (.returned (.tuple #[.agg #[.int .i64 0, .int .i64 0, .int .i64 0, .int .i64 0, .int .i64 0, .int .i64 0, .int .i64 0, .int .i64 0, .int .i64 0, .slice none 0 0, .int .i64 0, .int .i64 0, .int .i64 0, .int .i64 0, .int .i64 0, .int .i64 0, .int .i64 0, .int .i64 0], .int .i64 30])) W') := fun W hX hB hno => by
    obtain ⟨q1, q2⟩ := hX.store (m := ml0) (A := none) (n := 0) (c := 0)
    exact ⟨_, q1, q2, below_setRow hB (Nat.le_refl _) _, .inr ⟨hno, rfl⟩⟩
  have G1 := Lib.hid (unmark_any s hs w0)
  rw [HZ.out] at HW0
  clear hb0 X0 hA
  go_enter Tryd.func22, Tryd.ntmps22
  go_wp2_with (rw [HW0.out])
  refine (G1.out).mono ?_
  rintro e w1 ⟨hb1, h⟩
  have HX1 := Lib.hid (HX0.out.bel hb1 (by omega))
  have HB1 := Lib.hid (HB0.out.trans (hb1.mono (by omega)))
  have hw1 : w.heap.size < w1.heap.size := by have := hb1.size; omega
  clear hb1 G1
  rcases h with ⟨ns, A, c, hi, hm, hl, rfl, hown⟩ | ⟨hno, rfl⟩
  · have HNS := Lib.hid (And.intro hi (And.intro hm hl))
    have G2 := Lib.hid (mailOf_any hown)
    clear hi hm hl hown hs0
    go_wp2_with fail
    refine (G2.out).mono ?_
    rintro e w2 ⟨hb2, h⟩
    have HX2 := Lib.hid (HX1.out.bel hb2 hw1)
    have HB2 := Lib.hid (HB1.out.trans (hb2.mono (by omega)))
    have hw2 : w.heap.size < w2.heap.size := by have := hb2.size; omega
    clear hb2 G2
    obtain ⟨w3, HW3⟩ : ∃ w3, Hid (w2.alloc (.cells #[.int .i64 0, .int .i64 0, .int .i64 0, .int .i64 0, .int .i64 0, .int .i64 0, .int .i64 0, .int .i64 0, .int .i64 0, .slice none 0 0, .int .i64 0, .int .i64 0, .int .i64 0, .int .i64 0, .int .i64 0, .int .i64 0, .int .i64 0, .int .i64 0] 45) = w3) := ⟨_, Lib.hid rfl⟩
    have hb3 : Below w2.heap.size w2 w3 := by rw [← HW3.out]; exact (Below.refl _ _).alloc (Nat.le_refl _) _
    have X3 : MlBox w3 w2.heap.size ml0 (.slice none 0 0) := by rw [← HW3.out]; exact heap_alloc_new _ _
    have HX3 := Lib.hid (HX2.out.bel hb3 hw2)
    have HB3 := Lib.hid (HB2.out.trans (hb3.mono (by omega)))
    have hs3 : w3.heap.size = w2.heap.size + 1 := by rw [← HW3.out]; simp
    have HB23 := Lib.hid hb3
    rcases h with ⟨m, A', c', hml, hm64, rfl, hown⟩ | ⟨hno, rfl⟩
    · obtain ⟨q1, q2⟩ := X3.store (m := m) (A := A') (n := m.es.length) (c := c')
      obtain ⟨w4, HW4⟩ : ∃ w4, Hid (w3.setRow w2.heap.size (m.cells (.slice A' m.es.length c')).toArray = w4) := ⟨_, Lib.hid rfl⟩
      rw [HW4.out] at q1 q2
      have hf4 : Foot (fun j => j = w2.heap.size) w3 w4 := by rw [← HW4.out]; exact Foot.row (fun j => j = w2.heap.size) _ _ _ rfl
      have HST := Lib.hid q1
      have HX24 := Lib.hid q2
      have hb4 : Below w2.heap.size w2 w4 := hb3.trans (hf4.below (B := w2.heap.size) fun j hj => ⟨by omega, by omega⟩)
      have HX4 := Lib.hid (HX2.out.bel hb4 hw2)
      have HB4 := Lib.hid (HB2.out.trans (hb4.mono (by omega)))
      have HOW4 := Lib.hid (OwnE.below hown hb4)
      have hd4 := q2.load
      have hsz4 : w2.heap.size < w4.heap.size := q2.lt
      have G3 := Lib.hid (mlCheck_any m n A' c' (HAK.out w4 HB4.out) HOW4.out.es (Nat.le_refl _) (by omega))
      have HML : Hid (m.enc = bytesOf s) := by show _ = _; rw [Ml.enc, hml]; exact HNS.out.2.1
      have HINT : Hid (IntsOk m.l) := by show IntsOk _; rw [hml]; exact HNS.out.1
      simp only [Ml.v] at hd4 G3 ⊢
      clear q1 q2 hb3 hb4 hf4 X3 hown hs3 HX3 HB3 HNS hml
      rcases hmay : m.may n with _ | _
      · rw [show m.err n = 2 by unfold Ml.err; rw [hmay]; rfl] at G3
        have HNO : Hid (∀ x : Ml, x.may n = true → x.enc ≠ bytesOf s) := fun x hx he => by
          have hxi := Ml.ints_l (Ml.may_ints hx) (by have := Ml.may_es hx; omega)
          obtain rfl := Ml.enc_inj hxi HINT.out (he.trans HML.out.symm)
          rw [hmay] at hx
          cases hx
        clear hmay
        go_wp2_with (first | rw [HW3.out] | (refine wpList_store_known rfl 45 _ _ rfl ⟨w2.heap.size, 0, none⟩ _ rfl rfl HST.out ?_) | (refine wpList_load_want (by kernel_rfl) 45 _ rfl ⟨w2.heap.size, 0, none⟩ rfl hd4 ?_))
        refine (G3.out).mono ?_
        rintro e w5 ⟨rfl, hb5⟩
        obtain ⟨W', q1, q2, q3⟩ := HFAIL.out w5 (HX4.out.bel hb5 (by omega)) (HB4.out.trans (hb5.mono HB4.out.size)) HNO.out
        have HST := Lib.hid q1
        have HGW := Lib.hid q2
        have HP := Lib.hid q3
        clear q1 q2 q3 HFAIL hd4 hb5
        go_wp2_with (refine wpList_store_known rfl 45 _ _ rfl ⟨w.heap.size, 0, none⟩ _ rfl rfl HST.out ?_)
        (try simp only [Exit.inBlock, Exit.then]); refine bodyPost_ret (v := .tuple #[.agg #[.int .i64 0, .int .i64 0, .int .i64 0, .int .i64 0, .int .i64 0, .int .i64 0, .int .i64 0, .int .i64 0, .int .i64 0, .slice none 0 0, .int .i64 0, .int .i64 0, .int .i64 0, .int .i64 0, .int .i64 0, .int .i64 0, .int .i64 0, .int .i64 0], .int .i64 30]) (by rw [results_row_one (u := 5) rfl _ _ w.heap.size 45 _ (0, 0) _ rfl HGW.out Tryd.underlying45 rfl (by kernel_rfl)]; rfl) rfl HP.out
      · rw [show m.err n = 0 by unfold Ml.err; rw [hmay]; rfl] at G3
        have HMAY := Lib.hid hmay
        clear hmay
        go_wp2_with (first | rw [HW3.out] | (refine wpList_store_known rfl 45 _ _ rfl ⟨w2.heap.size, 0, none⟩ _ rfl rfl HST.out ?_) | (refine wpList_load_want (by kernel_rfl) 45 _ rfl ⟨w2.heap.size, 0, none⟩ rfl hd4 ?_))
        refine (G3.out).mono ?_
        rintro e w5 ⟨rfl, hb5⟩
        have hx5 := HX4.out.bel hb5 (by omega)
        have hd5 := (HX24.out.bel hb5 hsz4).load
        simp only [Ml.v] at hd5
        have HB5 := Lib.hid (HB4.out.trans (hb5.mono HB4.out.size))
        have ho5 := OwnE.below HOW4.out hb5
        have HST2 := Lib.hid (hx5.store (m := m) (A := A') (n := m.es.length) (c := c'))
        have HOF : Hid (OwnE (w5.setRow w.heap.size (m.cells (.slice A' m.es.length c')).toArray) w.heap.size (.slice A' m.es.length c') m.es) := owns_weaken (ho5.foot (Foot.row (fun j => j = w.heap.size) _ _ _ rfl) (fun j hj e => by have := (ho5.lt hj).1; omega)) (by omega)
        have HBF : Hid (Below w.heap.size w (w5.setRow w.heap.size (m.cells (.slice A' m.es.length c')).toArray)) := below_setRow HB5.out (Nat.le_refl _) _
        clear hx5 ho5 hb5 hd4 HFAIL
        go_wp2_with (first | (refine wpList_load_run rfl 45 _ rfl ⟨w2.heap.size, 0, none⟩ rfl hd5 ?_) | (refine wpList_store_known rfl 45 _ _ rfl ⟨w.heap.size, 0, none⟩ _ rfl rfl HST2.out.1 ?_))
        (try simp only [Exit.inBlock, Exit.then]); refine bodyPost_ret (v := .tuple #[.agg (m.cells (.slice A' m.es.length c')).toArray, .int .i64 0]) (by rw [results_row_one (u := 5) rfl _ _ w.heap.size 45 _ (0, 0) _ rfl HST2.out.2 Tryd.underlying45 rfl (by kernel_rfl)]; rfl) rfl ?_
        exact ⟨HBF.out, .inl ⟨m, A', c', HMAY.out, HML.out, rfl, HOF.out⟩⟩
    · obtain ⟨q1, q2⟩ := X3.store (m := ml0) (A := none) (n := 0) (c := 0)
      obtain ⟨w4, HW4⟩ : ∃ w4, Hid (w3.setRow w2.heap.size (ml0.cells (.slice none 0 0)).toArray = w4) := ⟨_, Lib.hid rfl⟩
      rw [HW4.out] at q1 q2
      have hf4 : Foot (fun j => j = w2.heap.size) w3 w4 := by rw [← HW4.out]; exact Foot.row (fun j => j = w2.heap.size) _ _ _ rfl
      have hb4 : Below w2.heap.size w2 w4 := hb3.trans (hf4.below (B := w2.heap.size) fun j hj => ⟨by omega, by omega⟩)
      have HST0 := Lib.hid q1
      obtain ⟨W', q3, q4, q5⟩ := HFAIL.out w4 (HX2.out.bel hb4 hw2) (HB2.out.trans (hb4.mono (by omega))) (fun x hx he => by
        have hxi := Ml.ints_l (Ml.may_ints hx) (by have := Ml.may_es hx; omega)
        have h1 := hno x (markL_inj hxi HNS.out.1 (he.trans HNS.out.2.1.symm))
        have h2 := Ml.may_es hx
        omega)
      have HST := Lib.hid q3
      have HGW := Lib.hid q4
      have HP := Lib.hid q5
      simp only [Ml.v]
      rw [HZ.out] at HST0 ⊢
      clear q1 q2 q3 q4 q5 hf4 hb4 hno HFAIL X3 hb3 hs3 HX3 HB3 HW4 HZ
      go_wp2_with (first | rw [HW3.out] | (refine wpList_store_known rfl 45 _ _ rfl ⟨w2.heap.size, 0, none⟩ _ rfl rfl HST0.out ?_) | (refine wpList_store_known rfl 45 _ _ rfl ⟨w.heap.size, 0, none⟩ _ rfl rfl HST.out ?_))
      (try simp only [Exit.inBlock, Exit.then]); refine bodyPost_ret (v := .tuple #[.agg #[.int .i64 0, .int .i64 0, .int .i64 0, .int .i64 0, .int .i64 0, .int .i64 0, .int .i64 0, .int .i64 0, .int .i64 0, .slice none 0 0, .int .i64 0, .int .i64 0, .int .i64 0, .int .i64 0, .int .i64 0, .int .i64 0, .int .i64 0, .int .i64 0], .int .i64 30]) (by rw [results_row_one (u := 5) rfl _ _ w.heap.size 45 _ (0, 0) _ rfl HGW.out Tryd.underlying45 rfl (by kernel_rfl)]; rfl) rfl HP.out
  · obtain ⟨W', q1, q2, q3⟩ := HFAIL.out w1 HX1.out HB1.out (fun m hm he => by
      have h1 := hno m.l (Ml.ints_l (Ml.may_ints hm) (by have := Ml.may_es hm; omega)) he
      have h2 := Ml.may_es hm
      rw [Ml.l_len] at h1
      omega)
    have HST := Lib.hid q1
    have HGW := Lib.hid q2
    have HP := Lib.hid q3
    clear q1 q2 q3 hno HFAIL
    go_wp2_with (refine wpList_store_known rfl 45 _ _ rfl ⟨w.heap.size, 0, none⟩ _ rfl rfl HST.out ?_)
    (try simp only [Exit.inBlock, Exit.then]); refine bodyPost_ret (v := .tuple #[.agg #[.int .i64 0, .int .i64 0, .int .i64 0, .int .i64 0, .int .i64 0, .int .i64 0, .int .i64 0, .int .i64 0, .int .i64 0, .slice none 0 0, .int .i64 0, .int .i64 0, .int .i64 0, .int .i64 0, .int .i64 0, .int .i64 0, .int .i64 0, .int .i64 0], .int .i64 30]) (by rw [results_row_one (u := 5) rfl _ _ w.heap.size 45 _ (0, 0) _ rfl HGW.out Tryd.underlying45 rfl (by kernel_rfl)]; rfl) rfl HP.out
end Go.Proofs.YtkdnhfeamibmdaaDoor
namespace Go.Proofs.YtkdnhfeamibmdaaDoor
open Go.RowKit
def q1 : Ml := ⟨5, 1, 0, 2, 3, 0, 0, 1, 5, [], ⟨0, 0, 0, 0, 0⟩, 0, 0, 0⟩
def q2 : Ml := ⟨5, 1, 0, 2, 3, 1, 0, 1, 5, [], ⟨0, 0, 0, 0, 0⟩, 0, 0, 0⟩
theorem q1_enc : q1.enc = [10, 2, 0, 4, 6, 0, 0, 2, 10, 0, 0, 0, 0, 0, 0, 0, 0, 0] := by
  show markL [5, 1, 0, 2, 3, 0, 0, 1, 5, 0, 0, 0, 0, 0, 0, 0, 0, 0] = _
  simp [markL, m0, m1, m2, m3, m5]
theorem q1_may : q1.may 3 = true := by decide +kernel
theorem q1_encR : q1.encR 3 = .tuple #[.string ⟨#[10, 2, 0, 4, 6, 0, 0, 2, 10, 0, 0, 0, 0, 0, 0, 0, 0, 0]⟩, .int .i64 0] := by
  unfold Ml.encR; rw [if_pos q1_may, q1_enc]
theorem q1_err2 : q1.err 2 = 0 := by decide +kernel
theorem q1_err1 : q1.err 1 = 2 := by decide +kernel
theorem q2_err : q2.err 3 = 2 := by decide +kernel
/-- A box made, and a message stored into it. -/
theorem box_made (w : World) (m : Ml) (A : Option Addr) (n c : Nat) : ∃ w0 w1, w.alloc (.cells #[.int .i64 0, .int .i64 0, .int .i64 0, .int .i64 0, .int .i64 0, .int .i64 0, .int .i64 0, .int .i64 0, .int .i64 0, .slice none 0 0, .int .i64 0, .int .i64 0, .int .i64 0, .int .i64 0, .int .i64 0, .int .i64 0, .int .i64 0, .int .i64 0] 45) = w0 ∧ (storeVar 45 ⟨w.heap.size, 0, none⟩ (.agg (m.cells (.slice A n c)).toArray)).run Tryd.prog w0 = .ok () w1 ∧ MlBox w1 w.heap.size m (.slice A n c) ∧ Below w.heap.size w w1 := by
  have X0 : MlBox (w.alloc (.cells #[.int .i64 0, .int .i64 0, .int .i64 0, .int .i64 0, .int .i64 0, .int .i64 0, .int .i64 0, .int .i64 0, .int .i64 0, .slice none 0 0, .int .i64 0, .int .i64 0, .int .i64 0, .int .i64 0, .int .i64 0, .int .i64 0, .int .i64 0, .int .i64 0] 45)) w.heap.size ml0 (.slice none 0 0) := heap_alloc_new _ _
  obtain ⟨h1, h2⟩ := X0.store (m := m) (A := A) (n := n) (c := c)
  exact ⟨_, _, rfl, h1, h2, below_setRow ((Below.refl _ _).alloc (Nat.le_refl _) _) (Nat.le_refl _) _⟩
theorem MlBox.set5 {w : World} {b : Nat} {m : Ml} {v : Value} (h : MlBox w b m v) (x : Int) : MlBox (w.setCell ⟨b, 5, none⟩ (.int .i64 x)) b { m with vi := x } v := by
  unfold MlBox
  rw [setCell_eq_setRow w b 5 _ _ _ _ h, setRow_heap w b _ _ _ _ h]
  rfl
set_option maxRecDepth 100000 in
set_option maxHeartbeats 8000000 in
theorem mlWorks_any {w : World} (hA : AskM w) : Calls Tryd.prog 21 #[] w (NumPost (.bool true) w) := by
  obtain ⟨cs1, HC1⟩ : ∃ cs, Hid ((q1.cells (.slice none 0 0)).toArray = cs) := ⟨_, Lib.hid rfl⟩
  obtain ⟨cs2, HC2⟩ : ∃ cs, Hid ((q2.cells (.slice none 0 0)).toArray = cs) := ⟨_, Lib.hid rfl⟩
  have HAK := Lib.hid (fun X (hX : Below w.heap.size w X) => hA.keep hX)
  have GE : Hid (∀ X, Below w.heap.size w X → Calls Tryd.prog 16 #[.agg cs1, .int .i64 3] X (NumPost (.tuple #[.string ⟨#[10, 2, 0, 4, 6, 0, 0, 2, 10, 0, 0, 0, 0, 0, 0, 0, 0, 0]⟩, .int .i64 0]) X)) := fun X hX => by
    have h := mlEncode_any q1 3 none 0 (HAK.out X hX) (esb_nil _ X) (by decide)
    rw [q1_encR] at h
    rw [← HC1.out]; exact h
  have GD := Lib.hid (fun X (hX : Below w.heap.size w X) => mlDecode_any ⟨#[10, 2, 0, 4, 6, 0, 0, 2, 10, 0, 0, 0, 0, 0, 0, 0, 0, 0]⟩ (by decide) 3 (HAK.out X hX))
  have G2 : Hid (∀ X, Below w.heap.size w X → Calls Tryd.prog 18 #[.agg cs1, .int .i64 2] X (NumPost (.int .i64 0) X)) := fun X hX => by
    have h := mlCheck_any q1 2 none 0 (HAK.out X hX) (esb_nil _ X) (Nat.le_refl _) (by decide)
    rw [q1_err2] at h
    rw [← HC1.out]; exact h
  have G1 : Hid (∀ X, Below w.heap.size w X → Calls Tryd.prog 18 #[.agg cs1, .int .i64 1] X (NumPost (.int .i64 2) X)) := fun X hX => by
    have h := mlCheck_any q1 1 none 0 (HAK.out X hX) (esb_nil _ X) (Nat.le_refl _) (by decide)
    rw [q1_err1] at h
    rw [← HC1.out]; exact h
  have G3 : Hid (∀ X, Below w.heap.size w X → Calls Tryd.prog 18 #[.agg cs2, .int .i64 3] X (NumPost (.int .i64 2) X)) := fun X hX => by
    have h := mlCheck_any q2 3 none 0 (HAK.out X hX) (esb_nil _ X) (Nat.le_refl _) (by decide)
    rw [q2_err] at h
    rw [← HC2.out]; exact h
  have HLD1 : Hid (∀ X b, MlBox X b q1 (.slice none 0 0) → (loadVar 45 ⟨b, 0, none⟩).run Tryd.prog X = .ok (.agg cs1) X) := fun X b h => by rw [← HC1.out]; exact h.load
  have HLD2 : Hid (∀ X b, MlBox X b q2 (.slice none 0 0) → (loadVar 45 ⟨b, 0, none⟩).run Tryd.prog X = .ok (.agg cs2) X) := fun X b h => by rw [← HC2.out]; exact h.load
  have HMK1 : Hid (∀ W : World, ∃ w0 w1, W.alloc (.cells #[.int .i64 0, .int .i64 0, .int .i64 0, .int .i64 0, .int .i64 0, .int .i64 0, .int .i64 0, .int .i64 0, .int .i64 0, .slice none 0 0, .int .i64 0, .int .i64 0, .int .i64 0, .int .i64 0, .int .i64 0, .int .i64 0, .int .i64 0, .int .i64 0] 45) = w0 ∧ (storeVar 45 ⟨W.heap.size, 0, none⟩ (.agg cs1)).run Tryd.prog w0 = .ok () w1 ∧ MlBox w1 W.heap.size q1 (.slice none 0 0) ∧ Below W.heap.size W w1) := fun W => by rw [← HC1.out]; exact box_made W q1 none 0 0
  clear hA
  obtain ⟨w1, HW1⟩ : ∃ w1, Hid (w.alloc (.cells #[.int .i64 5, .int .i64 1, .int .i64 0, .int .i64 2, .int .i64 3, .int .i64 0, .int .i64 0, .int .i64 1, .int .i64 5, .slice none 0 0, .int .i64 0, .int .i64 0, .int .i64 0, .int .i64 0, .int .i64 0, .int .i64 0, .int .i64 0, .int .i64 0] 45 ) = w1) := ⟨_, Lib.hid rfl⟩
  have HB1 : Hid (Below w.heap.size w w1) := by show Below _ _ _; rw [← HW1.out]; exact (Below.refl _ _).alloc (Nat.le_refl _) _
  have HX1 : Hid (MlBox w1 w.heap.size q1 (.slice none 0 0)) := by show MlBox _ _ _ _; rw [← HW1.out]; exact heap_alloc_new _ _
  have hs1 := HX1.out.lt
  go_enter Tryd.func21, Tryd.ntmps21
  go_upto_region 2 with (rw [HW1.out])
  have hl1 := HLD1.out _ _ HX1.out
  go_cut [2, 3] (fun u2 u3 wx => u2 = .string ⟨#[10, 2, 0, 4, 6, 0, 0, 2, 10, 0, 0, 0, 0, 0, 0, 0, 0, 0]⟩ ∧ u3 = .int .i64 0 ∧ Hid (Below w1.heap.size w1 wx))
  case first =>
    go_wp2_with (refine wpList_load_run rfl 45 _ rfl ⟨w.heap.size, 0, none⟩ rfl hl1 ?_)
    refine (GE.out _ HB1.out).mono ?_
    rintro e w2 ⟨rfl, hb2⟩
    have HB12 := Lib.hid hb2
    clear hb2
    go_wp2_with fail
    go_meet
    case rel => exact ⟨rfl, rfl, HB12⟩
  case rest =>
  obtain ⟨rfl, rfl, HB12⟩ := hcut
  have HB2 := Lib.hid (HB1.out.trans (HB12.out.mono HB1.out.size))
  clear hl1 GE HW1
  go_upto_region 3 with fail
  go_cut [4, 5] (fun u4 u5 wx => ∃ b A c, u4 = .pointer (some ⟨b, 0, none⟩) ∧ u5 = .int .i64 0 ∧ Hid (MlBox wx b q1 (.slice A 0 c)) ∧ Hid (OwnE wx 0 (.slice A 0 c) []) ∧ Hid (Below w1.heap.size w1 wx))
  case first =>
    go_wp2_with fail
    refine (GD.out _ HB2.out).mono ?_
    rintro e w3 ⟨hb3, h⟩
    rcases h with ⟨m, A, c, hm, he, rfl, hown⟩ | ⟨hno, _⟩
    rotate_left
    · exact absurd (by rw [q1_enc]; rfl) (hno q1 q1_may)
    obtain rfl : m = q1 := Ml.enc_inj (Ml.ints_l (Ml.may_ints hm) (by have := Ml.may_es hm; omega)) (Ml.ints_l (Ml.may_ints q1_may) (by decide)) (he.trans (by rw [q1_enc]; rfl))
    obtain ⟨v3, w4, hv3, hst3, X4, hb4⟩ := box_made w3 q1 A 0 c
    obtain ⟨cs4, HC4⟩ : ∃ cs, Hid ((q1.cells (.slice A 0 c)).toArray = cs) := ⟨_, Lib.hid rfl⟩
    rw [HC4.out] at hst3
    have HV3 := Lib.hid hv3
    have HST3 := Lib.hid hst3
    have HX4 := Lib.hid X4
    have HO4 := Lib.hid (show OwnE w4 0 (.slice A 0 c) [] from owns_weaken (OwnE.below hown hb4) (Nat.zero_le _))
    have HB14 := Lib.hid ((HB12.out.trans (hb3.mono HB12.out.size)).trans (hb4.mono (Nat.le_trans HB12.out.size hb3.size)))
    clear hb3 hb4 hm he X4 hown hv3 hst3
    simp only [Ml.v]
    rw [show (q1.cells (.slice A q1.es.length c)).toArray = cs4 from HC4.out]
    go_wp2_with (first | rw [HV3.out] | (refine wpList_store_known rfl 45 _ _ rfl ⟨w3.heap.size, 0, none⟩ _ rfl rfl HST3.out ?_))
    go_meet
    case rel => exact ⟨_, A, c, rfl, rfl, HX4, HO4, HB14⟩
  case rest =>
  obtain ⟨b4, A, c, rfl, rfl, HX4, HO4, HB14⟩ := hcut
  clear GD HB12 HB2
  go_upto_region 4 with fail
  go_cut [6] (fun u6 wx => ∃ b, u6 = .pointer (some ⟨b, 0, none⟩) ∧ Hid (MlBox wx b q1 (.slice none 0 0)) ∧ Hid (MlBox wx b4 q1 (.slice A 0 c)) ∧ Hid (OwnE wx 0 (.slice A 0 c) []) ∧ Hid (Below w1.heap.size w1 wx) ∧ b4 < b ∧ w1.heap.size ≤ b)
  case first =>
    have hl4 := HLD1.out _ _ (HX1.out.bel HB14.out hs1)
    obtain ⟨v5, w5, hv5, hst5, X5, hb5⟩ := HMK1.out wc
    have HV5 := Lib.hid hv5
    have HST5 := Lib.hid hst5
    have HX5 := Lib.hid X5
    have hlt4 := HX4.out.lt
    have HX45 := Lib.hid (HX4.out.bel hb5 hlt4)
    have HO5 := Lib.hid (HO4.out.below hb5)
    have HB15 := Lib.hid (HB14.out.trans (hb5.mono HB14.out.size))
    clear hb5 hv5 hst5 X5
    go_wp2_with (first | rw [HV5.out] | (refine wpList_load_run rfl 45 _ rfl ⟨w.heap.size, 0, none⟩ rfl hl4 ?_) | (refine wpList_store_known rfl 45 _ _ rfl ⟨wc.heap.size, 0, none⟩ _ rfl rfl HST5.out ?_))
    go_meet
    case rel => exact ⟨_, rfl, HX5, HX45, HO5, HB15, hlt4, HB14.out.size⟩
  case rest =>
  obtain ⟨b5, rfl, HX5, HX45, HO5, HB15, hlt45, hw45⟩ := hcut
  obtain ⟨w4, hw4⟩ : ∃ w4, w4 = wc := ⟨_, rfl⟩
  subst hw4
  clear HX4 HO4 HB14 HMK1
  have q5 := HX5.out.cell 5
  simp only [Ml.cells, List.getElem?_cons_zero, List.getElem?_cons_succ, q1] at q5
  have f5 : w4.frozen? ⟨b5, 5, none⟩ = false := Lib.frozen_of_heap HX5.out _
  go_upto_region 6 with fail
  obtain ⟨w5, HW5⟩ : ∃ w5, Hid (w4.setCell ⟨b5, 5, none⟩ (.int .i64 1) = w5) := ⟨_, Lib.hid rfl⟩
  rw [HW5.out]
  have hf5 : Foot (fun j => j = b5) w4 w5 := by rw [← HW5.out]; exact Foot.set (fun j => j = b5) _ _ _ rfl
  have X5 : MlBox w5 b5 q2 (.slice none 0 0) := by rw [← HW5.out]; exact HX5.out.set5 1
  have X45 := HX45.out.foot hf5 (by omega)
  have HE5 := Lib.hid (HO5.out.foot hf5 (fun j hj e => HO5.out.offm HX5.out (by rw [hj, e])))
  have hb5 := HB15.out.trans (hf5.below (B := w1.heap.size) fun j hj => ⟨Nat.lt_of_lt_of_le hj HB15.out.size, by omega⟩)
  have hs5 : b5 < w5.heap.size := X5.lt
  have HB15 := Lib.hid hb5
  have HB5 := Lib.hid (HB1.out.trans (hb5.mono HB1.out.size))
  have HX5 := Lib.hid X5
  obtain ⟨cs4, HC4⟩ : ∃ cs, Hid ((q1.cells (.slice A 0 c)).toArray = cs) := ⟨_, Lib.hid rfl⟩
  have hl1 := HLD1.out _ _ (HX1.out.bel HB15.out hs1)
  have hl2 : (loadVar 45 ⟨b4, 0, none⟩).run Tryd.prog w5 = .ok (.agg cs4) w5 := by rw [← HC4.out]; exact X45.load
  have GS : Hid (Calls Tryd.prog 20 #[.agg cs4, .agg cs1] w5 (NumPost (.bool true) w5)) := by
    have h := sameMail_any (w := w5) q1 (A := A) (c := c) (A' := none) (c' := 0) (B1 := w5.heap.size) (B2 := w5.heap.size) HE5.out.es (esb_nil _ _) (Nat.le_refl _) (Nat.le_refl _)
    show Calls _ _ _ _ _
    rw [← HC4.out, ← HC1.out]; exact h
  clear X5 X45 hb5 hf5 q5 f5 HX45 HO5 HW5 hw45 HC1 HC2 HC4
  go_wp2_with (first | (refine wpList_load_want (by kernel_rfl) 45 _ rfl ⟨b4, 0, none⟩ rfl hl2 ?_) | (refine wpList_load_want (by kernel_rfl) 45 _ rfl ⟨w.heap.size, 0, none⟩ rfl hl1 ?_))
  refine (GS.out).mono ?_
  rintro e w6 ⟨rfl, hb6⟩
  have HB16 := Lib.hid (HB15.out.trans (hb6.mono HB15.out.size))
  have HB6 := Lib.hid (HB5.out.trans (hb6.mono HB5.out.size))
  have HX6 := Lib.hid (HX5.out.bel hb6 hs5)
  have hs6 : b5 < w6.heap.size := HX6.out.lt
  clear hb6 hl1 hl2 GS
  have hl1 := HLD1.out _ _ (HX1.out.bel HB16.out hs1)
  go_wp2_with (refine wpList_load_want (by kernel_rfl) 45 _ rfl ⟨w.heap.size, 0, none⟩ rfl hl1 ?_)
  refine (G2.out _ HB6.out).mono ?_
  rintro e w7 ⟨rfl, hb7⟩
  have HB17 := Lib.hid (HB16.out.trans (hb7.mono HB16.out.size))
  have HB7 := Lib.hid (HB6.out.trans (hb7.mono HB6.out.size))
  have HX7 := Lib.hid (HX6.out.bel hb7 hs6)
  have hs7 : b5 < w7.heap.size := HX7.out.lt
  clear hb7 hl1
  have hl1 := HLD1.out _ _ (HX1.out.bel HB17.out hs1)
  go_wp2_with (refine wpList_load_want (by kernel_rfl) 45 _ rfl ⟨w.heap.size, 0, none⟩ rfl hl1 ?_)
  refine (G1.out _ HB7.out).mono ?_
  rintro e w8 ⟨rfl, hb8⟩
  have HB8 := Lib.hid (HB7.out.trans (hb8.mono HB7.out.size))
  have hl2 := HLD2.out _ _ (HX7.out.bel hb8 hs7)
  clear hb8 hl1
  go_wp2_with (refine wpList_load_want (by kernel_rfl) 45 _ rfl ⟨b5, 0, none⟩ rfl hl2 ?_)
  refine (G3.out _ HB8.out).mono ?_
  rintro e w9 ⟨rfl, hb9⟩
  have HB9 := Lib.hid (HB8.out.trans (hb9.mono HB8.out.size))
  clear hb9 hl2
  go_wp2_with fail
  go_ret
  exact ⟨rfl, HB9.out⟩
end Go.Proofs.YtkdnhfeamibmdaaDoor
