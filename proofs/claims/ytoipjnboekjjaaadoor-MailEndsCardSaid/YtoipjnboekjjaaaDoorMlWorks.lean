/-
  works() of the statements of mail: the chapter's examples.
-/
import Derived.Test.YtoipjnboekjjaaaDoorMlDec
import Derived.Test.YtoipjnboekjjaaaDoorMlSame
import Derived.Test.YtoipjnboekjjaaaDoorRcWorks
import Derived.Deep.DeepCutAuto
namespace Go.Proofs.YtoipjnboekjjaaaDoor
open Go.RowKit
def q1 : Ml := ⟨5, 1, 0, 2, 3, 0, 0, 1, 5, [], ⟨0, 0, 0, 0, 0⟩, 0, 0, 0⟩
def q2 : Ml := ⟨5, 1, 0, 2, 3, 1, 0, 1, 5, [], ⟨0, 0, 0, 0, 0⟩, 0, 0, 0⟩
theorem q1_enc : q1.enc = [10, 2, 0, 4, 6, 0, 0, 2, 10, 0, 0, 0, 0, 0, 0, 0, 0, 0] := by
  show markL [5, 1, 0, 2, 3, 0, 0, 1, 5, 0, 0, 0, 0, 0, 0, 0, 0, 0] = _
  simp [markL, m0, m1, m2, m3, m5]
theorem q1_may : q1.may 3 = true := by decide +kernel
theorem q1_encR : q1.encR 3 = .tuple #[.string ⟨#[10, 2, 0, 4, 6, 0, 0, 2, 10, 0, 0, 0, 0, 0, 0, 0, 0, 0]⟩, .int .i64 0] := by
  unfold Ml.encR; rw [if_pos q1_may, q1_enc]
theorem q1_err2 : q1.err 2 = 0 := by decide +kernel
theorem q1_err1 : q1.err 1 = 2 := by decide +kernel
theorem q2_err : q2.err 3 = 2 := by decide +kernel
/-- A box made, and a message stored into it. -/
theorem box_made (w : World) (m : Ml) (A : Option Addr) (n c : Nat) : ∃ w0 w1, w.alloc (.cells #[.int .i64 0, .int .i64 0, .int .i64 0, .int .i64 0, .int .i64 0, .int .i64 0, .int .i64 0, .int .i64 0, .int .i64 0, .slice none 0 0, .int .i64 0, .int .i64 0, .int .i64 0, .int .i64 0, .int .i64 0, .int .i64 0, .int .i64 0, .int .i64 0] 45) = w0 ∧ (storeVar 45 ⟨w.heap.size, 0, none⟩ (.agg (m.cells (.slice A n c)).toArray)).run Tryd.prog w0 = .ok () w1 ∧ MlBox w1 w.heap.size m (.slice A n c) ∧ Below w.heap.size w w1 := by
  have X0 : MlBox (w.alloc (.cells #[.int .i64 0, .int .i64 0, .int .i64 0, .int .i64 0, .int .i64 0, .int .i64 0, .int .i64 0, .int .i64 0, .int .i64 0, .slice none 0 0, .int .i64 0, .int .i64 0, .int .i64 0, .int .i64 0, .int .i64 0, .int .i64 0, .int .i64 0, .int .i64 0] 45)) w.heap.size ml0 (.slice none 0 0) := heap_alloc_new _ _
  obtain ⟨h1, h2⟩ := X0.store (m := m) (A := A) (n := n) (c := c)
  exact ⟨_, _, rfl, h1, h2, below_setRow ((Below.refl _ _).alloc (Nat.le_refl _) _) (Nat.le_refl _) _⟩
theorem MlBox.set5 {w : World} {b : Nat} {m : Ml} {v : Value} (h : MlBox w b m v) (x : Int) : MlBox (w.setCell ⟨b, 5, none⟩ (.int .i64 x)) b { m with vi := x } v := by
  unfold MlBox
  rw [setCell_eq_setRow w b 5 _ _ _ _ h, setRow_heap w b _ _ _ _ h]
  rfl
set_option maxRecDepth 100000 in
set_option maxHeartbeats 8000000 in
theorem mlWorks_any {w : World} (hA : AskM w) : Calls Tryd.prog 25 #[] w (NumPost (.bool true) w) := by
  obtain ⟨cs1, HC1⟩ : ∃ cs, Hid ((q1.cells (.slice none 0 0)).toArray = cs) := ⟨_, Lib.hid rfl⟩
  obtain ⟨cs2, HC2⟩ : ∃ cs, Hid ((q2.cells (.slice none 0 0)).toArray = cs) := ⟨_, Lib.hid rfl⟩
  have HAK := Lib.hid (fun X (hX : Below w.heap.size w X) => hA.keep hX)
  have GE : Hid (∀ X, Below w.heap.size w X → Calls Tryd.prog 20 #[.agg cs1, .int .i64 3] X (NumPost (.tuple #[.string ⟨#[10, 2, 0, 4, 6, 0, 0, 2, 10, 0, 0, 0, 0, 0, 0, 0, 0, 0]⟩, .int .i64 0]) X)) := fun X hX => by
    have h := mlEncode_any q1 3 none 0 (HAK.out X hX) (esb_nil _ X) (by decide)
    rw [q1_encR] at h
    rw [← HC1.out]; exact h
  have GD := Lib.hid (fun X (hX : Below w.heap.size w X) => mlDecode_any ⟨#[10, 2, 0, 4, 6, 0, 0, 2, 10, 0, 0, 0, 0, 0, 0, 0, 0, 0]⟩ (by decide) 3 (HAK.out X hX))
  have G2 : Hid (∀ X, Below w.heap.size w X → Calls Tryd.prog 22 #[.agg cs1, .int .i64 2] X (NumPost (.int .i64 0) X)) := fun X hX => by
    have h := mlCheck_any q1 2 none 0 (HAK.out X hX) (esb_nil _ X) (Nat.le_refl _) (by decide)
    rw [q1_err2] at h
    rw [← HC1.out]; exact h
  have G1 : Hid (∀ X, Below w.heap.size w X → Calls Tryd.prog 22 #[.agg cs1, .int .i64 1] X (NumPost (.int .i64 2) X)) := fun X hX => by
    have h := mlCheck_any q1 1 none 0 (HAK.out X hX) (esb_nil _ X) (Nat.le_refl _) (by decide)
    rw [q1_err1] at h
    rw [← HC1.out]; exact h
  have G3 : Hid (∀ X, Below w.heap.size w X → Calls Tryd.prog 22 #[.agg cs2, .int .i64 3] X (NumPost (.int .i64 2) X)) := fun X hX => by
    have h := mlCheck_any q2 3 none 0 (HAK.out X hX) (esb_nil _ X) (Nat.le_refl _) (by decide)
    rw [q2_err] at h
    rw [← HC2.out]; exact h
  have HLD1 : Hid (∀ X b, MlBox X b q1 (.slice none 0 0) → (loadVar 45 ⟨b, 0, none⟩).run Tryd.prog X = .ok (.agg cs1) X) := fun X b h => by rw [← HC1.out]; exact h.load
  have HLD2 : Hid (∀ X b, MlBox X b q2 (.slice none 0 0) → (loadVar 45 ⟨b, 0, none⟩).run Tryd.prog X = .ok (.agg cs2) X) := fun X b h => by rw [← HC2.out]; exact h.load
  have HMK1 : Hid (∀ W : World, ∃ w0 w1, W.alloc (.cells #[.int .i64 0, .int .i64 0, .int .i64 0, .int .i64 0, .int .i64 0, .int .i64 0, .int .i64 0, .int .i64 0, .int .i64 0, .slice none 0 0, .int .i64 0, .int .i64 0, .int .i64 0, .int .i64 0, .int .i64 0, .int .i64 0, .int .i64 0, .int .i64 0] 45) = w0 ∧ (storeVar 45 ⟨W.heap.size, 0, none⟩ (.agg cs1)).run Tryd.prog w0 = .ok () w1 ∧ MlBox w1 W.heap.size q1 (.slice none 0 0) ∧ Below W.heap.size W w1) := fun W => by rw [← HC1.out]; exact box_made W q1 none 0 0
  clear hA
  obtain ⟨w1, HW1⟩ : ∃ w1, Hid (w.alloc (.cells #[.int .i64 5, .int .i64 1, .int .i64 0, .int .i64 2, .int .i64 3, .int .i64 0, .int .i64 0, .int .i64 1, .int .i64 5, .slice none 0 0, .int .i64 0, .int .i64 0, .int .i64 0, .int .i64 0, .int .i64 0, .int .i64 0, .int .i64 0, .int .i64 0] 45 ) = w1) := ⟨_, Lib.hid rfl⟩
  have HB1 : Hid (Below w.heap.size w w1) := by show Below _ _ _; rw [← HW1.out]; exact (Below.refl _ _).alloc (Nat.le_refl _) _
  have HX1 : Hid (MlBox w1 w.heap.size q1 (.slice none 0 0)) := by show MlBox _ _ _ _; rw [← HW1.out]; exact heap_alloc_new _ _
  have hs1 := HX1.out.lt
  go_enter Tryd.func25, Tryd.ntmps25
  go_upto_region 2 with (rw [HW1.out])
  have hl1 := HLD1.out _ _ HX1.out
  go_cut [2, 3] (fun u2 u3 wx => u2 = .string ⟨#[10, 2, 0, 4, 6, 0, 0, 2, 10, 0, 0, 0, 0, 0, 0, 0, 0, 0]⟩ ∧ u3 = .int .i64 0 ∧ Hid (Below w1.heap.size w1 wx))
  case first =>
    go_wp2_with (refine wpList_load_run rfl 45 _ rfl ⟨w.heap.size, 0, none⟩ rfl hl1 ?_)
    refine (GE.out _ HB1.out).mono ?_
    rintro e w2 ⟨rfl, hb2⟩
    have HB12 := Lib.hid hb2
    clear hb2
    go_wp2_with fail
    go_meet
    case rel => exact ⟨rfl, rfl, HB12⟩
  case rest =>
  obtain ⟨rfl, rfl, HB12⟩ := hcut
  have HB2 := Lib.hid (HB1.out.trans (HB12.out.mono HB1.out.size))
  clear hl1 GE HW1
  go_upto_region 3 with fail
  go_cut [4, 5] (fun u4 u5 wx => ∃ b A c, u4 = .pointer (some ⟨b, 0, none⟩) ∧ u5 = .int .i64 0 ∧ Hid (MlBox wx b q1 (.slice A 0 c)) ∧ Hid (OwnE wx 0 (.slice A 0 c) []) ∧ Hid (Below w1.heap.size w1 wx))
  case first =>
    go_wp2_with fail
    refine (GD.out _ HB2.out).mono ?_
    rintro e w3 ⟨hb3, h⟩
    rcases h with ⟨m, A, c, hm, he, rfl, hown⟩ | ⟨hno, _⟩
    rotate_left
    · exact absurd (by rw [q1_enc]; rfl) (hno q1 q1_may)
    obtain rfl : m = q1 := Ml.enc_inj (Ml.ints_l (Ml.may_ints hm) (by have := Ml.may_es hm; omega)) (Ml.ints_l (Ml.may_ints q1_may) (by decide)) (he.trans (by rw [q1_enc]; rfl))
    obtain ⟨v3, w4, hv3, hst3, X4, hb4⟩ := box_made w3 q1 A 0 c
    obtain ⟨cs4, HC4⟩ : ∃ cs, Hid ((q1.cells (.slice A 0 c)).toArray = cs) := ⟨_, Lib.hid rfl⟩
    rw [HC4.out] at hst3
    have HV3 := Lib.hid hv3
    have HST3 := Lib.hid hst3
    have HX4 := Lib.hid X4
    have HO4 := Lib.hid (show OwnE w4 0 (.slice A 0 c) [] from owns_weaken (OwnE.below hown hb4) (Nat.zero_le _))
    have HB14 := Lib.hid ((HB12.out.trans (hb3.mono HB12.out.size)).trans (hb4.mono (Nat.le_trans HB12.out.size hb3.size)))
    clear hb3 hb4 hm he X4 hown hv3 hst3
    simp only [Ml.v]
    rw [show (q1.cells (.slice A q1.es.length c)).toArray = cs4 from HC4.out]
    go_wp2_with (first | rw [HV3.out] | (refine wpList_store_known rfl 45 _ _ rfl ⟨w3.heap.size, 0, none⟩ _ rfl rfl HST3.out ?_))
    go_meet
    case rel => exact ⟨_, A, c, rfl, rfl, HX4, HO4, HB14⟩
  case rest =>
  obtain ⟨b4, A, c, rfl, rfl, HX4, HO4, HB14⟩ := hcut
  clear GD HB12 HB2
  go_upto_region 4 with fail
  go_cut [6] (fun u6 wx => ∃ b, u6 = .pointer (some ⟨b, 0, none⟩) ∧ Hid (MlBox wx b q1 (.slice none 0 0)) ∧ Hid (MlBox wx b4 q1 (.slice A 0 c)) ∧ Hid (OwnE wx 0 (.slice A 0 c) []) ∧ Hid (Below w1.heap.size w1 wx) ∧ b4 < b ∧ w1.heap.size ≤ b)
  case first =>
    have hl4 := HLD1.out _ _ (HX1.out.bel HB14.out hs1)
    obtain ⟨v5, w5, hv5, hst5, X5, hb5⟩ := HMK1.out wc
    have HV5 := Lib.hid hv5
    have HST5 := Lib.hid hst5
    have HX5 := Lib.hid X5
    have hlt4 := HX4.out.lt
    have HX45 := Lib.hid (HX4.out.bel hb5 hlt4)
    have HO5 := Lib.hid (HO4.out.below hb5)
    have HB15 := Lib.hid (HB14.out.trans (hb5.mono HB14.out.size))
    clear hb5 hv5 hst5 X5
    go_wp2_with (first | rw [HV5.out] | (refine wpList_load_run rfl 45 _ rfl ⟨w.heap.size, 0, none⟩ rfl hl4 ?_) | (refine wpList_store_known rfl 45 _ _ rfl ⟨wc.heap.size, 0, none⟩ _ rfl rfl HST5.out ?_))
    go_meet
    case rel => exact ⟨_, rfl, HX5, HX45, HO5, HB15, hlt4, HB14.out.size⟩
  case rest =>
  obtain ⟨b5, rfl, HX5, HX45, HO5, HB15, hlt45, hw45⟩ := hcut
  obtain ⟨w4, hw4⟩ : ∃ w4, w4 = wc := ⟨_, rfl⟩
  subst hw4
  clear HX4 HO4 HB14 HMK1
  have q5 := HX5.out.cell 5
  simp only [Ml.cells, List.getElem?_cons_zero, List.getElem?_cons_succ, q1] at q5
  have f5 : w4.frozen? ⟨b5, 5, none⟩ = false := Lib.frozen_of_heap HX5.out _
  go_upto_region 6 with fail
  obtain ⟨w5, HW5⟩ : ∃ w5, Hid (w4.setCell ⟨b5, 5, none⟩ (.int .i64 1) = w5) := ⟨_, Lib.hid rfl⟩
  rw [HW5.out]
  have hf5 : Foot (fun j => j = b5) w4 w5 := by rw [← HW5.out]; exact Foot.set (fun j => j = b5) _ _ _ rfl
  have X5 : MlBox w5 b5 q2 (.slice none 0 0) := by rw [← HW5.out]; exact HX5.out.set5 1
  have X45 := HX45.out.foot hf5 (by omega)
  have HE5 := Lib.hid (HO5.out.foot hf5 (fun j hj e => HO5.out.offm HX5.out (by rw [hj, e])))
  have hb5 := HB15.out.trans (hf5.below (B := w1.heap.size) fun j hj => ⟨Nat.lt_of_lt_of_le hj HB15.out.size, by omega⟩)
  have hs5 : b5 < w5.heap.size := X5.lt
  have HB15 := Lib.hid hb5
  have HB5 := Lib.hid (HB1.out.trans (hb5.mono HB1.out.size))
  have HX5 := Lib.hid X5
  obtain ⟨cs4, HC4⟩ : ∃ cs, Hid ((q1.cells (.slice A 0 c)).toArray = cs) := ⟨_, Lib.hid rfl⟩
  have hl1 := HLD1.out _ _ (HX1.out.bel HB15.out hs1)
  have hl2 : (loadVar 45 ⟨b4, 0, none⟩).run Tryd.prog w5 = .ok (.agg cs4) w5 := by rw [← HC4.out]; exact X45.load
  have GS : Hid (Calls Tryd.prog 24 #[.agg cs4, .agg cs1] w5 (NumPost (.bool true) w5)) := by
    have h := sameMail_any (w := w5) q1 (A := A) (c := c) (A' := none) (c' := 0) (B1 := w5.heap.size) (B2 := w5.heap.size) HE5.out.es (esb_nil _ _) (Nat.le_refl _) (Nat.le_refl _)
    show Calls _ _ _ _ _
    rw [← HC4.out, ← HC1.out]; exact h
  clear X5 X45 hb5 hf5 q5 f5 HX45 HO5 HW5 hw45 HC1 HC2 HC4
  go_wp2_with (first | (refine wpList_load_want (by kernel_rfl) 45 _ rfl ⟨b4, 0, none⟩ rfl hl2 ?_) | (refine wpList_load_want (by kernel_rfl) 45 _ rfl ⟨w.heap.size, 0, none⟩ rfl hl1 ?_))
  refine (GS.out).mono ?_
  rintro e w6 ⟨rfl, hb6⟩
  have HB16 := Lib.hid (HB15.out.trans (hb6.mono HB15.out.size))
  have HB6 := Lib.hid (HB5.out.trans (hb6.mono HB5.out.size))
  have HX6 := Lib.hid (HX5.out.bel hb6 hs5)
  have hs6 : b5 < w6.heap.size := HX6.out.lt
  clear hb6 hl1 hl2 GS
  have hl1 := HLD1.out _ _ (HX1.out.bel HB16.out hs1)
  go_wp2_with (refine wpList_load_want (by kernel_rfl) 45 _ rfl ⟨w.heap.size, 0, none⟩ rfl hl1 ?_)
  refine (G2.out _ HB6.out).mono ?_
  rintro e w7 ⟨rfl, hb7⟩
  have HB17 := Lib.hid (HB16.out.trans (hb7.mono HB16.out.size))
  have HB7 := Lib.hid (HB6.out.trans (hb7.mono HB6.out.size))
  have HX7 := Lib.hid (HX6.out.bel hb7 hs6)
  have hs7 : b5 < w7.heap.size := HX7.out.lt
  clear hb7 hl1
  have hl1 := HLD1.out _ _ (HX1.out.bel HB17.out hs1)
  go_wp2_with (refine wpList_load_want (by kernel_rfl) 45 _ rfl ⟨w.heap.size, 0, none⟩ rfl hl1 ?_)
  refine (G1.out _ HB7.out).mono ?_
  rintro e w8 ⟨rfl, hb8⟩
  have HB8 := Lib.hid (HB7.out.trans (hb8.mono HB7.out.size))
  have hl2 := HLD2.out _ _ (HX7.out.bel hb8 hs7)
  clear hb8 hl1
  go_wp2_with (refine wpList_load_want (by kernel_rfl) 45 _ rfl ⟨b5, 0, none⟩ rfl hl2 ?_)
  refine (G3.out _ HB8.out).mono ?_
  rintro e w9 ⟨rfl, hb9⟩
  have HB9 := Lib.hid (HB8.out.trans (hb9.mono HB8.out.size))
  clear hb9 hl2
  go_wp2_with fail
  go_ret
  exact ⟨rfl, HB9.out⟩
end Go.Proofs.YtoipjnboekjjaaaDoor
