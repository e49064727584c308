/-
  The law MailBack: for every input the call returns true, and each argument reads afterwards as it read before. No condition.
-/
import Derived.Test.YtoipjnboekjjaaaDoorMlWorks
import Derived.Test.YtoipjnboekjjaaaDoorCards
import Derived.Test.YtoipjnboekjjaaaDoorTie
import Derived.Test.YtoipjnboekjjaaaDoorMlLaid
import Derived.WalkKit
import Derived.Deep.DeepHandedRow
import Derived.Lib.LaidTab
import Derived.ProofKit
import Derived.OpenShut
import Derived.ShutString
namespace Go.Proofs.YtoipjnboekjjaaaDoor.mailBackW
open Go.RowKit
set_option maxRecDepth 100000 in
set_option maxHeartbeats 8000000 in
theorem walk (m : Ml) (A : Option Addr) (c : Nat) (s : ByteArray) (n : Int) (w : World) (hA : AskM w) (hE : EsB w.heap.size w (.slice A m.es.length c) m.es) (_ : m.ints) (hs : s.size ≤ maxLen) (_ : (Lit.int .i64 n).wf) :
    Calls Tryd.prog 7 #[m.v (.slice A m.es.length c), .string s, .int .i64 n] w fun e w' => e = .returned (.bool true) ∧ Below w.heap.size w w' := by
  obtain ⟨w0, HW0⟩ : ∃ w0, Hid (w.alloc (.cells (m.cells (.slice A m.es.length c)).toArray 45 ) = w0) := ⟨_, Lib.hid rfl⟩
  have hb0 : Below w.heap.size w w0 := by rw [← HW0.out]; exact (Below.refl _ _).alloc (Nat.le_refl _) _
  have X0 : MlBox w0 w.heap.size m (.slice A m.es.length c) := by rw [← HW0.out]; exact MlBox.new _ _ _
  have hs0 : w.heap.size < w0.heap.size := by rw [← HW0.out]; simp
  have HB0 := Lib.hid hb0
  have HLD := Lib.hid (fun X (hX : Below w0.heap.size w0 X) => (X0.bel hX hs0).load)
  have c9 := X0.cell 9
  simp only [Ml.cells, List.getElem?_cons_zero, List.getElem?_cons_succ] at c9
  have HAK := Lib.hid (fun X (hX : Below w.heap.size w X) => hA.keep hX)
  have HWK := Lib.hid (fun X (hX : Below w.heap.size w X) => mlWorks_any (hA.keep hX))
  have HCK := Lib.hid (fun (hn : m.es.length ≤ 500) X (hX : Below w.heap.size w X) => mlCheck_any m n A c (hA.keep hX) (EsB.eq_1 .. ▸ RdB.below hE hX (Nat.le_refl _)) hX.size (by omega))
  have HEN := Lib.hid (fun (hn : m.es.length ≤ 500) X (hX : Below w.heap.size w X) => mlEncode_any m n A c (hA.keep hX) (RdB.mono (RdB.below hE hX (Nat.le_refl _)) hX.size) (by omega))
  have HSM := Lib.hid (fun X (hX : Below w.heap.size w X) {D : Option Addr} {d B : Nat} (hb : EsB B X (.slice D m.es.length d) m.es) (h3 : B ≤ X.heap.size) => sameMail_any m hb (RdB.below hE hX (Nat.le_refl _) : EsB _ X (.slice A m.es.length c) m.es) h3 hX.size)
  have hlen : m.es.length ≤ 9223372036854775807 := by
    obtain ⟨_, _, _, h1, h2, -⟩ := hE.len
    unfold maxLen at h2
    omega
  unfold maxLen at hs
  have hd0 := HLD.out w0 (Below.refl _ _)
  simp only [Ml.v] at *
  clear hA hE hb0 X0
  by_cases hbig : 500 < m.es.length
  · have t : decide (500 < (m.es.length : Int)) = true := decide_eq_true (by omega)
    clear HEN HCK HLD HSM
    go_enter Tryd.func7, Tryd.ntmps7
    go_wp2_with (rw [HW0.out])
    go_ret
    exact ⟨rfl, HB0.out⟩
  have t : decide (500 < (m.es.length : Int)) = false := decide_eq_false (by omega)
  by_cases hbs : 20000 < s.size
  · have t2 : decide (20000 < (s.size : Int)) = true := decide_eq_true (by omega)
    clear HEN HCK HLD HSM hbig
    go_enter Tryd.func7, Tryd.ntmps7
    go_wp2_with (rw [HW0.out])
    go_ret
    exact ⟨rfl, HB0.out⟩
  have t2 : decide (20000 < (s.size : Int)) = false := decide_eq_false (by omega)
  have HC2 := Lib.hid (HCK.out (by omega))
  have HE2 := Lib.hid (HEN.out (by omega))
  have HDS := Lib.hid (fun X (hX : Below w.heap.size w X) => mlDecode_any s (by omega) n (HAK.out X hX))
  clear HCK HEN hbig hbs hlen
  rcases hmay : m.may n with _ | _
  · rw [show m.err n = 2 by unfold Ml.err; rw [hmay]; rfl] at HC2
    rw [show m.encR n = .tuple #[.string ⟨#[]⟩, .int .i64 2] by unfold Ml.encR; rw [hmay]; rfl] at HE2
    clear hmay HSM
    go_enter Tryd.func7, Tryd.ntmps7
    go_wp2_with (first | rw [HW0.out] | (refine wpList_load_run rfl 45 _ rfl ⟨w.heap.size, 0, none⟩ rfl hd0 ?_))
    refine (HE2.out _ HB0.out).mono ?_
    rintro e w1 ⟨rfl, hb1⟩
    have HB01 := Lib.hid hb1
    have HB1 := Lib.hid (HB0.out.trans (hb1.mono HB0.out.size))
    clear hb1 hd0 c9
    have hd1 := HLD.out w1 HB01.out
    go_wp2_with (refine wpList_load_run rfl 45 _ rfl ⟨w.heap.size, 0, none⟩ rfl hd1 ?_)
    refine (HC2.out _ HB1.out).mono ?_
    rintro e w2 ⟨rfl, hb2⟩
    have HB02 := Lib.hid (HB01.out.trans (hb2.mono HB01.out.size))
    have HB2 := Lib.hid (HB1.out.trans (hb2.mono HB1.out.size))
    clear hb2 hd1 HC2 HE2 t t2
    have HBW := HB2
    clear HB01 HB02 HB1 HB2 HLD HW0 HB0
    go_upto_region 12 with fail
    go_cut [11, 12] (fun u11 u12 wx => Hid (Below w.heap.size w wx) ∧ ((∃ (x : Ml) (B : Option Addr) (d b : Nat), u11 = .pointer (some ⟨b, 0, none⟩) ∧ u12 = .int .i64 0 ∧ Hid (x.may n = true) ∧ Hid (x.enc = bytesOf s) ∧ Hid (MlBox wx b x (.slice B x.es.length d)) ∧ Hid (OwnE wx 0 (.slice B x.es.length d) x.es)) ∨ (∃ b, u11 = .pointer (some ⟨b, 0, none⟩) ∧ u12 = .int .i64 30 ∧ Hid (MlBox wx b ml0 (.slice none 0 0)))))
    case first =>
      go_wp2_with fail
      refine (HDS.out _ HBW.out).mono ?_
      rintro e w6 ⟨hb6, h⟩
      rcases h with ⟨x, B, d, hxm, hxe, rfl, hown⟩ | ⟨_, rfl⟩
      · obtain ⟨v6, w7, hv6, hst6, X7, hb7⟩ := box_made w6 x B x.es.length d
        have HV6 := Lib.hid hv6
        have HST6 := Lib.hid hst6
        have HX7 := Lib.hid X7
        have HO7 := Lib.hid (show OwnE w7 0 (.slice B x.es.length d) x.es from owns_weaken (OwnE.below hown hb7) (Nat.zero_le _))
        have HB7 := Lib.hid ((HBW.out.trans (hb6.mono HBW.out.size)).trans (hb7.mono (Nat.le_trans HBW.out.size hb6.size)))
        have HXM := Lib.hid hxm
        have HXE := Lib.hid hxe
        simp only [Ml.v]
        clear hb6 hb7 hv6 hst6 X7 hown hxm hxe
        go_wp2_with (first | rw [HV6.out] | (refine wpList_store_known rfl 45 _ _ rfl ⟨w6.heap.size, 0, none⟩ _ rfl rfl HST6.out ?_))
        go_meet
        case rel => exact ⟨HB7, .inl ⟨x, B, d, _, rfl, rfl, HXM, HXE, HX7, HO7⟩⟩
      · obtain ⟨v6, w7, hv6, hst6, X7, hb7⟩ := box_made w6 ml0 none 0 0
        obtain ⟨cs, HCS⟩ : ∃ cs, Hid ((ml0.cells (.slice none 0 0)).toArray = cs) := ⟨_, Lib.hid rfl⟩
        have HV6 := Lib.hid hv6
        rw [HCS.out] at hst6
        have HST6 := Lib.hid hst6
        have HX7 := Lib.hid X7
        have HB7 := Lib.hid ((HBW.out.trans (hb6.mono HBW.out.size)).trans (hb7.mono (Nat.le_trans HBW.out.size hb6.size)))
        simp only [Ml.v]
        rw [HCS.out]
        clear hb6 hb7 hv6 hst6 X7
        go_wp2_with (first | rw [HV6.out] | (refine wpList_store_known rfl 45 _ _ rfl ⟨w6.heap.size, 0, none⟩ _ rfl rfl HST6.out ?_))
        go_meet
        case rel => exact ⟨HB7, .inr ⟨_, rfl, rfl, HX7⟩⟩
    case rest =>
    obtain ⟨HB7, h⟩ := hcut
    clear HDS HBW
    rcases h with ⟨x, B, d, b, rfl, rfl, HXM, HXE, HX7, HO7⟩ | ⟨b, rfl, rfl, HX7⟩
    · have hx64 := Ml.may_es HXM.out
      have hd7 := HX7.out.load
      have hlt7 := HX7.out.lt
      have GE := Lib.hid (mlEncode_any x n B d (HAK.out _ HB7.out) HO7.out.es (by omega))
      have hxs : (⟨x.enc.toArray⟩ : ByteArray) = s := by rw [HXE.out]; simp [bytesOf]
      rw [show x.encR n = .tuple #[.string s, .int .i64 0] by unfold Ml.encR; rw [HXM.out, ← hxs]; rfl] at GE
      have GC := Lib.hid (fun X (hX : Below wc.heap.size wc X) => mlCheck_any x n B d (HAK.out X (HB7.out.trans (hX.mono HB7.out.size))) (OwnE.below HO7.out hX).es (Nat.le_refl _) (by omega))
      rw [show x.err n = 0 by unfold Ml.err; rw [HXM.out]; rfl] at GC
      have hss : (s.toList == s.toList) = true := beq_self_eq_true _
      simp only [Ml.v] at hd7 GE GC
      clear hx64 hxs HXM HXE HO7
      go_wp2_with (refine wpList_load_run rfl 45 _ rfl ⟨b, 0, none⟩ rfl hd7 ?_)
      refine (GE.out).mono ?_
      rintro e w8 ⟨rfl, hb8⟩
      have HB8 := Lib.hid (HB7.out.trans (hb8.mono HB7.out.size))
      have GC2 := Lib.hid (GC.out _ hb8)
      have hd8 := (HX7.out.bel hb8 hlt7).load
      simp only [Ml.v] at hd8
      clear hb8 hd7 GE GC
      go_wp2_with (refine wpList_load_want (by kernel_rfl) 45 _ rfl ⟨b, 0, none⟩ rfl hd8 ?_)
      refine (GC2.out).mono ?_
      rintro e w9 ⟨rfl, hb9⟩
      have HB9 := Lib.hid (HB8.out.trans (hb9.mono HB8.out.size))
      clear hb9 hd8
      go_wp2_with fail
      refine (HWK.out _ HB9.out).mono ?_
      rintro e w10 ⟨rfl, hb10⟩
      have HB10 := Lib.hid (HB9.out.trans (hb10.mono HB9.out.size))
      clear hb10
      go_wp2_with fail
      go_ret
      exact ⟨rfl, HB10.out⟩
    · have hd7 := HX7.out.load
      have GS : Hid (Calls Tryd.prog 24 #[.agg (ml0.cells (.slice none 0 0)).toArray, .agg #[.int .i64 0, .int .i64 0, .int .i64 0, .int .i64 0, .int .i64 0, .int .i64 0, .int .i64 0, .int .i64 0, .int .i64 0, .slice none 0 0, .int .i64 0, .int .i64 0, .int .i64 0, .int .i64 0, .int .i64 0, .int .i64 0, .int .i64 0, .int .i64 0]] wc (NumPost (.bool true) wc)) := sameMail_any (w := wc) ml0 (A := none) (c := 0) (A' := none) (c' := 0) (B1 := 0) (B2 := 0) (esb_nil _ _) (esb_nil _ _) (Nat.zero_le _) (Nat.zero_le _)
      simp only [Ml.v] at hd7
      obtain ⟨cs, HCS⟩ : ∃ cs, Hid ((ml0.cells (.slice none 0 0)).toArray = cs) := ⟨_, Lib.hid rfl⟩
      rw [HCS.out] at hd7 GS
      go_wp2_with (refine wpList_load_want (by kernel_rfl) 45 _ rfl ⟨b, 0, none⟩ rfl hd7 ?_)
      refine (GS.out).mono ?_
      rintro e w8 ⟨rfl, hb8⟩
      have HB8 := Lib.hid (HB7.out.trans (hb8.mono HB7.out.size))
      clear hb8 hd7 GS
      go_wp2_with fail
      refine (HWK.out _ HB8.out).mono ?_
      rintro e w9 ⟨rfl, hb9⟩
      have HB9 := Lib.hid (HB8.out.trans (hb9.mono HB8.out.size))
      clear hb9
      go_wp2_with fail
      go_ret
      exact ⟨rfl, HB9.out⟩
  · rw [show m.err n = 0 by unfold Ml.err; rw [hmay]; rfl] at HC2
    obtain ⟨S, HS⟩ : ∃ S : ByteArray, Hid (S = ⟨m.enc.toArray⟩) := ⟨_, Lib.hid rfl⟩
    rw [show m.encR n = .tuple #[.string S, .int .i64 0] by unfold Ml.encR; rw [hmay, HS.out]; rfl] at HE2
    have hfit := Ml.fits hmay
    have HBS : Hid (bytesOf S = m.enc) := by show _ = _; rw [HS.out]; simp [bytesOf]
    have HSZ : Hid (S.size ≤ 1000000) := by show S.size ≤ _; rw [HS.out]; show m.enc.toArray.size ≤ _; rw [List.size_toArray]; omega
    have HDM := Lib.hid (fun X (hX : Below w.heap.size w X) => mlDecode_any S HSZ.out n (HAK.out X hX))
    rw [HBS.out] at HDM
    have HMAY := Lib.hid hmay
    clear hmay hfit
    go_enter Tryd.func7, Tryd.ntmps7
    go_wp2_with (first | rw [HW0.out] | (refine wpList_load_run rfl 45 _ rfl ⟨w.heap.size, 0, none⟩ rfl hd0 ?_))
    refine (HE2.out _ HB0.out).mono ?_
    rintro e w1 ⟨rfl, hb1⟩
    have HB01 := Lib.hid hb1
    have HB1 := Lib.hid (HB0.out.trans (hb1.mono HB0.out.size))
    clear hb1 hd0 c9
    have hd1 := HLD.out w1 HB01.out
    go_wp2_with (refine wpList_load_run rfl 45 _ rfl ⟨w.heap.size, 0, none⟩ rfl hd1 ?_)
    refine (HC2.out _ HB1.out).mono ?_
    rintro e w2 ⟨rfl, hb2⟩
    have HB02 := Lib.hid (HB01.out.trans (hb2.mono HB01.out.size))
    have HB2 := Lib.hid (HB1.out.trans (hb2.mono HB1.out.size))
    clear hb2 hd1 HC2 HE2 t t2
    go_upto_region 7 with fail
    go_cut [9, 10] (fun u9 u10 wx => ∃ (B : Option Addr) (d b : Nat), u9 = .pointer (some ⟨b, 0, none⟩) ∧ u10 = .int .i64 0 ∧ Hid (MlBox wx b m (.slice B m.es.length d)) ∧ Hid (OwnE wx 0 (.slice B m.es.length d) m.es) ∧ Hid (Below w0.heap.size w0 wx) ∧ Hid (Below w.heap.size w wx))
    case first =>
      go_wp2_with fail
      refine (HDM.out _ HB2.out).mono ?_
      rintro e w3 ⟨hb3, h⟩
      rcases h with ⟨x, B, d, hxm, hxe, rfl, hown⟩ | ⟨hno, _⟩
      rotate_left
      · exact absurd rfl (hno m HMAY.out)
      obtain rfl : x = m := Ml.enc_inj (Ml.ints_l (Ml.may_ints hxm) (by have := Ml.may_es hxm; omega)) (Ml.ints_l (Ml.may_ints HMAY.out) (by have := Ml.may_es HMAY.out; omega)) hxe
      obtain ⟨v3, w4, hv3, hst3, X4, hb4⟩ := box_made w3 x B x.es.length d
      have HV3 := Lib.hid hv3
      have HST3 := Lib.hid hst3
      have HX4 := Lib.hid X4
      have HO4 := Lib.hid (show OwnE w4 0 (.slice B x.es.length d) x.es from owns_weaken (OwnE.below hown hb4) (Nat.zero_le _))
      have hb24 : Below w2.heap.size w2 w4 := hb3.trans (hb4.mono hb3.size)
      have HB04 := Lib.hid (HB02.out.trans (hb24.mono HB02.out.size))
      have HB4 := Lib.hid (HB2.out.trans (hb24.mono HB2.out.size))
      simp only [Ml.v]
      clear hb3 hb4 hb24 hv3 hst3 X4 hown hxm hxe
      go_wp2_with (first | rw [HV3.out] | (refine wpList_store_known rfl 45 _ _ rfl ⟨w3.heap.size, 0, none⟩ _ rfl rfl HST3.out ?_))
      go_meet
      case rel => exact ⟨B, d, _, rfl, rfl, HX4, HO4, HB04, HB4⟩
    case rest =>
    obtain ⟨B, d, b, rfl, rfl, HX4, HO4, HB04, HB4⟩ := hcut
    have hd4 := HX4.out.load
    have hd4' := HLD.out _ HB04.out
    have GS := Lib.hid (HSM.out _ HB4.out HO4.out.es (Nat.le_refl _))
    simp only [Ml.v] at hd4
    obtain ⟨w4, hw4⟩ : ∃ w4, w4 = wc := ⟨_, rfl⟩
    subst hw4
    clear HDM HB2 HB02 HB01 HB1
    go_wp2_with (first | (refine wpList_load_want (by kernel_rfl) 45 _ rfl ⟨b, 0, none⟩ rfl hd4 ?_) | (refine wpList_load_want (by kernel_rfl) 45 _ rfl ⟨w.heap.size, 0, none⟩ rfl hd4' ?_))
    refine (GS.out).mono ?_
    rintro e w5 ⟨rfl, hb5⟩
    have HBW := Lib.hid (HB4.out.trans (hb5.mono HB4.out.size))
    clear hb5 hd4 hd4' GS HSM HLD HW0 HB0 HB4 HB04 HX4 HO4
    go_upto_region 12 with fail
    go_cut [11, 12] (fun u11 u12 wx => Hid (Below w.heap.size w wx) ∧ ((∃ (x : Ml) (B : Option Addr) (d b : Nat), u11 = .pointer (some ⟨b, 0, none⟩) ∧ u12 = .int .i64 0 ∧ Hid (x.may n = true) ∧ Hid (x.enc = bytesOf s) ∧ Hid (MlBox wx b x (.slice B x.es.length d)) ∧ Hid (OwnE wx 0 (.slice B x.es.length d) x.es)) ∨ (∃ b, u11 = .pointer (some ⟨b, 0, none⟩) ∧ u12 = .int .i64 30 ∧ Hid (MlBox wx b ml0 (.slice none 0 0)))))
    case first =>
      go_wp2_with fail
      refine (HDS.out _ HBW.out).mono ?_
      rintro e w6 ⟨hb6, h⟩
      rcases h with ⟨x, B, d, hxm, hxe, rfl, hown⟩ | ⟨_, rfl⟩
      · obtain ⟨v6, w7, hv6, hst6, X7, hb7⟩ := box_made w6 x B x.es.length d
        have HV6 := Lib.hid hv6
        have HST6 := Lib.hid hst6
        have HX7 := Lib.hid X7
        have HO7 := Lib.hid (show OwnE w7 0 (.slice B x.es.length d) x.es from owns_weaken (OwnE.below hown hb7) (Nat.zero_le _))
        have HB7 := Lib.hid ((HBW.out.trans (hb6.mono HBW.out.size)).trans (hb7.mono (Nat.le_trans HBW.out.size hb6.size)))
        have HXM := Lib.hid hxm
        have HXE := Lib.hid hxe
        simp only [Ml.v]
        clear hb6 hb7 hv6 hst6 X7 hown hxm hxe
        go_wp2_with (first | rw [HV6.out] | (refine wpList_store_known rfl 45 _ _ rfl ⟨w6.heap.size, 0, none⟩ _ rfl rfl HST6.out ?_))
        go_meet
        case rel => exact ⟨HB7, .inl ⟨x, B, d, _, rfl, rfl, HXM, HXE, HX7, HO7⟩⟩
      · obtain ⟨v6, w7, hv6, hst6, X7, hb7⟩ := box_made w6 ml0 none 0 0
        obtain ⟨cs, HCS⟩ : ∃ cs, Hid ((ml0.cells (.slice none 0 0)).toArray = cs) := ⟨_, Lib.hid rfl⟩
        have HV6 := Lib.hid hv6
        rw [HCS.out] at hst6
        have HST6 := Lib.hid hst6
        have HX7 := Lib.hid X7
        have HB7 := Lib.hid ((HBW.out.trans (hb6.mono HBW.out.size)).trans (hb7.mono (Nat.le_trans HBW.out.size hb6.size)))
        simp only [Ml.v]
        rw [HCS.out]
        clear hb6 hb7 hv6 hst6 X7
        go_wp2_with (first | rw [HV6.out] | (refine wpList_store_known rfl 45 _ _ rfl ⟨w6.heap.size, 0, none⟩ _ rfl rfl HST6.out ?_))
        go_meet
        case rel => exact ⟨HB7, .inr ⟨_, rfl, rfl, HX7⟩⟩
    case rest =>
    obtain ⟨HB7, h⟩ := hcut
    clear HDS HBW
    rcases h with ⟨x, B, d, b, rfl, rfl, HXM, HXE, HX7, HO7⟩ | ⟨b, rfl, rfl, HX7⟩
    · have hx64 := Ml.may_es HXM.out
      have hd7 := HX7.out.load
      have hlt7 := HX7.out.lt
      have GE := Lib.hid (mlEncode_any x n B d (HAK.out _ HB7.out) HO7.out.es (by omega))
      have hxs : (⟨x.enc.toArray⟩ : ByteArray) = s := by rw [HXE.out]; simp [bytesOf]
      rw [show x.encR n = .tuple #[.string s, .int .i64 0] by unfold Ml.encR; rw [HXM.out, ← hxs]; rfl] at GE
      have GC := Lib.hid (fun X (hX : Below wc.heap.size wc X) => mlCheck_any x n B d (HAK.out X (HB7.out.trans (hX.mono HB7.out.size))) (OwnE.below HO7.out hX).es (Nat.le_refl _) (by omega))
      rw [show x.err n = 0 by unfold Ml.err; rw [HXM.out]; rfl] at GC
      have hss : (s.toList == s.toList) = true := beq_self_eq_true _
      simp only [Ml.v] at hd7 GE GC
      clear hx64 hxs HXM HXE HO7
      go_wp2_with (refine wpList_load_run rfl 45 _ rfl ⟨b, 0, none⟩ rfl hd7 ?_)
      refine (GE.out).mono ?_
      rintro e w8 ⟨rfl, hb8⟩
      have HB8 := Lib.hid (HB7.out.trans (hb8.mono HB7.out.size))
      have GC2 := Lib.hid (GC.out _ hb8)
      have hd8 := (HX7.out.bel hb8 hlt7).load
      simp only [Ml.v] at hd8
      clear hb8 hd7 GE GC
      go_wp2_with (refine wpList_load_want (by kernel_rfl) 45 _ rfl ⟨b, 0, none⟩ rfl hd8 ?_)
      refine (GC2.out).mono ?_
      rintro e w9 ⟨rfl, hb9⟩
      have HB9 := Lib.hid (HB8.out.trans (hb9.mono HB8.out.size))
      clear hb9 hd8
      go_wp2_with fail
      refine (HWK.out _ HB9.out).mono ?_
      rintro e w10 ⟨rfl, hb10⟩
      have HB10 := Lib.hid (HB9.out.trans (hb10.mono HB9.out.size))
      clear hb10
      go_wp2_with fail
      go_ret
      exact ⟨rfl, HB10.out⟩
    · have hd7 := HX7.out.load
      have GS : Hid (Calls Tryd.prog 24 #[.agg (ml0.cells (.slice none 0 0)).toArray, .agg #[.int .i64 0, .int .i64 0, .int .i64 0, .int .i64 0, .int .i64 0, .int .i64 0, .int .i64 0, .int .i64 0, .int .i64 0, .slice none 0 0, .int .i64 0, .int .i64 0, .int .i64 0, .int .i64 0, .int .i64 0, .int .i64 0, .int .i64 0, .int .i64 0]] wc (NumPost (.bool true) wc)) := sameMail_any (w := wc) ml0 (A := none) (c := 0) (A' := none) (c' := 0) (B1 := 0) (B2 := 0) (esb_nil _ _) (esb_nil _ _) (Nat.zero_le _) (Nat.zero_le _)
      simp only [Ml.v] at hd7
      obtain ⟨cs, HCS⟩ : ∃ cs, Hid ((ml0.cells (.slice none 0 0)).toArray = cs) := ⟨_, Lib.hid rfl⟩
      rw [HCS.out] at hd7 GS
      go_wp2_with (refine wpList_load_want (by kernel_rfl) 45 _ rfl ⟨b, 0, none⟩ rfl hd7 ?_)
      refine (GS.out).mono ?_
      rintro e w8 ⟨rfl, hb8⟩
      have HB8 := Lib.hid (HB7.out.trans (hb8.mono HB7.out.size))
      clear hb8 hd7 GS
      go_wp2_with fail
      refine (HWK.out _ HB8.out).mono ?_
      rintro e w9 ⟨rfl, hb9⟩
      have HB9 := Lib.hid (HB8.out.trans (hb9.mono HB8.out.size))
      clear hb9
      go_wp2_with fail
      go_ret
      exact ⟨rfl, HB9.out⟩
end Go.Proofs.YtoipjnboekjjaaaDoor.mailBackW

namespace Go.Proofs.YtoipjnboekjjaaaDoor.mailBack
open Go.ChangeShapes Go.WideShapes Go.ChangeAt Go.RowKit
open Go.ChangeMaps (open_string shut_string)
theorem own : ownKnob Tryd.prog.godebug = none := by kernel_rfl
theorem laidOut : laidOutB Tryd.prog = true := by kernel_rfl
noncomputable def laidWorld (os : Os) : World :=
  { World.holding Tryd.prog os ⟨#[], #[], []⟩ with heap := ((((((((((World.holding Tryd.prog os ⟨#[], #[], []⟩).heap.modify 0 fun
      | .cells _ t frozen => .cells #[.int .i64 1, .int .i64 2147483647, .int .i64 0, .int .i64 3, .int .i64 (-1), .int .i64 2147483647, .int .i64 1, .int .i64 4, .int .i64 (-1048576), .int .i64 1048576] t frozen
      | o => o).modify 1 fun
      | .cells _ t frozen => .cells #[.int .i64 0, .int .i64 3] t frozen
      | o => o).modify 2 fun
      | .cells _ t frozen => .cells #[.int .i64 1, .int .i64 1048576] t frozen
      | o => o).modify 4 fun
      | .cells _ t frozen => .cells #[.int .i64 0, .int .i64 1048576] t frozen
      | o => o).modify 3 fun
      | .cells _ t frozen => .cells #[.int .i64 0, .int .i64 64] t frozen
      | o => o).modify 6 fun
      | .cells _ t frozen => .cells #[.int .i64 0, .int .i64 63] t frozen
      | o => o).modify 5 fun
      | .cells _ t frozen => .cells #[.int .i64 0, .int .i64 256] t frozen
      | o => o).modify 7 fun
      | .cells _ t frozen => .cells #[.int .u64 0, .int .u64 35, .int .u64 119, .int .u64 3, .int .u64 123, .int .u64 51, .int .u64 19, .int .u64 128, .int .u64 257, .int .u64 3, .int .u64 3] t frozen
      | o => o).modify 8 fun
      | .cells _ t frozen => .cells #[.int .u64 1, .int .i64 0, .int .i64 3, .int .u64 2, .int .i64 1, .int .i64 1048576, .int .u64 4, .int .i64 0, .int .i64 1048576, .int .u64 8, .int .i64 0, .int .i64 64, .int .u64 16, .int .i64 0, .int .i64 64, .int .u64 32, .int .i64 0, .int .i64 1073741824] t frozen
      | o => o) }
theorem laid_met (os : Os) : laidMet Tryd.prog Rows.mailBackRow.laid ((laidWorld os).forCall (fun _ _ => 0) ⟨#[], #[.agg #[.int .i64 0, .int .i64 0, .int .i64 0, .int .i64 0, .int .i64 0, .int .i64 0, .int .i64 0, .int .i64 0, .int .i64 0, .slice none 0 0, .int .i64 0, .int .i64 0, .int .i64 0, .int .i64 0, .int .i64 0, .int .i64 0, .int .i64 0, .int .i64 0], .string ByteArray.empty, .int .i64 0], []⟩).memory :=
  laidMet_of_run' 8 (by kernel_rfl) (by kernel_rfl)
theorem reads (os : Os) {H : Type} (enc : TypeId × Value → H) : ∃ places, DataW.whole enc Tryd.prog ((laidWorld os).forCall (fun _ _ => 0) ⟨#[], #[.agg #[.int .i64 0, .int .i64 0, .int .i64 0, .int .i64 0, .int .i64 0, .int .i64 0, .int .i64 0, .int .i64 0, .int .i64 0, .slice none 0 0, .int .i64 0, .int .i64 0, .int .i64 0, .int .i64 0, .int .i64 0, .int .i64 0, .int .i64 0, .int .i64 0], .string ByteArray.empty, .int .i64 0], []⟩).memory Tryd.f7.params.toList Rows.mailBackSpec.vars false (#[.agg #[.int .i64 0, .int .i64 0, .int .i64 0, .int .i64 0, .int .i64 0, .int .i64 0, .int .i64 0, .int .i64 0, .int .i64 0, .slice none 0 0, .int .i64 0, .int .i64 0, .int .i64 0, .int .i64 0, .int .i64 0, .int .i64 0, .int .i64 0, .int .i64 0], .string ByteArray.empty, .int .i64 0] : Array Value).toList 8 = some ([.agg [.lit (.int .i64 0), .lit (.int .i64 0), .lit (.int .i64 0), .lit (.int .i64 0), .lit (.int .i64 0), .lit (.int .i64 0), .lit (.int .i64 0), .lit (.int .i64 0), .lit (.int .i64 0), .nil, .agg [.lit (.int .i64 0), .lit (.int .i64 0), .lit (.int .i64 0), .lit (.int .i64 0), .lit (.int .i64 0)], .agg [.lit (.int .i64 0), .lit (.int .i64 0), .lit (.int .i64 0)]], .lit (.string []), .lit (.int .i64 0)], [], places) :=
  ⟨[], by kernel_rfl⟩
set_option maxRecDepth 100000 in
theorem lifted (os : Os) (started : os.Started) (H : Type) (enc : TypeId × Value → H) (F : Stop.Interp) :
    ReturnsInHanded {} Tryd.checked os 7 .any ((OpenSpec.ofChange Rows.mailBackSpec).preRow enc Tryd.prog Tryd.f7 Rows.mailBackRow.domain false Rows.mailBackRow.laid) (((OpenSpec.ofChange Rows.mailBackSpec).at F).post enc Tryd.prog Tryd.f7 false true false false) := by
  obtain ⟨places, hx⟩ := reads os enc
  refine returnsInHanded_of_row (C := Tryd.checked) (s := OpenSpec.ofChange Rows.mailBackSpec) own started (by kernel_rfl) Tryd.func7
    (witness_row_at (enc := enc) (C := Tryd.checked) false (laidWorld os) #[.agg #[.int .i64 0, .int .i64 0, .int .i64 0, .int .i64 0, .int .i64 0, .int .i64 0, .int .i64 0, .int .i64 0, .int .i64 0, .slice none 0 0, .int .i64 0, .int .i64 0, .int .i64 0, .int .i64 0, .int .i64 0, .int .i64 0, .int .i64 0, .int .i64 0], .string ByteArray.empty, .int .i64 0] rfl (by kernel_rfl) (by kernel_rfl) (by kernel_rfl)
      (OpenSpec.preRow_of_cond 8 hx (by kernel_rfl) (fun k hk => by cases hk) (by kernel_rfl) (laid_met os))) ?_
  intro W base args ds gs before hval0 hW _ _ hsz hL _ _
  have hAsk : AskM W := askM_of hL
  have hval : ∀ (j : Nat) t v, Tryd.f7.params[j]? = some t → args[j]? = some v → Value.okWide Tryd.prog W .any base t v := hval0
  have hW' := hW
  obtain ⟨p, q, hA0, hV, rfl, hfz, hnd⟩ := hW
  have hA : DataW.TrodAll enc Tryd.prog W 0 (fun _ => true) true Tryd.f7.params.toList args.toList ds p := hA0
  rw [Tryd.params7] at hA hval
  obtain ⟨v0, vs0, d0, ds0, p0, q0, hargs, rfl, rfl, h0, r0⟩ := trodAll_cons hA
  obtain ⟨v1, vs1, d1, ds1, p1, q1, rfl, rfl, rfl, h1, r1⟩ := trodAll_cons r0
  obtain ⟨v2, vs2, d2, ds2, p2, q2, rfl, rfl, rfl, h2, r2⟩ := trodAll_cons r1
  obtain ⟨rfl, rfl, rfl⟩ := trodAll_nil r2
  obtain rfl : args = #[v0, v1, v2] := by cases args; simp_all
  obtain ⟨rfl, rfl⟩ := trodVars_none hV
  obtain ⟨cs0, rfl, hsz0⟩ := okWide_struct Tryd.underlying45 (hval 0 45 v0 rfl rfl)
  have k0 := h0
  have lt0 : ∀ x ∈ p0, x.block < W.heap.size := by obtain ⟨m, hm⟩ := k0; exact DataW.trod_lt m _ _ _ hm
  obtain ⟨o0, A0, c0, hx0, e0, w0⟩ : ∃ (m : Ml) (A : Option Addr) (c : Nat), cs0.toList = m.cells (.slice A m.es.length c) ∧ EsB W.heap.size W (.slice A m.es.length c) m.es ∧ m.ints := by obtain ⟨fuel, hf⟩ := h0; exact open_ml hf
  obtain rfl : cs0 = (o0.cells (.slice A0 o0.es.length c0)).toArray := by rw [← hx0]
  obtain ⟨a1, rfl, rfl, rfl, w1⟩ := open_string Tryd.underlying9 (hval 1 9 v1 rfl rfl) h1
  obtain ⟨a2, rfl, rfl, rfl, w2⟩ := open_int Tryd.underlying3 (hval 2 3 v2 rfl rfl) h2
  clear hA0 hval0
  refine (mailBackW.walk o0 A0 c0 a1 a2 W hAsk e0 w0 w1 w2).mono fun e W' ⟨he, bel⟩ => ?_
  subst he
  exact ⟨_, rfl, _, _, _, [], _, [], hW', trodAll_mk1 (shut_bool Tryd.underlying4 _), (trodAll_cons_mk (Below.trod laidOut (by kernel_rfl) (of_decide_eq_true (by kernel_rfl)) k0 bel lt0) (trodAll_cons_mk (shut_string Tryd.underlying9 w1) (trodAll_cons_mk (shut_int Tryd.underlying3 w2) trodAll_mk0))), rfl, bel.frame _, fun h => by cases h⟩
theorem said : Rows.MailBackSaid :=
  OpenClaim.holds_of_cond 7 Tryd.f7 rfl rfl rfl rfl rfl rfl rfl ⟨rfl, rfl, rfl, rfl, rfl⟩ rfl rfl rfl rfl rfl (by kernel_rfl) Tryd.func7 (by kernel_rfl)
    (of_decide_eq_true (by kernel_rfl)) (by unfold Func.isWrapper; first | (rw [if_pos (by decide +kernel)]; kernel_rfl) | (rw [if_neg (by decide +kernel)]; exact ⟨rfl, rfl⟩))
    (fun os started H enc _ F => by rw [OpenClaim.pre_eq_preRow]; exact lifted os started H enc F)
theorem plain (f : FuncId) (fn : Func) (hf : Tryd.pinned.checked.prog.funcNamed "archipelago/archipelagolaw11.MailBack" = some f) (hfn : Tryd.pinned.checked.prog.funcs[f]? = some fn) :
    false = Tryd.pinned.checked.prog.looks [] ∧ ∀ (j : Nat) t, fn.params[j]? = some t → Tryd.pinned.checked.prog.wantsStandIn t = false := by
  obtain rfl : f = 7 := Option.some.inj ((show Tryd.prog.funcNamed "archipelago/archipelagolaw11.MailBack" = some 7 by kernel_rfl).symm.trans hf) |>.symm
  obtain rfl : fn = Tryd.f7 := (Option.some.inj (Tryd.func7.symm.trans hfn)).symm
  refine ⟨by kernel_rfl, fun j t ht => ?_⟩
  rw [Tryd.params7] at ht
  have hm := Array.mem_of_getElem? ht
  have ht' : t = 45 ∨ t = 9 ∨ t = 3 := by simpa using hm
  rcases ht' with rfl | rfl | rfl
  · exact (show Tryd.prog.wantsStandIn 45 = false by kernel_rfl)
  · exact (show Tryd.prog.wantsStandIn 9 = false by kernel_rfl)
  · exact (show Tryd.prog.wantsStandIn 3 = false by kernel_rfl)
theorem proved : Rows.MailBackCardSaid :=
  Claim7.holds_tied_plain_at .later [] _ _ _ _ said (fun _ h => by cases h) (by kernel_rfl) (fun _ h => by cases h) mailBack_row_tie rfl ⟨rfl, rfl⟩ (by kernel_rfl) rfl plain (by kernel_rfl)
end Go.Proofs.YtoipjnboekjjaaaDoor.mailBack
