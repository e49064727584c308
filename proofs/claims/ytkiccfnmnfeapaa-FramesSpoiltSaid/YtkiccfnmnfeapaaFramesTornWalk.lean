/-
  The walk of the law FramesTorn: it returns true and writes nothing that was there.
-/
import Derived.Test.YtkiccfnmnfeapaaFramesBackWalk
namespace Go.Proofs.Ytkiccfnmnfeapaa.framesTornW
open Go.RowKit
open Crc
open framesBackW (numRow.at_ ends_at)
theorem texts_take {w : World} {B : Nat} {A : Option Addr} {n c k : Nat} {ls : List (List UInt8)} (h : Texts w B (.slice A n c) ls) (hk : k ≤ ls.length) : Texts w B (.slice A k c) (ls.take k) := by
  obtain ⟨A', c', e, hc, h⟩ := h
  injection e with e1 e2 e3
  subst e1 e3
  have hl : (ls.take k).length = k := by rw [List.length_take]; omega
  refine ⟨A, c, by rw [hl], by omega, fun h0 => ?_⟩
  rw [hl] at h0
  obtain ⟨b, off, rfl, hlt, hcell⟩ := h (by omega)
  refine ⟨b, off, rfl, hlt, fun j hj => ?_⟩
  rw [hl] at hj
  rw [hcell j (by omega)]
  simp [List.getD, hj]
theorem endAt_mono (ls : List (List UInt8)) (k : Nat) : endAt ls k ≤ (flat ls).length := by
  unfold endAt
  rw [flat_split ls k, List.length_append]; omega
set_option maxRecDepth 100000 in
set_option maxHeartbeats 2000000 in
theorem walk_ls (A : Option Addr) (c : Nat) (cut : Int) (ls : List (List UInt8)) (w : World) (hv : Texts w w.heap.size (.slice A ls.length c) ls) (hA : A = none → c = 0) (hcm : c ≤ maxLen) (hm : ∀ p ∈ ls, p.length ≤ maxLen) :
    Calls Try.prog 7 #[.slice A ls.length c, .int .i64 cut] w fun e w' => e = .returned (.bool true) ∧ Below w.heap.size w w' := by
  have hlc : ls.length ≤ c := by obtain ⟨A', c', e, h, _⟩ := hv; injection e with _ _ e; omega
  have HV := Lib.hid hv
  have HM := Lib.hid hm
  have HA := Lib.hid hA
  clear hv hm hA
  go_enter Try.func7, Try.ntmps7
  go_wp2_with fail
  refine (framed_any _ ls w HV.out HM.out).mono ?_
  rintro e w1 ⟨hb1, ⟨_, rfl⟩ | ⟨hg, vE, rfl, hE⟩⟩
  · go_wp2_with fail
    refine (works_any _).mono ?_
    rintro e w2 ⟨rfl, hb2⟩
    go_wp2_with fail
    go_ret
    exact ⟨rfl, hb1.trans (hb2.mono hb1.size)⟩
  · have HG := Lib.hid hg
    have HE := Lib.hid hE
    have h40 := hg.1
    have hend := good_end hg (Nat.le_refl _)
    rw [endAt_all] at hend
    have hbo : bytesOf ⟨(flat ls).toArray⟩ = flat ls := bytes_of _
    have hsz : (⟨(flat ls).toArray⟩ : ByteArray).size = (flat ls).length := List.size_toArray
    generalize (⟨(flat ls).toArray⟩ : ByteArray) = S at *
    have HB := Lib.hid hbo
    have HZ := Lib.hid hsz
    have hS : S.size ≤ 40800 := by omega
    clear hg hE hend hbo hsz
    by_cases c0 : cut < 0
    · have t0 : decide (cut < 0) = true := decide_eq_true c0
      go_wp2_with fail
      refine (works_any _).mono ?_
      rintro e w2 ⟨rfl, hb2⟩
      go_wp2_with fail
      go_ret
      exact ⟨rfl, hb1.trans (hb2.mono hb1.size)⟩
    have t0 : decide (cut < 0) = false := decide_eq_false c0
    obtain ⟨d, rfl⟩ : ∃ d : Nat, cut = d := ⟨cut.toNat, by omega⟩
    by_cases c1 : S.size < d
    · have t1 : decide ((S.size : Int) < (d : Int)) = true := decide_eq_true (by omega)
      go_wp2_with fail
      refine (works_any _).mono ?_
      rintro e w2 ⟨rfl, hb2⟩
      go_wp2_with fail
      go_ret
      exact ⟨rfl, hb1.trans (hb2.mono hb1.size)⟩
    have t1 : decide ((S.size : Int) < (d : Int)) = false := decide_eq_false (by omega)
    have hd : d ≤ S.size := by omega
    have hsx : (S.extract 0 d).size ≤ 40800 := by rw [ByteArray.size_extract]; omega
    have hbx : bytesOf (S.extract 0 d) = (flat ls).take d := by
      have := ext_tx S 0 d
      rw [HB.out] at this
      rw [List.drop_zero, Nat.sub_zero] at this
      exact this
    have GW := Lib.hid (fun X => whole_any (S.extract 0 d) X (by omega))
    rw [hbx] at GW
    clear hsx hbx
    go_wp2_with fail
    refine (GW.out _).mono ?_
    rintro e w2 ⟨ps, m, v2, rfl, hw2, hr2, hb2⟩
    have h2 := hb1.trans (hb2.mono hb1.size)
    have HW := Lib.hid hw2
    have HR2 := Lib.hid hr2
    have HE2 := Lib.hid (show numRow w2 w.heap.size vE (endsK ls ls.length) from HE.out.keep hb2)
    have HV2 := Lib.hid (HV.out.keep h2 h2.size)
    clear hw2 hr2 hb1 hb2 HE
    obtain ⟨AE, cE, rfl, hcE⟩ : ∃ AE cE, vE = .slice AE ls.length cE ∧ ls.length ≤ cE := by
      have hE := HE2.out
      rcases hE.2 with ⟨h1, h2⟩ | ⟨g, c, _, h1, _, _, h4, _⟩
      · rw [endsK_len] at h2; exact ⟨none, 0, by rw [h1, h2], by omega⟩
      · rw [endsK_len] at h1 h4; exact ⟨_, c, h1, h4⟩
    go_wp2_with fail
    go_loopw [10, 11] (fun i last wr => ∃ k : Nat, k ≤ ls.length ∧ i = .int .i64 k ∧ last = .int .i64 (endAt ls k : Nat) ∧ endAt ls k ≤ d ∧ Still w2 wr) (fun i _ _ => ls.length - (intOf i).toNat)
    case atStart => exact ⟨0, Nat.zero_le _, rfl, rfl, by simp [endAt, flat], Still.refl _⟩
    case round =>
      obtain ⟨k, hk, rfl, rfl, hek, hst⟩ := hrel
      have HEK := Lib.hid hek
      clear hek
      by_cases hlt : k < ls.length
      · obtain ⟨gE, cE', hvE, hcE', hcellE⟩ := numRow.at_ HE2.out (k := k) (by rw [endsK_len]; exact hlt)
        injection hvE with hvE hl1 hl2
        clear hl1 hl2 hcE'
        subst hvE
        rw [ends_at ls hlt] at hcellE
        have hcE5 := (hst.cell ⟨gE, k, none⟩).trans hcellE
        clear hcellE
        by_cases hin : endAt ls (k + 1) ≤ d
        · have HIN := Lib.hid hin
          have t2 : decide (((endAt ls (k + 1) : Nat) : Int) ≤ (d : Int)) = true := decide_eq_true (by omega)
          clear hin
          generalize hF : endAt ls k = F at *
          generalize hF1 : endAt ls (k + 1) = F1 at *
          have HF1 := Lib.hid hF1
          clear hF hF1
          go_wp2_with fail
          go_roundw
          case rel => exact ⟨k + 1, by omega, by go_num, by rw [HF1.out], by rw [HF1.out]; exact HIN.out, hst⟩
          case measure => simp [intOf]; omega
        · have hcutt := whole_cut (ps := ls) HG.out.small (cut := d) (m := k) HEK.out (.inr (by unfold endAt at hin; omega))
          obtain ⟨rfl, rfl⟩ := whole_one HW.out hcutt
          have t2 : decide (((endAt ls (k + 1) : Nat) : Int) ≤ (d : Int)) = false := decide_eq_false (by omega)
          have G := Lib.hid (fun X (hX : Still w2 X) => same_any _ _ (ls.take k) _ _ X (Texts.own (hX.owns HR2.out)) (texts_take (HV2.out.still hX) hk) (by rw [List.length_take]; omega))
          have h3 := h2.trans (hst _)
          have HST := Lib.hid hst
          clear hst h2 HV2 HR2 HE2 HW hcutt HEK
          generalize endAt ls (k + 1) = F1 at *
          generalize hF : (flat (ls.take k)).length = F at *
          have hF' : endAt ls k = F := hF
          rw [hF']
          clear hF hF'
          have hkc : k ≤ c := by omega
          have t3 : ((F : Int) == (F : Int)) = true := by simp
          rcases A with _ | x
          · obtain rfl : c = 0 := HA.out rfl
            obtain rfl : k = 0 := by omega
            go_wp2_with fail
            refine (G.out _ HST.out).mono ?_
            rintro e w5 ⟨rfl, hs5⟩
            have h5 := h3.trans (hs5 _)
            go_wp2_with fail
            refine (works_any _).mono ?_
            rintro e w6 ⟨rfl, hb6⟩
            go_wp2_with fail
            go_ret
            exact ⟨rfl, h5.trans (hb6.mono h5.size)⟩
          · go_wp2_with fail
            refine (G.out _ HST.out).mono ?_
            rintro e w5 ⟨rfl, hs5⟩
            have h5 := h3.trans (hs5 _)
            go_wp2_with fail
            refine (works_any _).mono ?_
            rintro e w6 ⟨rfl, hb6⟩
            go_wp2_with fail
            go_ret
            exact ⟨rfl, h5.trans (hb6.mono h5.size)⟩
      · obtain hkl : k = ls.length := by omega
        have hcutt := whole_cut (ps := ls) HG.out.small (cut := d) (m := k) HEK.out (.inl (by omega))
        obtain ⟨rfl, rfl⟩ := whole_one HW.out hcutt
        have t2 : decide ((k : Int) < (ls.length : Int)) = false := decide_eq_false (by omega)
        have G := Lib.hid (fun X (hX : Still w2 X) => same_any _ _ (ls.take k) _ _ X (Texts.own (hX.owns HR2.out)) (texts_take (HV2.out.still hX) hk) (by rw [List.length_take]; omega))
        have h3 := h2.trans (hst _)
        have HST := Lib.hid hst
        clear hst h2 HV2 HR2 HE2 HW hcutt HEK hkl
        generalize hF : (flat (ls.take k)).length = F at *
        have hF' : endAt ls k = F := hF
        rw [hF']
        clear hF hF'
        have hkc : k ≤ c := by omega
        have t3 : ((F : Int) == (F : Int)) = true := by simp
        rcases A with _ | x
        · obtain rfl : c = 0 := HA.out rfl
          obtain rfl : k = 0 := by omega
          go_wp2_with fail
          refine (G.out _ HST.out).mono ?_
          rintro e w5 ⟨rfl, hs5⟩
          have h5 := h3.trans (hs5 _)
          go_wp2_with fail
          refine (works_any _).mono ?_
          rintro e w6 ⟨rfl, hb6⟩
          go_wp2_with fail
          go_ret
          exact ⟨rfl, h5.trans (hb6.mono h5.size)⟩
        · go_wp2_with fail
          refine (G.out _ HST.out).mono ?_
          rintro e w5 ⟨rfl, hs5⟩
          have h5 := h3.trans (hs5 _)
          go_wp2_with fail
          refine (works_any _).mono ?_
          rintro e w6 ⟨rfl, hb6⟩
          go_wp2_with fail
          go_ret
          exact ⟨rfl, h5.trans (hb6.mono h5.size)⟩
theorem walk (a0 : Option Addr) (len0 cap0 : Nat) (z0 : List ByteArray) (a1 : Int) (w : World) (w0 : IsTexts w a0 len0 cap0 z0) (_w1 : (Lit.int .i64 a1).wf = true) :
    Calls Try.prog 7 #[.slice a0 len0 cap0, .int .i64 a1] w fun e w' => e = .returned (.bool true) ∧ Below w.heap.size w w' := by
  obtain ⟨h1, h2, h3, _⟩ := w0.texts
  have h4 : (a0 = none → cap0 = 0) ∧ cap0 ≤ maxLen := by
    rcases w0 with ⟨_, _, h, _⟩ | ⟨x, e, _, h, _⟩
    · exact ⟨fun _ => h, by rw [h]; exact Nat.zero_le _⟩
    · exact ⟨fun h => (by rw [e] at h; cases h), h⟩
  generalize (z0.take len0).map tx = ls at *
  subst h1
  exact walk_ls _ _ _ _ w h2 h4.1 h4.2 h3
end Go.Proofs.Ytkiccfnmnfeapaa.framesTornW
