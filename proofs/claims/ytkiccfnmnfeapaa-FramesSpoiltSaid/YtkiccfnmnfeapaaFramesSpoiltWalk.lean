/-
  The walk of the law FramesSpoilt: it returns true and writes nothing that was there.
-/
import Derived.Test.YtkiccfnmnfeapaaFOther
import Derived.Deep.QuietTactic
import Derived.BigQuiet
import Derived.Deep.DeepCutAuto
namespace Go.Proofs.Ytkiccfnmnfeapaa.framesSpoiltW
open Go.RowKit
open Crc
open framesBackW (numRow.at_ ends_at)
open framesTornW (texts_take endAt_mono)
theorem ends_cell {w : World} {base gE cE k : Nat} {ls : List (List UInt8)} (h : numRow w base (.slice (some ⟨gE, 0, none⟩) ls.length cE) (endsK ls ls.length)) (hk : k < ls.length) :
    w.cell? ⟨gE, k, none⟩ = some (.int .i64 ((endAt ls (k + 1) : Nat) : Int)) := by
  obtain ⟨g, c, hv, _, hc⟩ := numRow.at_ h (k := k) (by rw [endsK_len]; exact hk)
  injection hv with hv _ _
  injection hv with hv
  injection hv with hv _ _
  subst hv
  rw [ends_at ls hk] at hc
  exact hc
set_option maxRecDepth 100000 in
set_option maxHeartbeats 2000000 in
theorem walk_ls (A : Option Addr) (c : Nat) (a : Int) (by_ : UInt8) (ls : List (List UInt8)) (w : World) (hv : Texts w w.heap.size (.slice A ls.length c) ls) (hA : A = none → c = 0) (_hcm : c ≤ maxLen) (hm : ∀ p ∈ ls, p.length ≤ maxLen) (hlo : -9223372036854775808 ≤ a) (hhi : a ≤ 9223372036854775807) :
    Calls Try.prog 8 #[.slice A ls.length c, .int .i64 a, .int .u8 (by_.toNat : Int)] w fun e w' => e = .returned (.bool true) ∧ Below w.heap.size w w' := by
  have hlc : ls.length ≤ c := by obtain ⟨A', c', e, h, _⟩ := hv; injection e with _ _ e; omega
  have HV := Lib.hid hv
  have HM := Lib.hid hm
  have HA := Lib.hid hA
  clear hv hm hA
  go_enter Try.func8, Try.ntmps8
  go_wp2_with fail
  refine (framed_any _ ls w HV.out HM.out).mono ?_
  rintro e w1 ⟨hb1, ⟨_, rfl⟩ | ⟨hg, vE, rfl, hE⟩⟩
  · go_wp2_with fail
    refine (works_any _).mono ?_
    rintro e w2 ⟨rfl, hb2⟩
    go_wp2_with fail
    go_ret
    exact ⟨rfl, hb1.trans (hb2.mono hb1.size)⟩
  · by_cases h0 : ls.length = 0
    · have t0 : ((ls.length : Int) == 0) = true := by simp [h0]
      go_wp2_with fail
      refine (works_any _).mono ?_
      rintro e w2 ⟨rfl, hb2⟩
      go_wp2_with fail
      go_ret
      exact ⟨rfl, hb1.trans (hb2.mono hb1.size)⟩
    have t0 : ((ls.length : Int) == 0) = false := beq_eq_false_iff_ne.2 (by omega)
    by_cases hby : by_.toNat = 0
    · have t1 : ((by_.toNat : Int) == 0) = true := by simp [hby]
      go_wp2_with fail
      refine (works_any _).mono ?_
      rintro e w2 ⟨rfl, hb2⟩
      go_wp2_with fail
      go_ret
      exact ⟨rfl, hb1.trans (hb2.mono hb1.size)⟩
    have t1 : ((by_.toNat : Int) == 0) = false := beq_eq_false_iff_ne.2 (by omega)
    have hn0 : 0 < ls.length := by omega
    have h40 := hg.1
    have hsm := hg.small
    have hend := good_end hg (Nat.le_refl _)
    rw [endAt_all] at hend
    have HG := Lib.hid hg
    have HE := Lib.hid hE
    have HSM := Lib.hid hsm
    obtain ⟨b, off, rfl, hblt, hcell⟩ : ∃ b off, A = some ⟨b, off, none⟩ ∧ b < w.heap.size ∧ ∀ j, j < ls.length → w.cell? ⟨b, off + j, none⟩ = some (textV (ls.getD j [])) := by
      obtain ⟨A', c', e, _, h⟩ := HV.out
      injection e with e1 _ _
      subst e1
      exact h hn0
    obtain ⟨gE, cE, rfl, hcE⟩ : ∃ gE cE, vE = .slice (some ⟨gE, 0, none⟩) ls.length cE ∧ ls.length ≤ cE := by
      obtain ⟨gE, cE, h1, h2, _⟩ := numRow.at_ HE.out (k := 0) (by rw [endsK_len]; exact hn0)
      rw [endsK_len] at h1 h2
      exact ⟨gE, cE, h1, h2⟩
    have HC := Lib.hid hcell
    have hbo : tx ⟨(flat ls).toArray⟩ = flat ls := tx_of _
    have hsz : (⟨(flat ls).toArray⟩ : ByteArray).size = (flat ls).length := List.size_toArray
    generalize (⟨(flat ls).toArray⟩ : ByteArray) = S at *
    have HB := Lib.hid hbo
    have HZ := Lib.hid hsz
    have hS : S.size ≤ 40800 := by omega
    clear hg hE hsm hcell hend hbo hsz
    obtain ⟨hm1, hm2⟩ := tmod_bd (x := a) (k := (ls.length : Int)) (by omega)
    go_upto_if 40 with fail
    go_cut [10] (fun s wx => ∃ K : Nat, K < ls.length ∧ s = .int .i64 (K : Int) ∧ wx = w1)
    case first =>
      by_cases hneg : a.tmod (ls.length : Int) < 0
      · have t2 : decide (a.tmod (ls.length : Int) < 0) = true := decide_eq_true hneg
        go_wp2_with fail
        go_meet
        case rel => exact ⟨(a.tmod (ls.length : Int) + (ls.length : Int)).toNat, by omega, by congr 1; omega, rfl⟩
      · have t2 : decide (a.tmod (ls.length : Int) < 0) = false := decide_eq_false hneg
        go_wp2_with fail
        go_meet
        case rel => exact ⟨(a.tmod (ls.length : Int)).toNat, by omega, by congr 1; omega, rfl⟩
    case rest =>
    obtain ⟨K, hK, rfl, hwc⟩ := hcut
    obtain rfl : w1 = wc := hwc.symm
    clear hm1 hm2
    have hcellE := ends_cell HE.out hK
    rw [body_end hK] at hcellE
    have hck := (hb1.cell (p := ⟨b, off + K, none⟩) hblt).trans (HC.out K hK)
    unfold textV at hck
    have hE1 := endAt_mono ls (K + 1)
    rw [body_end hK, ← HZ.out] at hE1
    have hv : by_ ≠ 0 := fun h => hby (by rw [h]; rfl)
    have HW := Lib.hid (fun i hi => whole_other HSM.out hK (i := i) hi hv)
    have HPR := Lib.hid (show 0 < K → w1.cell? ⟨gE, K - 1, none⟩ = some (.int .i64 (endAt ls K : Nat)) from fun h => by
      have := ends_cell HE.out (k := K - 1) (by omega)
      rw [show K - 1 + 1 = K by omega] at this
      exact this)
    have HE0 := Lib.hid (show K = 0 → endAt ls K = 0 from fun h => by rw [h]; simp [endAt, flat])
    have hgE : gE < w1.heap.size := World.block_lt_of_cell? w1 _ hcellE
    generalize ls.getD K [] = t at *
    generalize bodyAt ls K = f at *
    generalize endAt ls K = F at *
    clear hv hby
    go_upto_region 7 with fail
    go_cut [11] (fun s wx => s = .int .i64 (f : Int) ∧ Still w1 wx)
    case first =>
      go_quiet (fail)
      go_wp2_with fail
      go_meet
      case rel => exact ⟨by congr 1, (Still.refl _).drewN _⟩
    case rest =>
    obtain ⟨rfl, hst⟩ := hcut
    obtain ⟨cap, W, hconv, hcap, hB, hAt⟩ := bytes_made S wc
    rw [HB.out] at hAt
    have hblt1 : b < w1.heap.size := by have := hb1.size; omega
    have hb2 : Below w1.heap.size w1 W := (hst _).trans (hB.mono (hst 0).size)
    have hckW := (hb2.cell (p := ⟨b, off + K, none⟩) hblt1).trans hck
    clear hck hcellE
    generalize hbk : wc.heap.size = bk at *
    have hbk1 : w1.heap.size ≤ bk := by rw [← hbk]; exact (hst 0).size
    clear hbk hst hB
    obtain ⟨hj1, hj2⟩ := tmod_bd (x := a.tdiv (ls.length : Int)) (k := (t.length : Int) + 4) (by omega)
    go_upto_region 9 with fail
    clear hconv
    go_cut [13] (fun s wx => s = .int .i64 ((a.tdiv (ls.length : Int)).tmod ((t.length : Int) + 4)) ∧ Still W wx)
    case first =>
      go_quiet (fail)
      go_wp2_with fail
      go_meet
      case rel => exact ⟨rfl, (Still.refl _).drewN _⟩
    case rest =>
    obtain ⟨rfl, hst⟩ := hcut
    generalize (a.tdiv (ls.length : Int)).tmod ((t.length : Int) + 4) = J at *
    have hlen : (flat ls).length = S.size := HZ.out.symm
    have hAt2 : BytesAt wc bk (flat ls) := fun j hj => ⟨((hst (bk + 1)).cell (p := ⟨bk, j, none⟩) (Nat.lt_succ_self _)).trans (hAt j hj).1, ((hst (bk + 1)).frozen (p := ⟨bk, j, none⟩) (Nat.lt_succ_self _)).trans (hAt j hj).2⟩
    have hb3 : Below w1.heap.size w1 wc := hb2.trans (hst _)
    clear hb2 hst hAt hckW
    go_upto_if 70 with fail
    go_cut [13] (fun s wx => ∃ I : Nat, I < t.length + 4 ∧ s = .int .i64 (I : Int) ∧ wx = wc)
    case first =>
      by_cases hneg : J < 0
      · have t2 : decide (J < 0) = true := decide_eq_true hneg
        go_wp2_with fail
        go_meet
        case rel => exact ⟨(-J).toNat, by omega, by congr 1; omega, rfl⟩
      · have t2 : decide (J < 0) = false := decide_eq_false hneg
        go_wp2_with fail
        go_meet
        case rel => exact ⟨J.toNat, by omega, by congr 1; omega, rfl⟩
    case rest =>
    obtain ⟨I, hI, rfl, rfl⟩ := hcut
    have hpos : f + I < (flat ls).length := by omega
    obtain ⟨hcb, hfb⟩ := hAt2 (f + I) hpos
    have t2 : decide ((f : Int) < 0) = false := decide_eq_false (by omega)
    have t3 : decide ((S.size : Int) ≤ (f : Int) + (I : Int)) = false := decide_eq_false (by omega)
    have hwh := HW.out I hI
    have hgd : (flat ls).getD (f + I) 0 = (flat ls)[f + I] := by simp [List.getD, hpos]
    rw [hgd] at hwh
    have hput := bytes_put hAt2 (f + I) ((flat ls)[f + I] ^^^ by_)
    have HP := Lib.hid hput
    have HWH := Lib.hid hwh
    have HL := Lib.hid (show ((flat ls).set (f + I) ((flat ls)[f + I] ^^^ by_)).length = S.size by rw [List.length_set, hlen])
    have HXB := Lib.hid (xor_byte (flat ls)[f + I] by_)
    generalize (flat ls).set (f + I) ((flat ls)[f + I] ^^^ by_) = l2 at *
    clear hput hwh hgd hAt2 HW
    generalize (flat ls)[f + I] = x at *
    clear hpos hlen hj1 hj2 t0 t1
    go_upto_region 15 with fail
    rw [← HXB.out] at HP
    have hb4 := hb3.setCell (p := ⟨bk, f + I, none⟩) hbk1 (.int .u8 (bits .xor .u8 (x.toNat : Int) (by_.toNat : Int)))
    generalize wc.setCell ⟨bk, f + I, none⟩ (.int .u8 (bits .xor .u8 (x.toNat : Int) (by_.toNat : Int))) = W2 at *
    clear hcb hfb t2 t3 HXB hb3
    have hback := bytes_back HP.out S.size cap HL.out
    have GW := Lib.hid (fun X => whole_any ⟨l2.toArray⟩ X (by have := HL.out; show l2.toArray.size ≤ _; rw [List.size_toArray]; omega))
    rw [bytes_of] at GW
    go_wp2_with fail
    refine (GW.out _).mono ?_
    rintro e w4 ⟨ps, m, v4, rfl, hw4, hr4, hb5⟩
    obtain ⟨rfl, rfl⟩ := whole_one hw4 HWH.out
    have hb6 := hb4.trans (hb5.mono hb4.size)
    have HR4 := Lib.hid hr4
    clear hw4 hr4 hb4 hb5 hback HP GW HWH HL
    go_upto_if 103 with fail
    go_cut [16] (fun s wx => s = .int .i64 (m : Int) ∧ wx = w4)
    case first =>
      rcases K with _ | K'
      · obtain rfl := HE0.out rfl
        have t2 : decide ((0 : Int) < ((0 : Nat) : Int)) = false := rfl
        go_wp2_with fail
        go_meet
        case rel => exact ⟨rfl, rfl⟩
      · have hpr := HPR.out (Nat.succ_pos _)
        rw [Nat.add_sub_cancel] at hpr
        have hpr4 := (hb6.cell (p := ⟨gE, K', none⟩) hgE).trans hpr
        have t2 : decide ((0 : Int) < ((K' + 1 : Nat) : Int)) = true := decide_eq_true (by omega)
        go_wp2_with fail
        go_meet
        case rel => exact ⟨rfl, rfl⟩
    case rest =>
    obtain ⟨rfl, hw4⟩ := hcut
    obtain rfl : w4 = wc := hw4.symm
    have hkc : K ≤ c := by omega
    have h6 := hb1.trans (hb6.mono hb1.size)
    have HV4 := Lib.hid (HV.out.keep h6 h6.size)
    have G := Lib.hid (same_any _ _ (ls.take K) _ _ w4 (Texts.own HR4.out) (texts_take HV4.out (Nat.le_of_lt hK)) (by rw [List.length_take]; omega))
    go_wp2_with fail
    refine G.out.mono ?_
    rintro e w5 ⟨rfl, hs5⟩
    have h5 := h6.trans (hs5 _)
    go_wp2_with fail
    refine (works_any _).mono ?_
    rintro e w7 ⟨rfl, hb7⟩
    go_wp2_with fail
    go_ret
    exact ⟨rfl, h5.trans (hb7.mono h5.size)⟩
theorem u8_byte {n : Int} (h : (Lit.int .u8 n).wf = true) : ∃ v : UInt8, n = (v.toNat : Int) := by
  simp [Lit.wf, IntKind.min, IntKind.max, IntKind.signed, IntKind.bits] at h
  refine ⟨UInt8.ofNat n.toNat, ?_⟩
  rw [UInt8.toNat_ofNat']
  omega
theorem i64_bd {n : Int} (h : (Lit.int .i64 n).wf = true) : -9223372036854775808 ≤ n ∧ n ≤ 9223372036854775807 := by
  simp [Lit.wf, IntKind.min, IntKind.max, IntKind.signed, IntKind.bits] at h
  omega
theorem walk (a0 : Option Addr) (len0 cap0 : Nat) (z0 : List ByteArray) (a1 a2 : Int) (w : World) (w0 : IsTexts w a0 len0 cap0 z0) (w1 : (Lit.int .i64 a1).wf = true) (w2 : (Lit.int .u8 a2).wf = true) :
    Calls Try.prog 8 #[.slice a0 len0 cap0, .int .i64 a1, .int .u8 a2] w fun e w' => e = .returned (.bool true) ∧ Below w.heap.size w w' := by
  obtain ⟨h1, h2, h3, _⟩ := w0.texts
  obtain ⟨v, rfl⟩ := u8_byte w2
  obtain ⟨hlo, hhi⟩ := i64_bd w1
  have h4 : (a0 = none → cap0 = 0) ∧ cap0 ≤ maxLen := by
    rcases w0 with ⟨_, _, h, _⟩ | ⟨x, e, _, h, _⟩
    · exact ⟨fun _ => h, by rw [h]; exact Nat.zero_le _⟩
    · exact ⟨fun h => (by rw [e] at h; cases h), h⟩
  generalize (z0.take len0).map tx = ls at *
  subst h1
  exact walk_ls _ _ _ _ _ w h2 h4.1 h4.2 h3 hlo hhi
end Go.Proofs.Ytkiccfnmnfeapaa.framesSpoiltW
