/-
  The walk of the law NetsCount.
-/
import Derived.Test.YtlejlmlgcehjiaaNPlay
import Derived.Test.YtlejlmlgcehjiaaNOpens
import Derived.Test.YtlejlmlgcehjiaaRows
namespace Go.Proofs.Ytlejlmlgcehjiaa.netsCountW
open Go.RowKit
set_option maxRecDepth 100000 in
set_option maxHeartbeats 2000000 in
theorem walk (v : Value) (l : List AV) (w : World) (h : ARead w v l) (hk : ∀ x ∈ l, 0 ≤ x.k) : Calls Try.prog 6 #[v] w fun e w' => e = .returned (.bool true) ∧ Below w.heap.size w w' := by
  have HG := Lib.hid (great_any h)
  have HA := Lib.hid h
  have HK := Lib.hid hk
  obtain ⟨A, c, rfl, hc1, hc2, hc3⟩ := h
  clear hk hc3
  go_enter Try.func6, Try.ntmps6
  go_wp2_with fail
  refine HG.out.mono ?_
  rintro e w1 ⟨b, rfl, hs, hb1⟩
  clear HG
  cases b with
  | true =>
    go_wp2_with fail
    go_ret
    exact ⟨rfl, hb1⟩
  | false =>
    have HS := Lib.hid (hs rfl)
    have HB1 := Lib.hid hb1
    have HR : Hid (ARead w1 (.slice A l.length c) l) := HA.out.below hb1
    clear hs hb1 HA
    go_wp2_with fail
    refine (on_new w1).mono ?_
    rintro e w2 ⟨n, S, rfl, H, HBN, _⟩
    go_wp2_with fail
    go_loopg [4, 5] l.length (fun kx s4 s5 wr => ∃ (i L : Nat) (M : List Net.Ml) (wB : World) (SB : Nat → Prop), i ≤ l.length ∧ s5 = .int .i64 (i : Int) ∧ s4 = .int .i64 (L : Int) ∧ l.length - i ≤ kx ∧ Hid (M.length = L) ∧ Hid (On w1 wB SB n M wr))
    case atStart => exact ⟨0, 0, [], w2, S, Nat.zero_le _, rfl, rfl, by omega, rfl, H⟩
    case round =>
      obtain ⟨i, L, M, wB, SB, hil, rfl, rfl, hik, HL, HO⟩ := hrel
      clear H HBN
      by_cases hlt : i < l.length
      · obtain ⟨A0, c0, hv, hv3, hv4, hcl, hEn⟩ := HR.out
        injection hv with hv1 _ hv2
        subst hv1 hv2
        obtain ⟨b, o, rfl, hbl, hcells⟩ := hcl (by omega)
        have hcx := hcells i hlt
        have hEx := hEn _ (List.getElem_mem hlt)
        have hkx := HK.out _ (List.getElem_mem hlt)
        have hlx := HS.out.1 _ (List.getElem_mem hlt)
        have hlk : (i : Int) < (l.length : Int) := by omega
        clear hcells hEn hcl hv3 hv4
        generalize l[i] = x at *
        have hOB := HO.out.bel
        have HLD := Lib.hid (run_load_act (W := wr) (g := b) (o := o + i * 20) (x := x) fun j hj => (hOB.cell (p := ⟨b, o + i * 20 + j, none⟩) hbl).trans (hcx j hj))
        have HKD := Lib.hid (fun X (hX : Below w1.heap.size w1 X) => ((hX.cell (p := ⟨b, o + i * 20, none⟩) hbl).trans (hcx 0 (by omega)) : X.cell? ⟨b, o + i * 20, none⟩ = some (.int .u8 x.k)))
        obtain ⟨⟨M', m, r⟩, HA⟩ : ∃ R, Hid (Net.act M x.k x.ml x.i = R) := ⟨_, rfl⟩
        have HDO := Lib.hid (on_does x hkx HO (hEx.below hOB) hlx HA.out)
        have HLN := Lib.hid (Net.act_len HA.out)
        have HKX := Lib.hid hkx
        clear hcx hEx hlx hOB
        go_wp2_with (refine wpList_load_run rfl 38 _ rfl ⟨b, o + i * 20, none⟩ rfl HLD.out ?_)
        refine HDO.out.mono ?_
        rintro e w3 ⟨A3, c3, S3, rfl, H3, q1, q2, q3⟩
        obtain ⟨w4, st4, q4, b4, q5⟩ := box_mail w3 m.h A3 m.es.length c3
        have H4 : Hid (On w1 w3 S3 n M' w4) := H3.out.below b4
        have ST4 := Lib.hid st4
        have hkd := HKD.out w4 H4.out.bel
        obtain ⟨L', HL'⟩ : ∃ L', Hid (M'.length = L') := ⟨_, rfl⟩
        have h512 : L' ≤ 512 := HL'.out ▸ H4.out.few
        have h512o : L ≤ 512 := HL.out ▸ HO.out.few
        have t1 : decide ((512 : Int) < (L' : Int)) = false := decide_eq_false (by omega)
        have t2 : decide ((L' : Int) < 0) = false := decide_eq_false (by omega)
        have hl8 : l.length ≤ 800 := HS.out.2
        clear st4 b4 HDO HLD HKD H3 HO q1 q2 q3 q4 q5 hc1 hc2 HR HK HS HA
        generalize x.k = xk at *
        cases r with
        | false =>
          have e0 := (HLN.out.2.2.2 rfl)
          obtain rfl : L' = L := by rw [← HL'.out, ← HL.out, e0]
          clear e0 HLN
          go_wp2_with (refine wpList_store_run rfl 36 _ _ rfl ⟨w3.heap.size, 0, none⟩ _ rfl rfl ST4.out ?_)
          refine (on_len' H4 HL').mono ?_
          rintro e w5 ⟨rfl, rfl⟩
          go_wp2_with fail
          refine (on_all' H4 HL').mono ?_
          rintro e w5 ⟨A5, c5, rfl, hb5⟩
          have H5 := Lib.hid (H4.out.below hb5.out)
          go_wp2_with fail
          go_roundg (l.length - (i + 1))
          case measure => omega
          case rel => exact ⟨i + 1, L', M', w3, S3, by omega, by go_num, rfl, by omega, HL', H5⟩
        | true =>
          have hm : xk % 9 = 0 ∨ xk % 9 = 1 ∨ xk % 9 = 2 ∨ xk % 9 = 3 ∨ xk % 9 = 7 ∨ xk % 9 = 5 ∨ xk % 9 = 6 ∨ xk % 9 = 8 ∨ xk % 9 = 4 := by omega
          rcases hm with e | e | e | e | e | e | e | e | e
          · skip
            have e0 := HLN.out.1 rfl (by omega)
            rw [HL.out, HL'.out] at e0
            have hu : IntKind.i64.wrap ((L : Int) + 1) = (L' : Int) := by rw [IntWalk.i64_in _ (by omega)]; omega
            clear HLN
            have E0 := Lib.hid e0
            clear e0
            rw [← Int.tmod_eq_emod_of_nonneg HKX.out] at e
            go_wp2_with (refine wpList_store_run rfl 36 _ _ rfl ⟨w3.heap.size, 0, none⟩ _ rfl rfl ST4.out ?_)
            refine (on_len' H4 HL').mono ?_
            rintro e w5 ⟨rfl, rfl⟩
            go_wp2_with fail
            refine (on_all' H4 HL').mono ?_
            rintro e w5 ⟨A5, c5, rfl, hb5⟩
            have H5 := Lib.hid (H4.out.below hb5.out)
            go_wp2_with fail
            go_roundg (l.length - (i + 1))
            case measure => omega
            case rel => exact ⟨i + 1, L', M', w3, S3, by omega, by go_num, rfl, by omega, HL', H5⟩
          · skip
            have e0 := HLN.out.1 rfl (by omega)
            rw [HL.out, HL'.out] at e0
            have hu : IntKind.i64.wrap ((L : Int) + 1) = (L' : Int) := by rw [IntWalk.i64_in _ (by omega)]; omega
            clear HLN
            have E0 := Lib.hid e0
            clear e0
            rw [← Int.tmod_eq_emod_of_nonneg HKX.out] at e
            go_wp2_with (refine wpList_store_run rfl 36 _ _ rfl ⟨w3.heap.size, 0, none⟩ _ rfl rfl ST4.out ?_)
            refine (on_len' H4 HL').mono ?_
            rintro e w5 ⟨rfl, rfl⟩
            go_wp2_with fail
            refine (on_all' H4 HL').mono ?_
            rintro e w5 ⟨A5, c5, rfl, hb5⟩
            have H5 := Lib.hid (H4.out.below hb5.out)
            go_wp2_with fail
            go_roundg (l.length - (i + 1))
            case measure => omega
            case rel => exact ⟨i + 1, L', M', w3, S3, by omega, by go_num, rfl, by omega, HL', H5⟩
          · skip
            have e0 := HLN.out.1 rfl (by omega)
            rw [HL.out, HL'.out] at e0
            have hu : IntKind.i64.wrap ((L : Int) + 1) = (L' : Int) := by rw [IntWalk.i64_in _ (by omega)]; omega
            clear HLN
            have E0 := Lib.hid e0
            clear e0
            rw [← Int.tmod_eq_emod_of_nonneg HKX.out] at e
            go_wp2_with (refine wpList_store_run rfl 36 _ _ rfl ⟨w3.heap.size, 0, none⟩ _ rfl rfl ST4.out ?_)
            refine (on_len' H4 HL').mono ?_
            rintro e w5 ⟨rfl, rfl⟩
            go_wp2_with fail
            refine (on_all' H4 HL').mono ?_
            rintro e w5 ⟨A5, c5, rfl, hb5⟩
            have H5 := Lib.hid (H4.out.below hb5.out)
            go_wp2_with fail
            go_roundg (l.length - (i + 1))
            case measure => omega
            case rel => exact ⟨i + 1, L', M', w3, S3, by omega, by go_num, rfl, by omega, HL', H5⟩
          · skip
            have e0 := HLN.out.1 rfl (by omega)
            rw [HL.out, HL'.out] at e0
            have hu : IntKind.i64.wrap ((L : Int) + 1) = (L' : Int) := by rw [IntWalk.i64_in _ (by omega)]; omega
            clear HLN
            have E0 := Lib.hid e0
            clear e0
            rw [← Int.tmod_eq_emod_of_nonneg HKX.out] at e
            go_wp2_with (refine wpList_store_run rfl 36 _ _ rfl ⟨w3.heap.size, 0, none⟩ _ rfl rfl ST4.out ?_)
            refine (on_len' H4 HL').mono ?_
            rintro e w5 ⟨rfl, rfl⟩
            go_wp2_with fail
            refine (on_all' H4 HL').mono ?_
            rintro e w5 ⟨A5, c5, rfl, hb5⟩
            have H5 := Lib.hid (H4.out.below hb5.out)
            go_wp2_with fail
            go_roundg (l.length - (i + 1))
            case measure => omega
            case rel => exact ⟨i + 1, L', M', w3, S3, by omega, by go_num, rfl, by omega, HL', H5⟩
          · skip
            have e0 := HLN.out.1 rfl (by omega)
            rw [HL.out, HL'.out] at e0
            have hu : IntKind.i64.wrap ((L : Int) + 1) = (L' : Int) := by rw [IntWalk.i64_in _ (by omega)]; omega
            clear HLN
            have E0 := Lib.hid e0
            clear e0
            rw [← Int.tmod_eq_emod_of_nonneg HKX.out] at e
            go_wp2_with (refine wpList_store_run rfl 36 _ _ rfl ⟨w3.heap.size, 0, none⟩ _ rfl rfl ST4.out ?_)
            refine (on_len' H4 HL').mono ?_
            rintro e w5 ⟨rfl, rfl⟩
            go_wp2_with fail
            refine (on_all' H4 HL').mono ?_
            rintro e w5 ⟨A5, c5, rfl, hb5⟩
            have H5 := Lib.hid (H4.out.below hb5.out)
            go_wp2_with fail
            go_roundg (l.length - (i + 1))
            case measure => omega
            case rel => exact ⟨i + 1, L', M', w3, S3, by omega, by go_num, rfl, by omega, HL', H5⟩
          · skip
            have e0 := HLN.out.2.1 rfl (by omega)
            rw [HL.out, HL'.out] at e0
            have hu : IntKind.i64.wrap ((L : Int) - 1) = (L' : Int) := by rw [IntWalk.i64_in _ (by omega)]; omega
            clear HLN
            have E0 := Lib.hid e0
            clear e0
            rw [← Int.tmod_eq_emod_of_nonneg HKX.out] at e
            go_wp2_with (refine wpList_store_run rfl 36 _ _ rfl ⟨w3.heap.size, 0, none⟩ _ rfl rfl ST4.out ?_)
            refine (on_len' H4 HL').mono ?_
            rintro e w5 ⟨rfl, rfl⟩
            go_wp2_with fail
            refine (on_all' H4 HL').mono ?_
            rintro e w5 ⟨A5, c5, rfl, hb5⟩
            have H5 := Lib.hid (H4.out.below hb5.out)
            go_wp2_with fail
            go_roundg (l.length - (i + 1))
            case measure => omega
            case rel => exact ⟨i + 1, L', M', w3, S3, by omega, by go_num, rfl, by omega, HL', H5⟩
          · skip
            have e0 := HLN.out.2.1 rfl (by omega)
            rw [HL.out, HL'.out] at e0
            have hu : IntKind.i64.wrap ((L : Int) - 1) = (L' : Int) := by rw [IntWalk.i64_in _ (by omega)]; omega
            clear HLN
            have E0 := Lib.hid e0
            clear e0
            rw [← Int.tmod_eq_emod_of_nonneg HKX.out] at e
            go_wp2_with (refine wpList_store_run rfl 36 _ _ rfl ⟨w3.heap.size, 0, none⟩ _ rfl rfl ST4.out ?_)
            refine (on_len' H4 HL').mono ?_
            rintro e w5 ⟨rfl, rfl⟩
            go_wp2_with fail
            refine (on_all' H4 HL').mono ?_
            rintro e w5 ⟨A5, c5, rfl, hb5⟩
            have H5 := Lib.hid (H4.out.below hb5.out)
            go_wp2_with fail
            go_roundg (l.length - (i + 1))
            case measure => omega
            case rel => exact ⟨i + 1, L', M', w3, S3, by omega, by go_num, rfl, by omega, HL', H5⟩
          · skip
            have e0 := HLN.out.2.1 rfl (by omega)
            rw [HL.out, HL'.out] at e0
            have hu : IntKind.i64.wrap ((L : Int) - 1) = (L' : Int) := by rw [IntWalk.i64_in _ (by omega)]; omega
            clear HLN
            have E0 := Lib.hid e0
            clear e0
            rw [← Int.tmod_eq_emod_of_nonneg HKX.out] at e
            go_wp2_with (refine wpList_store_run rfl 36 _ _ rfl ⟨w3.heap.size, 0, none⟩ _ rfl rfl ST4.out ?_)
            refine (on_len' H4 HL').mono ?_
            rintro e w5 ⟨rfl, rfl⟩
            go_wp2_with fail
            refine (on_all' H4 HL').mono ?_
            rintro e w5 ⟨A5, c5, rfl, hb5⟩
            have H5 := Lib.hid (H4.out.below hb5.out)
            go_wp2_with fail
            go_roundg (l.length - (i + 1))
            case measure => omega
            case rel => exact ⟨i + 1, L', M', w3, S3, by omega, by go_num, rfl, by omega, HL', H5⟩
          · skip
            have e0 := congrArg List.length (HLN.out.2.2.1 e)
            rw [HL.out, HL'.out] at e0
            obtain rfl : L' = L := e0
            clear HLN
            rw [← Int.tmod_eq_emod_of_nonneg HKX.out] at e
            go_wp2_with (refine wpList_store_run rfl 36 _ _ rfl ⟨w3.heap.size, 0, none⟩ _ rfl rfl ST4.out ?_)
            refine (on_len' H4 HL').mono ?_
            rintro e w5 ⟨rfl, rfl⟩
            go_wp2_with fail
            refine (on_all' H4 HL').mono ?_
            rintro e w5 ⟨A5, c5, rfl, hb5⟩
            have H5 := Lib.hid (H4.out.below hb5.out)
            go_wp2_with fail
            go_roundg (l.length - (i + 1))
            case measure => omega
            case rel => exact ⟨i + 1, L', M', w3, S3, by omega, by go_num, rfl, by omega, HL', H5⟩
      · obtain rfl : i = l.length := by omega
        have hlk : ¬ ((l.length : Int) < (l.length : Int)) := by omega
        go_wp2_with fail
        refine (works_any wr).mono ?_
        rintro e w5 ⟨rfl, hb5⟩
        go_wp2_with fail
        go_ret
        exact ⟨rfl, HB1.out.trans ((HO.out.bel.trans (hb5.mono HO.out.bel.size)).mono HB1.out.size)⟩
end Go.Proofs.Ytlejlmlgcehjiaa.netsCountW
