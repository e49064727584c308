/-
  The walk of the law ListsEpochs: it returns true and writes nothing that was there.
-/
import Derived.Test.YtffjijgmjbhhoaaLsWorks
import Derived.Test.YtffjijgmjbhhoaaLsEpo
import Derived.Deep.DeepCutAuto
namespace Go.Proofs.Ytffjijgmjbhhoaa.listsEpochsW
open Go.RowKit Go.Sort
theorem wrap_rem (a L : Nat) (_ : L ≤ 500) : (a : Int).tmod ((L : Int) + 1) = ((a % (L + 1) : Nat) : Int) := by
  rw [show ((L : Int) + 1) = ((L + 1 : Nat) : Int) by omega]
  exact (Int.ofNat_tmod a (L + 1)).symm
set_option maxRecDepth 100000 in
set_option maxHeartbeats 8000000 in
theorem walk (A : Option Addr) (c : Nat) (es : List En) (cut : Nat) (w : World) (ha : EsB w.heap.size w (.slice A es.length c) es) (h1 : cut < 65536) : Calls Try.prog 10 #[.slice A es.length c, .int .u16 (cut : Int)] w (fun e w' => e = .returned (.bool true) ∧ Below w.heap.size w w') := by
  by_cases hn : 300 < es.length
  · have t2 : (300 : Int) < (es.length : Int) := by omega
    clear ha
    generalize es.length = n at *
    go_enter Try.func10, Try.ntmps10
    go_wp2_with fail
    go_ret
    exact ⟨rfl, Below.refl _ _⟩
  · have t2 : ¬ (300 : Int) < (es.length : Int) := by omega
    have h30 : es.length ≤ 300 := by omega
    obtain ⟨_, _, hv, hl1, hl2, hl3⟩ := ha.len
    injection hv with q1 _ q3
    subst q1 q3
    unfold maxLen at hl2
    have HA : Hid (∀ X : World, Below w.heap.size w X → EsB w.heap.size X (.slice A es.length c) es) := Lib.hid fun X hX => RdB.below ha hX (Nat.le_refl _)
    have HS0 := Lib.hid (seals_any ha (by omega))
    have HEP : Hid (∀ X : World, Below w.heap.size w X → ∀ k, k < es.length → ∃ b o, A = some ⟨b, o, none⟩ ∧ X.cell? ⟨b, o + k * 6, none⟩ = some (.int .i64 (epA es k))) := Lib.hid fun X hX k hk => by
      obtain ⟨b, o, c', hv, _, x0, -⟩ := EsB.cells (HA.out X hX) hk
      injection hv with e1 _ _
      exact ⟨b, o, e1, by rw [epA_at hk]; exact x0⟩
    have HSA := Lib.hid (seals_at es)
    have HSE := Lib.hid (seals_end es)
    have hSl : (seals es).length ≤ 300 := Nat.le_trans (sls_len es es.length) h30
    have HTWO : Hid (risB es = false → 1 < (seals es).length) := Lib.hid seals_two
    have HUN : Hid (risB es = true → ∀ k, k < es.length → unl es (k + 1) = if cameB es k k = true then unl es k else unl es k + 1) := Lib.hid fun h k hk => unl_next h hk
    have HUE := Lib.hid (unl_end es)
    have HR1 : Hid (∀ X, Below w.heap.size w X → Calls Try.prog 22 #[.slice A es.length c] X (NumPost (.bool (risB es)) X)) := Lib.hid fun X hX => rising_any (HA.out X hX)
    have e1 := wrap_rem cut es.length (by omega)
    obtain ⟨i, hi, hi'⟩ : ∃ i, cut % (es.length + 1) = i ∧ i ≤ es.length := ⟨_, rfl, by have := Nat.mod_lt cut (show 0 < es.length + 1 by omega); omega⟩
    rw [hi] at e1
    have hic : i ≤ c := by omega
    have HR2 : Hid (risB es = true → ∀ X, Below w.heap.size w X → Calls Try.prog 22 #[.slice A i c] X (NumPost (.bool true) X)) := Lib.hid fun hr X hX => by
      have h := rising_any (EsB.take (HA.out X hX) hi')
      rwa [risB_take i hr] at h
    clear ha HA hl3 hi
    unfold SealsPost at HS0
    go_enter Try.func10, Try.ntmps10
    go_wp2_with fail
    refine (HS0.out).mono ?_
    rintro e w1 ⟨As, cs, rfl, ho, hb1'⟩
    have hb1 := hb1'.out
    have HRW : Hid (∀ X : World, Below w1.heap.size w1 X → ∀ k, k < (seals es).length → ∃ b o, As = some ⟨b, o, none⟩ ∧ X.cell? ⟨b, o + k, none⟩ = some (.int .i64 ((seals es).getD k 0))) := Lib.hid fun X hX k hk => by
      have hl : (seals es).length ≤ (seals es).length := Nat.le_refl _
      obtain ⟨b, o, c', hv, hbb, x0⟩ := RdB.at_ (own_ints ho.out) hl hk
      injection hv with e1 _ _
      exact ⟨b, o, e1, (hX.cell (p := ⟨b, _, none⟩) hbb).trans x0⟩
    clear HS0 ho hb1'
    generalize seals es = S at *
    go_wp2_with fail
    go_loopw [6, 7] (fun av iv wr => ∃ (k p : Nat), k ≤ S.length ∧ iv = .int .i64 k ∧ av = .int .i64 p ∧ Hid (prevS S k = (p : Int)) ∧ Below w1.heap.size w1 wr) (fun _ iv _ => S.length - (intOf iv).toNat)
    case atStart => exact ⟨0, 0, Nat.zero_le _, rfl, rfl, Lib.hid rfl, Below.refl _ _⟩
    case round =>
      obtain ⟨k, p, hk, rfl, rfl, hp, hst⟩ := hrel
      by_cases hlt : k < S.length
      · obtain ⟨p', q, g1, g2, hpq, hqL, hne, hsame⟩ := HSA.out k hlt
        obtain rfl : p' = p := by have := hp.out; omega
        obtain ⟨bs, os, rfl, xs⟩ := HRW.out wr hst k hlt
        rw [g2] at xs
        have hB := hb1.trans (hst.mono hb1.size)
        have hii : (k : Int) < (S.length : Int) := by omega
        have HPN : Hid (prevS S (k + 1) = (q : Int)) := Lib.hid (by rw [prevS_next, g2])
        obtain ⟨b1, o1, rfl, y0⟩ := HEP.out wr hB p' (by omega)
        have d1 : decide ((q : Int) ≤ (p' : Int)) = false := decide_eq_false (by omega)
        have d1' : decide (q ≤ p') = false := decide_eq_false (by omega)
        have d2 : decide ((es.length : Int) < (q : Int)) = false := decide_eq_false (by omega)
        have d2' : decide (es.length < q) = false := decide_eq_false (by omega)
        have hpL : p' < es.length := by omega
        have hpL' : (p' : Int) < (es.length : Int) := by omega
        have HSM := Lib.hid hsame
        have HQ := Lib.hid g2
        clear HSA HSE HTWO HUN HUE HR1 HR2 hp g1 g2 hsame hk
        go_upto_region 8 with fail
        go_cut [56] (fun s wx => s = .bool false ∧ Below w1.heap.size w1 wx)
        case first =>
          rcases Nat.eq_zero_or_pos p' with h0 | h0
          · have d3 : decide (0 < (p' : Int)) = false := decide_eq_false (by omega)
            have d3' : decide (0 < p') = false := decide_eq_false (by omega)
            have d4 : ¬ (0 : Int) < (p' : Int) := by omega
            clear HRW HEP HSM HPN hne h0
            go_quiet (fail)
            go_wp2_with fail
            go_meet
            case rel => exact ⟨rfl, below_drewN hst _⟩
          · obtain ⟨pp, hpp, hpi⟩ : ∃ pp : Nat, Hid (p' - 1 = pp) ∧ (p' : Int) - 1 = (pp : Int) := ⟨p' - 1, Lib.hid rfl, by omega⟩
            obtain ⟨b2, o2, hv2, y1⟩ := HEP.out wr hB pp (by have := hpp.out; omega)
            injection hv2 with hv2
            injection hv2 with e2 e3
            subst e2 e3
            have hn2 := hne h0
            rw [hpp.out] at hn2
            have d3 : decide (0 < (p' : Int)) = true := decide_eq_true (by omega)
            have d3' : decide (0 < p') = true := decide_eq_true h0
            have d5 : (pp : Int) < (es.length : Int) := by omega
            have d6 : pp < es.length := by omega
            clear HRW HEP HSM HPN hne hpp
            generalize epA es p' = u at *
            generalize epA es pp = v at *
            have d4 : (u == v) = false := beq_eq_false_iff_ne.2 hn2
            clear hn2
            go_quiet (fail)
            go_wp2_with fail
            go_meet
            case rel => exact ⟨rfl, below_drewN hst _⟩
        case rest =>
        obtain ⟨rfl, hst2⟩ := hcut
        clear hst hB xs y0 hne
        obtain ⟨p1, hp1, hp1i⟩ : ∃ p1 : Nat, p1 = p' + 1 ∧ (p' : Int) + 1 = (p1 : Int) := ⟨p' + 1, rfl, by omega⟩
        replace hp1 := Lib.hid hp1
        go_wp2_with fail
        clear hp1i
        go_loopw [8] (fun mv wx => ∃ m : Nat, p' < m ∧ m ≤ q ∧ mv = .int .i64 m ∧ Below w1.heap.size w1 wx) (fun mv _ => q - (intOf mv).toNat)
        case atStart => exact ⟨p1, by have := hp1.out; omega, by have := hp1.out; omega, rfl, hst2⟩
        case round =>
          obtain ⟨m, hpm, hmq, rfl, hst3⟩ := hrel
          have hB3 := hb1.trans (hst3.mono hb1.size)
          obtain ⟨bs', os', hv3, xs⟩ := HRW.out wr hst3 k hlt
          injection hv3 with hv3
          injection hv3 with e2 e3
          subst e2 e3
          rw [HQ.out] at xs
          by_cases hm : m < q
          · obtain ⟨b2, o2, hv2, y0⟩ := HEP.out wr hB3 p' hpL
            injection hv2 with hv2
            injection hv2 with e2 e3
            subst e2 e3
            obtain ⟨b2, o2, hv2, y1⟩ := HEP.out wr hB3 m (by omega)
            injection hv2 with hv2
            injection hv2 with e2 e3
            subst e2 e3
            rw [HSM.out m (by omega) hm] at y1
            have d5 : (m : Int) < (es.length : Int) := by omega
            have d6 : m < es.length := by omega
            have d7 : (m : Int) < (q : Int) := by omega
            clear HRW HEP HSM HPN
            generalize epA es p' = u at *
            go_wp2_with fail
            go_quiet (fail)
            go_wp2_with fail
            go_roundw
            case rel => exact ⟨m + 1, by omega, by omega, by go_num, below_drewN hst3 _⟩
            case measure => simp [intOf]; omega
          · have d7 : ¬ (m : Int) < (q : Int) := by omega
            clear HEP HSM HRW
            go_wp2_with fail
            go_roundw
            case rel => exact ⟨k + 1, q, by omega, by go_num, rfl, HPN, hst3⟩
            case measure => simp [intOf]; omega
      · obtain rfl : k = S.length := by omega
        obtain rfl : p = es.length := by have := hp.out; have := HSE.out; omega
        have hii : ¬ (S.length : Int) < (S.length : Int) := by omega
        have hB := hb1.trans (hst.mono hb1.size)
        clear hp HSE HSA HRW hst hb1
        cases hr : risB es with
        | false =>
          rw [hr] at HR1
          have ht := HTWO.out hr
          have ht' : (1 : Int) < (S.length : Int) := by omega
          replace hr := Lib.hid hr
          clear HEP HUN HUE HR2 HTWO
          go_wp2_with fail
          refine (HR1.out wr hB).mono ?_
          rintro e w3 ⟨rfl, hb3⟩
          have hB3 := hB.trans (hb3.mono hB.size)
          go_wp2_with fail
          refine (lsWorks_any w3).mono ?_
          rintro e w4 ⟨rfl, hb4⟩
          go_wp2_with fail
          go_ret
          exact ⟨rfl, hB3.trans (hb4.mono hB3.size)⟩
        | true =>
          rw [hr] at HR1
          have HUN := Lib.hid (HUN.out hr)
          have HR2 := Lib.hid (HR2.out hr)
          replace hr := Lib.hid hr
          clear HTWO
          go_wp2_with fail
          refine (HR1.out wr hB).mono ?_
          rintro e w3 ⟨rfl, hb3⟩
          have hB3 := hB.trans (hb3.mono hB.size)
          clear HR1 hb3 hB
          go_wp2_with fail
          go_loopw [9, 10] (fun uv iv wx => ∃ (k u : Nat), k ≤ es.length ∧ u ≤ k ∧ iv = .int .i64 k ∧ uv = .int .i64 u ∧ Hid (unl es k = u) ∧ Below w.heap.size w wx) (fun _ iv _ => es.length - (intOf iv).toNat)
          case atStart => exact ⟨0, 0, Nat.zero_le _, Nat.le_refl _, rfl, rfl, Lib.hid rfl, hB3⟩
          case round =>
            obtain ⟨k, u, hk, huk, rfl, rfl, hu, hst⟩ := hrel
            by_cases hlt : k < es.length
            · have hii : (k : Int) < (es.length : Int) := by omega
              have HU := Lib.hid (HUN.out k hlt)
              clear HUN HUE HR2
              go_wp2_with fail
              go_loopw [11, 12] (fun cv mv wx => ∃ (m : Nat) (cb : Bool), m ≤ k ∧ mv = .int .i64 m ∧ cv = .bool cb ∧ Hid (cameB es k m = cb) ∧ Below w.heap.size w wx) (fun _ mv _ => k - (intOf mv).toNat)
              case atStart => exact ⟨0, false, Nat.zero_le _, rfl, rfl, Lib.hid rfl, hst⟩
              case round =>
                obtain ⟨m, cb, hm, rfl, rfl, hcm, hst2⟩ := hrel
                by_cases hmk : m < k
                · have hmm : (m : Int) < (k : Int) := by omega
                  have hml : m < es.length := by omega
                  have hml' : (m : Int) < (es.length : Int) := by omega
                  cases cb with
                  | true =>
                    have hc2 : Hid (cameB es k (m + 1) = true) := Lib.hid (by rw [cameB_next, hcm.out]; rfl)
                    clear HEP HU hu hcm
                    go_wp2_with fail
                    go_quiet (fail)
                    go_wp2_with fail
                    go_roundw
                    case rel => exact ⟨m + 1, true, by omega, by go_num, rfl, hc2, below_drewN hst2 _⟩
                    case measure => simp [intOf]; omega
                  | false =>
                    obtain ⟨b1, o1, rfl, y0⟩ := HEP.out wr hst2 k hlt
                    obtain ⟨b2, o2, hv2, y1⟩ := HEP.out wr hst2 m hml
                    injection hv2 with hv2
                    injection hv2 with e2 e3
                    subst e2 e3
                    have hc2 : Hid (cameB es k (m + 1) = (epA es m == epA es k)) := Lib.hid (by rw [cameB_next, hcm.out]; rfl)
                    clear HEP HU hu hcm
                    generalize epA es m = x at *
                    generalize epA es k = y at *
                    by_cases hxy : x = y
                    · subst hxy
                      go_wp2_with fail
                      go_quiet (fail)
                      go_wp2_with fail
                      go_roundw
                      case rel => exact ⟨m + 1, true, by omega, by go_num, rfl, Lib.hid (hc2.out.trans (by simp)), below_drewN hst2 _⟩
                      case measure => simp [intOf]; omega
                    · have hxb : (x == y) = false := beq_eq_false_iff_ne.2 hxy
                      clear hxy
                      go_wp2_with fail
                      go_quiet (fail)
                      go_wp2_with fail
                      go_roundw
                      case rel => exact ⟨m + 1, false, by omega, by go_num, rfl, Lib.hid (hc2.out.trans hxb), below_drewN hst2 _⟩
                      case measure => simp [intOf]; omega
                · obtain rfl : m = k := by omega
                  have hmm : ¬ (m : Int) < (m : Int) := by omega
                  rw [hcm.out] at HU
                  clear hcm HEP
                  cases cb with
                  | true =>
                    rw [if_pos rfl] at HU
                    have hu2 : Hid (unl es (m + 1) = u) := Lib.hid (HU.out.trans hu.out)
                    clear HU hu
                    go_wp2_with fail
                    go_roundw
                    case rel => exact ⟨m + 1, u, by omega, by omega, by go_num, rfl, hu2, hst2⟩
                    case measure => simp [intOf]; omega
                  | false =>
                    rw [if_neg (by decide)] at HU
                    have hu2 : Hid (unl es (m + 1) = u + 1) := Lib.hid (by rw [HU.out, hu.out])
                    clear HU hu
                    go_wp2_with fail
                    go_roundw
                    case rel => exact ⟨m + 1, u + 1, by omega, by omega, by go_num, by go_num, hu2, hst2⟩
                    case measure => simp [intOf]; omega
            · obtain rfl : k = es.length := by omega
              obtain rfl : u = S.length := by have := hu.out; have := HUE.out; omega
              have hii : ¬ (es.length : Int) < (es.length : Int) := by omega
              clear HUN HUE hu HEP
              go_wp2_with fail
              refine (HR2.out wr hst).mono ?_
              rintro e w4 ⟨rfl, hb4⟩
              have hB4 := hst.trans (hb4.mono hst.size)
              go_wp2_with fail
              refine (lsWorks_any w4).mono ?_
              rintro e w5 ⟨rfl, hb5⟩
              go_wp2_with fail
              go_ret
              exact ⟨rfl, hB4.trans (hb5.mono hB4.size)⟩
end Go.Proofs.Ytffjijgmjbhhoaa.listsEpochsW
