/-
  The contract of Most of the document.
-/
import Derived.Test.YtmdchepmojlbbaaERef
namespace Go.Proofs.Ytmdchepmojlbbaa
open Go.RowKit
theorem same_drewN {w w' : World} (h : Below w.heap.size w w') (n : Nat) : Below w.heap.size w (w'.drewN n) := ⟨h.os, h.tape, h.output, h.size, h.block⟩
set_option maxRecDepth 100000 in
set_option maxHeartbeats 2000000 in
theorem rmost_any (v : Value) (l : List Int) (n : Int) (w : World) (hI : Ints w v l) :
    Calls Try.prog 17 #[v, .int .i64 n] w fun e w' => e = .returned (mostV l n) ∧ Below w.heap.size w w' := by
  have hI' := Lib.hid hI
  obtain ⟨A, c, rfl, hlc, hcm, _, h4⟩ := hI
  have H4 := Lib.hid h4
  clear h4
  unfold maxLen at hcm
  have HN := Lib.hid (sites_any n)
  rcases sites_split n with ⟨h1, h2, hs⟩ | ⟨h, hs⟩
  · rw [hs] at HN
    by_cases h3 : (l.length : Int) ≤ n
    · have hj : Epo.maj n = n / 2 + 1 := Epo.maj_range h1 h2
      have HJ := Lib.hid (rmajority_any n)
      rw [hj] at HJ
      have HF := Lib.hid (fun b is h => Epo.Found.all (l := l) (b := b) (is := is) h1 h2 h3 h)
      have hm : 2 ≤ n / 2 + 1 ∧ n / 2 + 1 ≤ 4 := by omega
      generalize n / 2 + 1 = m at *
      go_enter Try.func17, Try.ntmps17
      go_wp2_with fail
      refine (HN.out _).mono ?_
      rintro e w' ⟨rfl, rfl⟩
      go_wp2_with fail
      go_loopw [6, 7, 8] (fun b f i wr => ∃ (best : Int) (is : Bool) (k : Nat), k ≤ l.length ∧ b = .int .i64 best ∧ f = .bool is ∧ i = .int .i64 k ∧ Hid (Epo.Found l m.toNat k best is) ∧ Below w.heap.size w wr) (fun _ _ i _ => l.length - (intOf i).toNat)
      case atStart => exact ⟨0, false, 0, Nat.zero_le _, rfl, rfl, rfl, Lib.hid (Epo.Found.zero _ _), Below.refl _ _⟩
      case round =>
        obtain ⟨best, is, k, hk, rfl, rfl, rfl, HB, hb⟩ := hrel
        by_cases hlt : k < l.length
        · obtain ⟨b, off, rfl, hbw, hc⟩ := H4.out (by omega)
          have HC := Lib.hid hc
          have hck := (hb.cell (p := ⟨b, off + k, none⟩) hbw).trans (hc k hlt)
          have HS := Lib.hid (fun j (hj : j < l.length) => Epo.count_step l (l.getD k 0) j hj)
          have HH := Lib.hid (fun (hc : m.toNat ≤ l.countP (fun y => decide (l.getD k 0 ≤ y))) hb => Epo.Found.hit (b := best) (is := is) HB.out hlt hc hb)
          have HL := Lib.hid (fun (hi : is = true) (hc : l.getD k 0 ≤ best) => by subst hi; exact Epo.Found.low (b := best) HB.out hlt hc : is = true → l.getD k 0 ≤ best → Epo.Found l m.toNat (k + 1) best true)
          have HZ := Lib.hid (fun (hc : l.countP (fun y => decide (l.getD k 0 ≤ y)) < m.toNat) => Epo.Found.miss (b := best) (is := is) HB.out hlt hc)
          clear hc
          generalize l.getD k 0 = x at *
          clear H4 hI' HB
          go_wp2_with fail
          go_loopw [9, 10] (fun p i wr => ∃ (q j : Nat), j ≤ l.length ∧ q ≤ j ∧ p = .int .i64 q ∧ i = .int .i64 j ∧ Hid (q = (l.take j).countP (fun y => decide (x ≤ y))) ∧ Below w.heap.size w wr) (fun _ i _ => l.length - (intOf i).toNat)
          case atStart => exact ⟨0, 0, Nat.zero_le _, Nat.le_refl _, rfl, rfl, Lib.hid rfl, hb⟩
          case round =>
            obtain ⟨q, j, hj1, hq, rfl, rfl, HQ, hb2⟩ := hrel
            by_cases hlj : j < l.length
            · have hcj := (hb2.cell (p := ⟨b, off + j, none⟩) hbw).trans (HC.out j hlj)
              have hck2 := (hb2.cell (p := ⟨b, off + k, none⟩) hbw).trans ((hb.cell (p := ⟨b, off + k, none⟩) hbw).symm.trans hck)
              have HS' := Lib.hid (HS.out j hlj)
              rw [← HQ.out] at HS'
              generalize l.getD j 0 = y at *
              by_cases hxy : x ≤ y
              · have HT := Lib.hid (HS'.out.trans (by rw [if_pos hxy]))
                clear HS'
                go_wp2_with fail
                go_quiet (fail)
                go_wp2_with fail
                go_roundw
                case rel => exact ⟨q + 1, j + 1, by omega, by omega, by go_num, by go_num, Lib.hid HT.out.symm, same_drewN hb2 _⟩
                case measure => simp [intOf]; omega
              · have HT := Lib.hid (HS'.out.trans (by rw [if_neg hxy, Nat.add_zero]))
                clear HS'
                go_wp2_with fail
                go_quiet (fail)
                go_wp2_with fail
                go_roundw
                case rel => exact ⟨q, j + 1, by omega, by omega, rfl, by go_num, Lib.hid HT.out.symm, same_drewN hb2 _⟩
                case measure => simp [intOf]; omega
            · obtain rfl : j = l.length := by omega
              rw [List.take_length] at HQ
              have hck2 := (hb2.cell (p := ⟨b, off + k, none⟩) hbw).trans ((hb.cell (p := ⟨b, off + k, none⟩) hbw).symm.trans hck)
              rw [← HQ.out] at HH HZ
              clear HQ HS HC hck
              by_cases hmq : m ≤ (q : Int)
              · cases is with
                | false =>
                  have HH' := Lib.hid (HH.out (by omega) (.inl rfl))
                  clear HH HL HZ
                  go_wp2_with fail
                  refine (HJ.out _).mono ?_
                  rintro e w' ⟨rfl, rfl⟩
                  go_wp2_with fail
                  go_roundw
                  case rel => exact ⟨x, true, k + 1, by omega, rfl, rfl, by go_num, HH', hb2⟩
                  case measure => simp [intOf]; omega
                | true =>
                  by_cases hbx : best < x
                  · have HH' := Lib.hid (HH.out (by omega) (.inr hbx))
                    clear HH HL HZ
                    go_wp2_with fail
                    refine (HJ.out _).mono ?_
                    rintro e w' ⟨rfl, rfl⟩
                    go_wp2_with fail
                    go_roundw
                    case rel => exact ⟨x, true, k + 1, by omega, rfl, rfl, by go_num, HH', hb2⟩
                    case measure => simp [intOf]; omega
                  · have HL' := Lib.hid (HL.out rfl (by omega))
                    clear HH HL HZ
                    go_wp2_with fail
                    refine (HJ.out _).mono ?_
                    rintro e w' ⟨rfl, rfl⟩
                    go_wp2_with fail
                    go_roundw
                    case rel => exact ⟨best, true, k + 1, by omega, rfl, rfl, by go_num, HL', hb2⟩
                    case measure => simp [intOf]; omega
              · have HZ' := Lib.hid (HZ.out (by omega))
                clear HH HL HZ
                go_wp2_with fail
                refine (HJ.out _).mono ?_
                rintro e w' ⟨rfl, rfl⟩
                go_wp2_with fail
                go_roundw
                case rel => exact ⟨best, is, k + 1, by omega, rfl, rfl, by go_num, HZ', hb2⟩
                case measure => simp [intOf]; omega
        · obtain rfl : k = l.length := by omega
          have HX := Lib.hid (HF.out _ _ HB.out)
          go_wp2_with fail
          go_ret2
          exact ⟨by unfold mostV; rw [HX.out]; rfl, hb⟩
    · have HM := Lib.hid (most_out (l := l) (n := n) (by omega))
      go_enter Try.func17, Try.ntmps17
      go_wp2_with fail
      refine (HN.out _).mono ?_
      rintro e w' ⟨rfl, rfl⟩
      go_wp2_with fail
      go_ret2
      exact ⟨by rw [HM.out]; rfl, Below.refl _ _⟩
  · rw [hs] at HN
    have HM := Lib.hid (most_out (l := l) (n := n) (by omega))
    clear h
    go_enter Try.func17, Try.ntmps17
    go_wp2_with fail
    refine (HN.out _).mono ?_
    rintro e w' ⟨rfl, rfl⟩
    go_wp2_with fail
    go_ret2
    exact ⟨by rw [HM.out]; rfl, Below.refl _ _⟩
end Go.Proofs.Ytmdchepmojlbbaa
