/-
  The contract of Get of the document's answer: the int whose mark stands at a place.
-/
import Derived.Test.YtkdnhfeamibmdaaDoorGet
import Derived.Deep.RegionWith
namespace Go.Proofs.YtkdnhfeamibmdaaDoor
open Go.RowKit
open Go.Lib (uvarint zigzag unzigzag uvarint_small uvarint_big)
def RGetPost (g : Option (Int × Nat)) (w : World) (e : Ending) (w' : World) : Prop := Below w.heap.size w w' ∧ e = .returned (getR g)
theorem dec_far {l : List UInt8} (h : lead l = l.length ∨ 9 < lead l) : dec l = none := by
  have hl := lead_le l
  unfold dec
  rw [if_neg]
  omega
theorem drop_at {s : ByteArray} {k m : Nat} (h : k + m < s.size) : ∃ h', ((bytesOf s).drop k)[m]'h' = s[k + m] :=
  ⟨by rw [List.length_drop, bytes_len]; omega, by rw [List.getElem_drop]; rfl⟩
theorem dec_put_yes {l : List UInt8} {j X : Nat} (hlt : j < l.length) (hX : X < 18446744073709551616) (h : uvarint X = l.take (j + 1)) : dec l = some (X, j + 1) :=
  dec_iff.2 ⟨hX, h, by rw [h, List.length_take]; omega⟩
theorem dec_put_no {l : List UInt8} {j X : Nat} (hj : lead l = j) (hX : X = val (l.take (j + 1)) % 18446744073709551616) (h : uvarint X ≠ l.take (j + 1)) : dec l = none := by
  rcases hd : dec l with _ | ⟨f, k⟩
  · rfl
  · exfalso
    apply h
    obtain ⟨h1, h2, h3⟩ := dec_iff.1 hd
    have hk : k = j + 1 ∧ f = val (l.take (j + 1)) := by
      unfold dec at hd
      split at hd
      · simp only [Option.some.injEq, Prod.mk.injEq] at hd
        rw [hj] at hd
        exact ⟨hd.2.symm, hd.1.symm⟩
      · cases hd
    obtain ⟨rfl, hf⟩ := hk
    rw [hX, ← hf, Nat.mod_eq_of_lt h1, h2]
theorem val_drop {t : List UInt8} {q : Nat} (h : q < t.length) : val (t.drop q) = t[q].toNat % 128 + 128 * val (t.drop (q + 1)) := by
  rw [List.drop_eq_getElem_cons h]
  rfl
theorem got_end {s : ByteArray} {a : Int} (h : (s.size : Int) ≤ a) : got (bytesOf s) a = none := by
  by_cases h1 : a ≤ s.size
  · obtain rfl : a = ((s.size : Nat) : Int) := by omega
    rw [got_nat (Nat.le_of_eq (bytes_len s).symm), List.drop_of_length_le (Nat.le_of_eq (bytes_len s))]
    rfl
  · exact got_no (by rw [bytes_len]; omega)
theorem val_step {s : ByteArray} {k j q : Nat} {l : List UInt8} (h : k + j < s.size) (hq : q ≤ j) (hl : (bytesOf s).drop k = l) :
    Value.int IntKind.u64 ((val ((l.take (j + 1)).drop q) % 18446744073709551616 : Nat) : Int) = .int .u64 (IntKind.u64.wrap (IntKind.u64.wrap (((val ((l.take (j + 1)).drop (q + 1)) % 18446744073709551616 : Nat) : Int) * 128) + ((s[k + q]'(by omega)).toNat : Int) % 128)) := by
  have hlen : q < (l.take (j + 1)).length := by rw [← hl, List.length_take, List.length_drop, bytes_len]; omega
  have e : (l.take (j + 1))[q] = s[k + q]'(by omega) := by
    subst hl
    rw [List.getElem_take, List.getElem_drop]; rfl
  rw [val_drop hlen, e, IntKind.wrap_u64, IntKind.wrap_u64]
  congr 1
  omega
theorem byte_lead {s : ByteArray} {k j : Nat} {l : List UInt8} (h : k + j < s.size) (hl : (bytesOf s).drop k = l) (hj : j ≤ lead l) : (128 ≤ (s[k + j]'h).toNat ↔ j < lead l) := by
  subst hl
  have hlen : j < ((bytesOf s).drop k).length := by rw [List.length_drop, bytes_len]; omega
  have := lead_step _ j hlen hj
  rw [List.getElem_drop] at this
  exact this
set_option maxRecDepth 100000 in
set_option maxHeartbeats 1000000 in
theorem rget_any (s : ByteArray) (a : Int) (w : World) (hs : s.size ≤ maxLen) :
    Calls Tryd.prog 67 #[.string s, .int .i64 a] w (RGetPost (got (bytesOf s) a) w) := by
  by_cases h0 : 0 ≤ a
  · by_cases h1 : a < s.size
    · obtain ⟨k, rfl⟩ := Int.eq_ofNat_of_zero_le h0
      have hk : k < s.size := by omega
      have HG := Lib.hid (got_nat (l := bytesOf s) (k := k) (by rw [bytes_len]; omega))
      have hll := lead_le ((bytesOf s).drop k)
      rw [List.length_drop, bytes_len] at hll
      generalize hl : (bytesOf s).drop k = l at *
      have HLL := Lib.hid hl
      clear hl
      generalize hm : lead l = m at *
      have HM := Lib.hid hm
      clear hm
      unfold maxLen at hs
      have hk1 : decide ((k : Int) < 0) = false := by simp
      have hk2 : decide (s.size ≤ k) = false := by simp; omega
      go_enter Tryd.func67, Tryd.ntmps67
      go_wp2
      go_loop [7] (fun i => ∃ j : Nat, j ≤ m ∧ i = .int .i64 ((k : Int) + j)) (fun i => s.size - (intOf i).toNat)
      case atStart => exact ⟨0, Nat.zero_le _, by go_num⟩
      case round =>
        obtain ⟨j, hj, rfl⟩ := hrel
        by_cases hjm : j < m
        · have hb : 128 ≤ (s[k + j].toNat : Int) := by have := (byte_lead (s := s) (k := k) (j := j) (by omega) HLL.out (by rw [HM.out]; omega)).2 (by rw [HM.out]; exact hjm); omega
          go_wp2
          go_round
          case rel => exact ⟨j + 1, by omega, by go_num⟩
          case measure => simp [intOf]; omega
        · obtain rfl : j = m := by omega
          by_cases hend : k + j < s.size
          · have hb : (s[k + j].toNat : Int) < 128 := by have := byte_lead hend HLL.out (by rw [HM.out]; omega); rw [HM.out] at this; omega
            have hb2 : decide ((128 : Int) ≤ (s[k + j].toNat : Int)) = false := decide_eq_false (by omega)
            have hq1 : ((k : Int) + (j : Int) == (s.size : Int)) = false := beq_eq_false_iff_ne.2 (by omega)
            by_cases h9 : j ≤ 9
            · have hq2 : decide ((9 : Int) < (k : Int) + (j : Int) - (k : Int)) = false := decide_eq_false (by omega)
              go_wp2
              go_loop [8, 9] (fun f i => ∃ r : Nat, r ≤ j + 1 ∧ i = .int .i64 ((k : Int) + r - 1) ∧ f = .int .u64 ((val ((l.take (j + 1)).drop r) % 18446744073709551616 : Nat) : Int)) (fun _ i => (intOf i + 1 - k).toNat)
              case atStart => exact ⟨j + 1, Nat.le_refl _, by go_num, by simp [val]⟩
              case round =>
                obtain ⟨r, hr, rfl, rfl⟩ := hrel
                rcases r with _ | q
                · generalize hX : val ((l.take (j + 1)).drop 0) % 18446744073709551616 = X
                  have HX := Lib.hid hX
                  have hXl : X < 18446744073709551616 := by omega
                  clear hX
                  have e0 : (k : Int) + ((0 : Nat) : Int) - 1 = (k : Int) - 1 := by omega
                  rw [e0]
                  clear e0
                  have HX := Lib.hid (show val (l.take (j + 1)) % 18446744073709551616 = X from by simpa using HX.out)
                  have HT := Lib.hid (show (s.extract k (k + j + 1)).toList = l.take (j + 1) from by rw [Lib.toList_data, Lib.extract_data, ← HLL.out, show k + j + 1 - k = j + 1 by omega]; rfl)
                  have HU := Lib.hid (show mark (unzigzag X) = uvarint X from by unfold mark; rw [zig_unzig])
                  have HJ := Lib.hid (show j < l.length from by rw [← HLL.out, List.length_drop, bytes_len]; omega)
                  have hub := unzig_bd hXl
                  have hsum : IntKind.i64.wrap ((k : Int) + (j : Int) + 1) = (k : Int) + (j : Int) + 1 := IntWalk.i64_in _ (by omega)
                  by_cases hp : X % 2 = 1
                  · have hp1 : ((X : Int) % 2 == 1) = true := beq_iff_eq.2 (by omega)
                    have en : -((X : Int) / 2) - 1 = unzigzag X := by unfold unzigzag; rw [if_neg (by omega)]; omega
                    go_wp2
                    clear en
                    go_region_with (go_at_call 59; refine (rput_any _ _ hub.1 hub.2).mono ?_; rintro e w' ⟨rfl, hbl⟩)
                    all_goals
                      go_wp2
                      · have ht : (!mark (unzigzag X) == (s.extract k (k + j + 1)).toList) = true := by assumption
                        rw [HT.out, HU.out] at ht
                        have hd := dec_put_no HM.out HX.out.symm (by simpa using ht)
                        go_ret3
                        exact ⟨by first | exact hbl | exact (Below.refl _ _).drew.trans hbl | exact ((Below.refl _ _).drew.trans hbl).drew | exact hbl.drew, by rw [HG.out, hd]; rfl⟩
                      · have ht : (!mark (unzigzag X) == (s.extract k (k + j + 1)).toList) = false := by assumption
                        rw [HT.out, HU.out] at ht
                        have hd := dec_put_yes HJ.out hXl (by simpa using ht)
                        go_ret3
                        exact ⟨by first | exact hbl | exact (Below.refl _ _).drew.trans hbl | exact ((Below.refl _ _).drew.trans hbl).drew | exact hbl.drew, by rw [HG.out, hd]; rfl⟩
                  · have hp1 : ((X : Int) % 2 == 1) = false := beq_eq_false_iff_ne.2 (by omega)
                    have en : (X : Int) / 2 = unzigzag X := by unfold unzigzag; rw [if_pos (by omega)]; omega
                    go_wp2
                    clear en
                    go_region_with (go_at_call 59; refine (rput_any _ _ hub.1 hub.2).mono ?_; rintro e w' ⟨rfl, hbl⟩)
                    all_goals
                      go_wp2
                      · have ht : (!mark (unzigzag X) == (s.extract k (k + j + 1)).toList) = true := by assumption
                        rw [HT.out, HU.out] at ht
                        have hd := dec_put_no HM.out HX.out.symm (by simpa using ht)
                        go_ret3
                        exact ⟨by first | exact hbl | exact (Below.refl _ _).drew.trans hbl | exact ((Below.refl _ _).drew.trans hbl).drew | exact hbl.drew, by rw [HG.out, hd]; rfl⟩
                      · have ht : (!mark (unzigzag X) == (s.extract k (k + j + 1)).toList) = false := by assumption
                        rw [HT.out, HU.out] at ht
                        have hd := dec_put_yes HJ.out hXl (by simpa using ht)
                        go_ret3
                        exact ⟨by first | exact hbl | exact (Below.refl _ _).drew.trans hbl | exact ((Below.refl _ _).drew.trans hbl).drew | exact hbl.drew, by rw [HG.out, hd]; rfl⟩
                · have e0 : (k : Int) + ((q + 1 : Nat) : Int) - 1 = (k : Int) + (q : Int) := by omega
                  rw [e0]
                  clear e0
                  generalize hX : val ((l.take (j + 1)).drop (q + 1)) % 18446744073709551616 = X
                  have HX := Lib.hid hX
                  clear hX
                  go_wp2
                  go_round
                  case rel => exact ⟨q, by omega, rfl, by rw [val_step (s := s) (k := k) (by omega) (by omega) HLL.out, HX.out]⟩
                  case measure => simp [intOf]; omega
            · have HD := Lib.hid (dec_far (l := l) (.inr (by rw [HM.out]; omega)))
              go_wp2
              all_goals (go_ret3; exact ⟨Below.refl _ _, by rw [HG.out, HD.out]; rfl⟩)
          · have HD := Lib.hid (dec_far (l := l) (.inl (by rw [HM.out, ← HLL.out, List.length_drop, bytes_len]; omega)))
            go_wp2
            all_goals (go_ret3; exact ⟨Below.refl _ _, by rw [HG.out, HD.out]; rfl⟩)
    · have HG := Lib.hid (got_end (s := s) (a := a) (by omega))
      unfold maxLen at hs
      go_enter Tryd.func67, Tryd.ntmps67
      go_wp2
      go_ret3
      exact ⟨Below.refl _ _, by rw [HG.out]; rfl⟩
  · have HG := Lib.hid (got_no (l := bytesOf s) (a := a) (by omega))
    unfold maxLen at hs
    go_enter Tryd.func67, Tryd.ntmps67
    go_wp2
    go_ret3
    exact ⟨Below.refl _ _, by rw [HG.out]; rfl⟩
end Go.Proofs.YtkdnhfeamibmdaaDoor
