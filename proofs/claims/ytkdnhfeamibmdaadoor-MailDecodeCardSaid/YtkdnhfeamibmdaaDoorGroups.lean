/-
  The contract of groups of package marks: it reads the groups with which a text begins.
-/
import Derived.Test.YtkdnhfeamibmdaaDoorPut
namespace Go.Proofs.YtkdnhfeamibmdaaDoor
open Go.RowKit
open Go.Lib (uvarint zigzag unzigzag uvarint_small uvarint_big)
def bytesOf (s : ByteArray) : List UInt8 := s.data.toList
def GroupsPost (d : Option (Nat × Nat)) (w : World) (e : Ending) (w' : World) : Prop :=
  w = w' ∧ match d with
    | some (f, k) => e = .returned (.tuple #[.int .u64 f, .int .i64 k, .bool true])
    | none => e = .returned (.tuple #[.int .u64 0, .int .i64 0, .bool false])
theorem bytes_len (s : ByteArray) : (bytesOf s).length = s.size := rfl
theorem bytes_at (s : ByteArray) (k : Nat) (h : k < s.size) : (bytesOf s)[k]'h = s[k] := rfl
theorem or_group (l : List UInt8) (k : Nat) (h : k < l.length) (h10 : k < 10) :
    bits .or .u64 ((val (l.take k) % 18446744073709551616 : Nat) : Int) (IntKind.u64.wrap (IntKind.u64.wrap (bits .and .u8 (l[k].toNat : Int) 127) * 2 ^ (7 * k))) = ((val (l.take (k + 1)) % 18446744073709551616 : Nat) : Int) := by
  have hc := l[k].toNat_lt
  rw [val_snoc l k h, u8_and127 _ (by omega) (by omega)]
  have hv := val_lt (l.take k)
  rw [List.length_take, Nat.min_eq_left (by omega)] at hv
  generalize val (l.take k) = V at *
  generalize l[k].toNat = c at *
  have e1 : IntKind.u64.wrap ((c : Int) % 128) = ((c % 128 : Nat) : Int) := by rw [IntKind.wrap_u64]; omega
  rw [e1]
  have hg : c % 128 < 128 := by omega
  generalize c % 128 = g at *
  rcases (show k = 0 ∨ k = 1 ∨ k = 2 ∨ k = 3 ∨ k = 4 ∨ k = 5 ∨ k = 6 ∨ k = 7 ∨ k = 8 ∨ k = 9 by omega) with rfl | rfl | rfl | rfl | rfl | rfl | rfl | rfl | rfl | rfl
  all_goals
    rw [IntKind.wrap_u64]
    simp only [Nat.reduceMul, Nat.reducePow, Int.reducePow] at hv ⊢
  · rw [u64_orv0 _ _ (by omega) (by omega) (by omega) (by omega) (by omega)]; omega
  · rw [u64_orv7 _ _ (by omega) (by omega) (by omega) (by omega) (by omega)]; omega
  · rw [u64_orv14 _ _ (by omega) (by omega) (by omega) (by omega) (by omega)]; omega
  · rw [u64_orv21 _ _ (by omega) (by omega) (by omega) (by omega) (by omega)]; omega
  · rw [u64_orv28 _ _ (by omega) (by omega) (by omega) (by omega) (by omega)]; omega
  · rw [u64_orv35 _ _ (by omega) (by omega) (by omega) (by omega) (by omega)]; omega
  · rw [u64_orv42 _ _ (by omega) (by omega) (by omega) (by omega) (by omega)]; omega
  · rw [u64_orv49 _ _ (by omega) (by omega) (by omega) (by omega) (by omega)]; omega
  · rw [u64_orv56 _ _ (by omega) (by omega) (by omega) (by omega) (by omega)]; omega
  · rw [u64_orv63 _ _ (by omega) (by omega) (by omega) (by omega) (by omega)]; omega
theorem lead_at {l : List UInt8} {k : Nat} (h : k < l.length) (hkl : k ≤ lead l) (hc : l[k].toNat < 128) : lead l = k := by
  have := lead_step l k h hkl
  omega
theorem dec_yes {l : List UInt8} {k : Nat} (h : k < l.length) (hkl : k ≤ lead l) (hc : l[k].toNat < 128) (h10 : k < 10) (hb : lastB (l[k].toNat : Int) (k : Int) = true) : dec l = some (val (l.take (k + 1)) % 18446744073709551616, k + 1) := by
  have hl := lead_at h hkl hc
  have hd : dec l = some (val (l.take (k + 1)), k + 1) := by
    unfold dec
    rw [hl, if_pos]
    rw [getD_at h]
    unfold lastB at hb
    have hb' := of_decide_eq_true hb
    omega
  rw [hd, Nat.mod_eq_of_lt (dec_pos hd).2.2.2]
theorem dec_no {l : List UInt8} {k : Nat} (h : k < l.length) (hkl : k ≤ lead l) (hc : l[k].toNat < 128) (hb : lastB (l[k].toNat : Int) (k : Int) = false) : dec l = none := by
  have hl := lead_at h hkl hc
  unfold dec
  rw [hl, if_neg]
  rw [getD_at h]
  unfold lastB at hb
  have hb' := of_decide_eq_false hb
  omega
theorem dec_out {l : List UInt8} {k : Nat} (hkl : k ≤ lead l) (he : k = 10 ∨ k = l.length) : dec l = none := by
  have hl := lead_le l
  unfold dec
  rw [if_neg]
  omega
set_option maxRecDepth 100000 in
set_option maxHeartbeats 1000000 in
theorem groups_any (s : ByteArray) (w : World) (hs : s.size ≤ maxLen) :
    Calls Tryd.prog 82 #[.string s] w (GroupsPost (dec (bytesOf s)) w) := by
  unfold maxLen at hs
  rcases Nat.lt_or_ge 10 s.size with hm | hm
  all_goals
    go_enter Tryd.func82, Tryd.ntmps82
    go_wp2
    go_loop [2, 10] (fun t i => ∃ k : Nat, k ≤ s.size ∧ k ≤ 10 ∧ k ≤ lead (bytesOf s) ∧ i = .int .i64 k ∧ t = .int .u64 ((val ((bytesOf s).take k) % 18446744073709551616 : Nat) : Int)) (fun _ i => 10 - (intOf i).toNat)
    case atStart => exact ⟨0, Nat.zero_le _, Nat.zero_le _, Nat.zero_le _, rfl, rfl⟩
    case round =>
      obtain ⟨k, hk, hk10, hkl, rfl, rfl⟩ := hrel
      have HL := Lib.hid hkl
      clear hkl
      generalize hX : val ((bytesOf s).take k) % 18446744073709551616 = X
      have HX := Lib.hid hX
      clear hX
      by_cases hlt : k < s.size
      · by_cases hlt10 : k < 10
        · have hu8 := s[k].toNat_lt
          by_cases h128 : 128 ≤ s[k].toNat
          · have hst := lead_step (bytesOf s) k hlt HL.out
            rw [bytes_at s k hlt] at hst
            have HS := Lib.hid (hst.1 h128)
            clear hst
            go_wp2
            go_round
            case rel => exact ⟨k + 1, by omega, by omega, HS.out, by go_num, by rw [← or_group (bytesOf s) k hlt hlt10, HX.out]; rfl⟩
            case measure => simp [intOf]; omega
          · have hmask : bits .and .u8 (s[k].toNat : Int) 127 = (s[k].toNat : Int) := by rw [u8_and127 _ (by omega) (by omega)]; omega
            have HOR := Lib.hid (or_group (bytesOf s) k hlt hlt10)
            have hin : IntKind.u64.wrap (s[k].toNat : Int) = (s[k].toNat : Int) := by rw [IntKind.wrap_u64]; omega
            rw [bytes_at s k hlt, HX.out, hmask, hin] at HOR
            clear hin
            generalize hY : val ((bytesOf s).take (k + 1)) % 18446744073709551616 = Y at HOR
            by_cases hb : lastB (s[k].toNat : Int) (k : Int) = true
            · have HD := Lib.hid (dec_yes (l := bytesOf s) hlt HL.out (by rw [bytes_at s k hlt]; omega) hlt10 hb)
              rw [hY] at HD
              clear hY
              have HB := Lib.hid hb
              clear hb
              go_wp2_with (go_at_call 84; refine (last_yes _ _ _ HB.out (by omega) (by omega) (by omega) (by omega)).mono ?_; rintro e w' ⟨rfl, rfl⟩)
              go_ret3
              rw [HD.out]
              exact ⟨rfl, by rw [HOR.out]; rfl⟩
            · have hb : lastB (s[k].toNat : Int) (k : Int) = false := by simpa using hb
              have HD := Lib.hid (dec_no (l := bytesOf s) hlt HL.out (by rw [bytes_at s k hlt]; omega) hb)
              clear hY
              have HB := Lib.hid hb
              clear hb
              go_wp2_with (go_at_call 84; refine (last_no _ _ _ HB.out (by omega) (by omega) (by omega) (by omega)).mono ?_; rintro e w' ⟨rfl, rfl⟩)
              go_ret3
              rw [HD.out]
              exact ⟨rfl, rfl⟩
        · have HD := Lib.hid (dec_out HL.out (.inl (by omega)))
          go_wp2
          all_goals (go_ret3; rw [HD.out]; exact ⟨rfl, rfl⟩)
      · have HD := Lib.hid (dec_out HL.out (.inr (by rw [bytes_len]; omega)))
        go_wp2
        all_goals (go_ret3; rw [HD.out]; exact ⟨rfl, rfl⟩)
end Go.Proofs.YtkdnhfeamibmdaaDoor
